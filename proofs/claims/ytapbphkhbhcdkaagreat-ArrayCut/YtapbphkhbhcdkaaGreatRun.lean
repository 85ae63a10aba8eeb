/-
  THE WALKS OF Run AND OF WHAT IT DEFERS.
-/
import Derived.Test.YtapbphkhbhcdkaaGreatTick
namespace Go.Proofs.YtapbphkhbhcdkaaGreat
open Go.RowKit
set_option linter.unusedVariables false
set_option maxRecDepth 100000

theorem slots24 (p : Addr) (x : Value) : #[Value.pointer (some p)] ++ ((Array.replicate 14 undef).setIfInBounds 3 x).setIfInBounds 0 x = #[.pointer (some p), x, undef, undef, x, undef, undef, undef, undef, undef, undef, undef, undef, undef, undef] := rfl

theorem catch_idle (p : Addr) (w : World) :
    CallsD Tryz.prog 31 #[.pointer (some p)] .returning w fun e u' w' => e = .returned (.tuple #[]) ∧ u' = .returning ∧ w' = w := by
  have hnil : ∀ w : World, (binOp BinOp.eql 20 .nilIface .nilIface).run Tryz.prog w = .ok (.bool true) w := fun _ => by kernel_rfl
  refine callsD_of_wpS Tryz.func31 rfl fun c₀ cs hu => ?_
  apply wpS_seq
  apply wpS_region
  simp [wpOpsS, go_sem, recoverD, hu, Tryz.ntmps31, Exit.thenS]
  rw [slots24]
  refine wpS_of_wp ?_
  go_wp2
  cases c₀
  simp_all [bodyPostS, results, Tryz.results31]

theorem catch_out (g : Nat) (older : List PanicEntry) (w : World) (f : Bool) (h : At w g #[.bool f] 4) :
    CallsD Tryz.prog 31 #[.pointer (some ⟨g, 0, none⟩)] (.panicking ({ v := .iface 73 (.agg #[]), recovered := false } :: older)) w fun e u' w' => e = .returned (.tuple #[]) ∧ u' = .panicking ({ v := .iface 73 (.agg #[]), recovered := true } :: older) ∧ ∃ o, w' = (w.alloc o).setCell ⟨g, 0, none⟩ (.bool true) := by
  have hc : (w.alloc (.cells #[] 73)).cell? ⟨g, 0, none⟩ = some (.bool f) := (h.alloc (.cells #[] 73)).cell 0
  have hz := (h.alloc (.cells #[] 73)).frozen 0
  have hnil : ∀ w : World, (binOp BinOp.eql 20 (.iface 73 (.agg #[])) .nilIface).run Tryz.prog w = .ok (.bool false) w := fun _ => by kernel_rfl
  have hta : ∀ w : World, (Instr.typeAssert (.iface 73 (.agg #[])) 20 73 true).run Tryz.prog w = .ok (.tuple #[.agg #[], .bool true]) w := fun _ => by kernel_rfl
  refine callsD_of_wpS Tryz.func31 rfl fun c₀ cs hu => ?_
  apply wpS_seq
  apply wpS_region
  simp [wpOpsS, go_sem, recoverD, hu, Tryz.ntmps31, Exit.thenS]
  rw [slots24]
  refine wpS_of_wp ?_
  go_wp2
  simp [bodyPostS, results, Tryz.results31]
  exact ⟨_, rfl⟩

set_option maxRecDepth 100000 in
theorem run_nil (w : World) : Calls Tryz.prog 10 #[.nilFunc] w fun e w' => e = .returned (.bool false) ∧ Below w.heap.size w w' := by
  have hmf : ∀ (fn : Fn) (first cap : Array Value) (w : World), (Instr.makeFunc fn first cap).run Tryz.prog w = .ok (.func fn first cap) w := fun _ _ _ _ => rfl
  have hnil : ∀ w : World, (binOp BinOp.eql 1 .nilFunc .nilFunc).run Tryz.prog w = .ok (.bool true) w := fun _ => by kernel_rfl
  go_enter_defers Tryz.func10, Tryz.ntmps10
  go_wp2
  simp [bodyPostD, Leaves, results, Tryz.results10, go_sem]
  exact (Below.refl _ _).alloc (Nat.le_refl _) _

set_option maxRecDepth 100000 in
theorem run_some (K : Nat) (cap : Array Value) (w : World) (hK : ∀ w, (callFunc K cap).run Tryz.prog w = .ok (.enter K cap) w) (R : Bool → World → Prop)
    (h : Calls Tryz.prog K cap (w.alloc (.cells #[.bool false] 4)) fun e w' => ∃ gone, e = (if gone then .panicked out else .returned (.tuple #[])) ∧ R gone w' ∧ At w' w.heap.size #[.bool false] 4) : 
    Calls Tryz.prog 10 #[.func (.func K) #[] cap] w fun e w'' => ∃ gone w', e = .returned (.bool gone) ∧ R gone w' ∧ But (fun k => k = w.heap.size) w' w'' := by
  have hmf : ∀ (fn : Fn) (first cap : Array Value) (w : World), (Instr.makeFunc fn first cap).run Tryz.prog w = .ok (.func fn first cap) w := fun _ _ _ _ => rfl
  have hnil : ∀ w : World, (binOp BinOp.eql 1 (.func (.func K) #[] cap) .nilFunc).run Tryz.prog w = .ok (.bool false) w := fun _ => by rfl
  go_enter_defers Tryz.func10, Tryz.ntmps10
  go_wp2_with fail
  refine h.mono ?_
  rintro e w' ⟨gone, rfl, hR, hat⟩
  have hc : w'.cell? ⟨w.heap.size, 0, none⟩ = some (.bool false) := hat.cell 0
  have hz := hat.frozen 0
  have HR := Lib.hid hR
  have HA := Lib.hid hat
  clear h hR hat
  cases gone
  · simp only [Bool.false_eq_true, if_false]
    go_wp2
    refine leaves_cons (f := 31) (args := #[.pointer (some ⟨w.heap.size, 0, none⟩)]) (by simp) (by simp [go_sem]) ?_
    refine (catch_idle ⟨w.heap.size, 0, none⟩ _).mono ?_
    rintro e u' w'' ⟨rfl, rfl, rfl⟩
    simp [Leaves, settle, results, Tryz.results10, go_sem, hc]
    exact ⟨_, HR.out, But.own _ _ _ _⟩
  · simp only [if_true, out]
    go_wp2
    refine leaves_cons (f := 31) (args := #[.pointer (some ⟨w.heap.size, 0, none⟩)]) (by simp) (by simp [go_sem]) ?_
    refine (catch_out w.heap.size [] _ false HA.out).mono ?_
    rintro e u' w'' ⟨rfl, rfl, o, rfl⟩
    have hc' : (w'.alloc o).cell? ⟨w.heap.size, 0, none⟩ = some (.bool false) := (HA.out.alloc o).cell 0
    simp [Leaves, settle, results, Tryz.results10, go_sem, hc']
    exact ⟨_, HR.out, ((But.refl _ _).alloc o).trans (But.own _ _ _ _) (fun _ h _ => h)⟩

end Go.Proofs.YtapbphkhbhcdkaaGreat
