/-
  THE WALKS OF Run AND OF WHAT IT DEFERS.
-/
import Derived.Test.YtolienlbdfbdeaaTick
namespace Go.Proofs.Ytolienlbdfbdeaa
open Go.RowKit
set_option linter.unusedVariables false

theorem slots24 (p : Addr) (x : Value) : #[Value.pointer (some p)] ++ ((Array.replicate 14 undef).setIfInBounds 3 x).setIfInBounds 0 x = #[.pointer (some p), x, undef, undef, x, undef, undef, undef, undef, undef, undef, undef, undef, undef, undef] := rfl

theorem catch_idle (p : Addr) (w : World) :
    CallsD Try.prog 28 #[.pointer (some p)] .returning w fun e u' w' => e = .returned (.tuple #[]) ∧ u' = .returning ∧ w' = w := by
  have hnil : ∀ w : World, (binOp BinOp.eql 20 .nilIface .nilIface).run Try.prog w = .ok (.bool true) w := fun _ => by kernel_rfl
  refine callsD_of_wpS Try.func28 rfl fun c₀ cs hu => ?_
  apply wpS_seq
  apply wpS_region
  simp [wpOpsS, go_sem, recoverD, hu, Try.ntmps28, Exit.thenS]
  rw [slots24]
  refine wpS_of_wp ?_
  go_wp2
  cases c₀
  simp_all [bodyPostS, results, Try.results28]

theorem catch_out (g : Nat) (older : List PanicEntry) (w : World) (f : Bool) (h : At w g #[.bool f] 4) :
    CallsD Try.prog 28 #[.pointer (some ⟨g, 0, none⟩)] (.panicking ({ v := .iface 65 (.agg #[]), recovered := false } :: older)) w fun e u' w' => e = .returned (.tuple #[]) ∧ u' = .panicking ({ v := .iface 65 (.agg #[]), recovered := true } :: older) ∧ ∃ o, w' = (w.alloc o).setCell ⟨g, 0, none⟩ (.bool true) := by
  have hc : (w.alloc (.cells #[] 65)).cell? ⟨g, 0, none⟩ = some (.bool f) := (h.alloc (.cells #[] 65)).cell 0
  have hz := (h.alloc (.cells #[] 65)).frozen 0
  have hnil : ∀ w : World, (binOp BinOp.eql 20 (.iface 65 (.agg #[])) .nilIface).run Try.prog w = .ok (.bool false) w := fun _ => by kernel_rfl
  have hta : ∀ w : World, (Instr.typeAssert (.iface 65 (.agg #[])) 20 65 true).run Try.prog w = .ok (.tuple #[.agg #[], .bool true]) w := fun _ => by kernel_rfl
  refine callsD_of_wpS Try.func28 rfl fun c₀ cs hu => ?_
  apply wpS_seq
  apply wpS_region
  simp [wpOpsS, go_sem, recoverD, hu, Try.ntmps28, Exit.thenS]
  rw [slots24]
  refine wpS_of_wp ?_
  go_wp2
  simp [bodyPostS, results, Try.results28]
  exact ⟨_, rfl⟩

set_option maxRecDepth 100000 in
theorem run_nil (w : World) : Calls Try.prog 19 #[.nilFunc] w fun e w' => e = .returned (.bool false) ∧ Below w.heap.size w w' := by
  have hmf : ∀ (fn : Fn) (first cap : Array Value) (w : World), (Instr.makeFunc fn first cap).run Try.prog w = .ok (.func fn first cap) w := fun _ _ _ _ => rfl
  have hnil : ∀ w : World, (binOp BinOp.eql 1 .nilFunc .nilFunc).run Try.prog w = .ok (.bool true) w := fun _ => by kernel_rfl
  go_enter_defers Try.func19, Try.ntmps19
  go_wp2
  simp [bodyPostD, Leaves, results, Try.results19, go_sem]
  exact (Below.refl _ _).alloc (Nat.le_refl _) _

set_option maxRecDepth 100000 in
theorem run_some (K : Nat) (cap : Array Value) (w : World) (hK : ∀ w, (callFunc K cap).run Try.prog w = .ok (.enter K cap) w) (R : Bool → World → Prop)
    (h : Calls Try.prog K cap (w.alloc (.cells #[.bool false] 4)) fun e w' => ∃ gone, e = (if gone then .panicked out else .returned (.tuple #[])) ∧ R gone w' ∧ At w' w.heap.size #[.bool false] 4) : 
    Calls Try.prog 19 #[.func (.func K) #[] cap] w fun e w'' => ∃ gone w', e = .returned (.bool gone) ∧ R gone w' ∧ But (fun k => k = w.heap.size) w' w'' := by
  have hmf : ∀ (fn : Fn) (first cap : Array Value) (w : World), (Instr.makeFunc fn first cap).run Try.prog w = .ok (.func fn first cap) w := fun _ _ _ _ => rfl
  have hnil : ∀ w : World, (binOp BinOp.eql 1 (.func (.func K) #[] cap) .nilFunc).run Try.prog w = .ok (.bool false) w := fun _ => by rfl
  go_enter_defers Try.func19, Try.ntmps19
  go_wp2_with fail
  refine h.mono ?_
  rintro e w' ⟨gone, rfl, hR, hat⟩
  have hc : w'.cell? ⟨w.heap.size, 0, none⟩ = some (.bool false) := hat.cell 0
  have hz := hat.frozen 0
  have HR := Lib.hid hR
  have HA := Lib.hid hat
  clear h hR hat
  cases gone
  · simp only [Bool.false_eq_true, if_false]
    go_wp2
    refine leaves_cons (f := 28) (args := #[.pointer (some ⟨w.heap.size, 0, none⟩)]) (by simp) (by simp [go_sem]) ?_
    refine (catch_idle ⟨w.heap.size, 0, none⟩ _).mono ?_
    rintro e u' w'' ⟨rfl, rfl, rfl⟩
    simp [Leaves, settle, results, Try.results19, go_sem, hc]
    exact ⟨_, HR.out, But.own _ _ _ _⟩
  · simp only [if_true, out]
    go_wp2
    refine leaves_cons (f := 28) (args := #[.pointer (some ⟨w.heap.size, 0, none⟩)]) (by simp) (by simp [go_sem]) ?_
    refine (catch_out w.heap.size [] _ false HA.out).mono ?_
    rintro e u' w'' ⟨rfl, rfl, o, rfl⟩
    have hc' : (w'.alloc o).cell? ⟨w.heap.size, 0, none⟩ = some (.bool false) := (HA.out.alloc o).cell 0
    simp [Leaves, settle, results, Try.results19, go_sem, hc']
    exact ⟨_, HR.out, ((But.refl _ _).alloc o).trans (But.own _ _ _ _) (fun _ h _ => h)⟩

end Go.Proofs.Ytolienlbdfbdeaa
