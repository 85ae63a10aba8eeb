/-
  THE WALK OF PowerThrows.
-/
import Derived.Test.YtonfcbmncefagaaAwake
namespace Go.Proofs.Ytonfcbmncefagaa
open Go.RowKit
set_option linter.unusedVariables false

/-- A number that was thrown; thrown once more, by what caught it. -/
def num1 (n : Int) : List PanicEntry := [{ v := .iface 2 (.int .i64 n), recovered := false }]
def num2 (n : Int) : List PanicEntry := [{ v := .iface 2 (.int .i64 n), recovered := false }, { v := .iface 2 (.int .i64 n), recovered := true }]

theorem throw18 (a : Nat) (n : Int) (w : World) (h : At w a #[.int .i64 n] 2) : Calls Try.prog 18 #[.pointer (some ⟨a, 0, none⟩)] w fun e w' => e = .panicked (num1 n) ∧ w' = w := by
  have hc : w.cell? ⟨a, 0, none⟩ = some (.int .i64 n) := h.cell 0
  go_enter Try.func18, Try.ntmps18
  go_wp2
  exact ⟨rfl, rfl, rfl⟩

theorem run_throws (a : Nat) (n : Int) (w : World) (h : At w a #[.int .i64 n] 2) : Calls Try.prog 10 #[.func (.func 18) #[] #[.pointer (some ⟨a, 0, none⟩)]] w fun e w' => e = .panicked (num2 n) ∧ But (fun _ => False) w w' := by
  have hmf : ∀ (fn : Fn) (first cap : Array Value) (w : World), (Instr.makeFunc fn first cap).run Try.prog w = .ok (.func fn first cap) w := fun _ _ _ _ => rfl
  have hnil : ∀ (cap : Array Value) (w : World), (binOp BinOp.eql 1 (.func (.func 18) #[] cap) .nilFunc).run Try.prog w = .ok (.bool false) w := fun _ _ => by rfl
  go_enter_defers Try.func10, Try.ntmps10
  go_wp2_with fail
  refine (throw18 a n _ (h.alloc _)).mono ?_
  rintro e w' ⟨rfl, rfl⟩
  unfold num1
  go_wp2
  refine leaves_cons (f := 24) (args := #[.pointer (some ⟨w.heap.size, 0, none⟩)]) (by simp) (by simp [go_sem]) ?_
  refine (catch_other ⟨w.heap.size, 0, none⟩ n [] _).mono ?_
  rintro e u' w'' ⟨rfl, rfl, o, rfl⟩
  simp [Leaves, raised, num2]
  exact ((But.refl _ _).alloc _).alloc _

theorem throw17 (a : Nat) (n : Int) (w : World) (h : At w a #[.int .i64 n] 2) : Calls Try.prog 17 #[.pointer (some ⟨a, 0, none⟩)] w fun e w' => e = .panicked (num2 n) ∧ But (fun _ => False) w w' := by
  have hmf : ∀ (fn : Fn) (first cap : Array Value) (w : World), (Instr.makeFunc fn first cap).run Try.prog w = .ok (.func fn first cap) w := fun _ _ _ _ => rfl
  go_enter Try.func17, Try.ntmps17
  go_wp2_with fail
  refine (run_throws a n w h).mono ?_
  rintro e w' ⟨rfl, hb⟩
  unfold num2
  go_wp2
  exact ⟨rfl, rfl, hb⟩

theorem caught (p q : Nat) (n x : Int) (f : Bool) (older : List PanicEntry) (w : World) (hp : At w p #[.int .i64 x] 2) (hq : At w q #[.bool f] 4) (hpq : ¬ p = q) :
    CallsD Try.prog 25 #[.pointer (some ⟨p, 0, none⟩), .pointer (some ⟨q, 0, none⟩)] (.panicking ({ v := .iface 2 (.int .i64 n), recovered := false } :: older)) w fun e u' w' => e = .returned (.tuple #[]) ∧ u' = .panicking ({ v := .iface 2 (.int .i64 n), recovered := true } :: older) ∧
      w' = (w.setCell ⟨p, 0, none⟩ (.int .i64 n)).setCell ⟨q, 0, none⟩ (.bool true) := by
  have hta : ∀ w : World, (Instr.typeAssert (.iface 2 (.int .i64 n)) 20 2 true).run Try.prog w = .ok (.tuple #[.int .i64 n, .bool true]) w := fun _ => by kernel_rfl
  have hc : w.cell? ⟨p, 0, none⟩ = some (.int .i64 x) := hp.cell 0
  have hz := hp.frozen 0
  have hc' : (w.setCell ⟨p, 0, none⟩ (.int .i64 n)).cell? ⟨q, 0, none⟩ = some (.bool f) := (hq.other (p := ⟨p, 0, none⟩) hpq (.int .i64 n)).cell 0
  have hz' := (hq.other (p := ⟨p, 0, none⟩) hpq (.int .i64 n)).frozen 0
  refine callsD_of_wpS Try.func25 rfl fun c₀ cs hu => ?_
  apply wpS_region
  simp [wpOpsS, go_sem, recoverD, hu, Try.ntmps25, hta, hc, hz, hc', hz']
  simp [bodyPostS, results, Try.results25]

theorem thrown_any (a : Nat) (n : Int) (w : World) (h : At w a #[.int .i64 n] 2) : Calls Try.prog 16 #[.func (.func 17) #[] #[.pointer (some ⟨a, 0, none⟩)]] w fun e w' => e = .returned (.tuple #[.int .i64 n, .bool true]) ∧ Below w.heap.size w w' := by
  have hmf : ∀ (fn : Fn) (first cap : Array Value) (w : World), (Instr.makeFunc fn first cap).run Try.prog w = .ok (.func fn first cap) w := fun _ _ _ _ => rfl
  go_enter_defers Try.func16, Try.ntmps16
  go_wp2_with fail
  refine (throw17 a n _ ((h.alloc _).alloc _)).mono ?_
  rintro e w' ⟨rfl, hb⟩
  unfold num2
  go_wp2
  refine leaves_cons (f := 25) (args := #[.pointer (some ⟨w.heap.size, 0, none⟩), .pointer (some ⟨w.heap.size + 1, 0, none⟩)]) (by simp) (by simp [go_sem]) ?_
  have hp := (At.new (w := w) #[.int .i64 0] 2 rfl).alloc (.cells #[.bool false] 4)
  have hq := At.new (w := w.alloc (.cells #[.int .i64 0] 2)) (g := w.heap.size + 1) #[.bool false] 4 (by simp)
  have hp' := hp.but hb (fun h => h)
  have hq' := hq.but hb (fun h => h)
  refine (caught w.heap.size (w.heap.size + 1) n 0 false [{ v := .iface 2 (.int .i64 n), recovered := true }] w' hp' hq' (by omega)).mono ?_
  rintro e u' w'' ⟨rfl, rfl, rfl⟩
  have c1 := ((hp'.set 0 (.int .i64 n)).other (p := ⟨w.heap.size + 1, 0, none⟩) (by simp) (.bool true)).cell 0
  have c2 := ((hq'.other (p := ⟨w.heap.size, 0, none⟩) (by simp) (.int .i64 n)).set 0 (.bool true)).cell 0
  simp at c1 c2
  simp [Leaves, settle, results, Try.results16, go_sem, c1, c2]
  have B := (((Below.refl w.heap.size w).alloc (Nat.le_refl _) (.cells #[.int .i64 0] 2)).alloc (by simp) (.cells #[.bool false] 4)).trans (hb.below (B := w.heap.size) (fun _ h => h.elim) (by simp; omega))
  exact (B.setCell (p := ⟨w.heap.size, 0, none⟩) (Nat.le_refl _) _).setCell (p := ⟨w.heap.size + 1, 0, none⟩) (by simp) _

set_option maxHeartbeats 800000 in
theorem throws_walk (n : Int) (w : World) :
    Calls Try.prog 5 #[.int .i64 n] w fun e w' => e = .returned (.bool true) ∧ Below w.heap.size w w' := by
  have hmf : ∀ (fn : Fn) (first cap : Array Value) (w : World), (Instr.makeFunc fn first cap).run Try.prog w = .ok (.func fn first cap) w := fun _ _ _ _ => rfl
  go_enter Try.func5, Try.ntmps5
  go_wp2_with fail
  refine (awake_any _).mono ?_
  rintro e w1 ⟨rfl, hb1⟩
  have B1 := Lib.hid (((Below.refl w.heap.size w).alloc (Nat.le_refl _) (.cells #[.int .i64 n] 2)).trans (hb1.mono (by simp)))
  have A1 := Lib.hid ((At.new (w := w) #[.int .i64 n] 2 rfl).below hb1 (by simp))
  clear hb1
  go_wp2_with fail
  refine (thrown_any w.heap.size n w1 A1.out).mono ?_
  rintro e w2 ⟨rfl, hb2⟩
  have B2 := Lib.hid (B1.out.trans (hb2.mono B1.out.size))
  have hc2 : w2.cell? ⟨w.heap.size, 0, none⟩ = some (.int .i64 n) := (A1.out.below hb2 A1.out.lt).cell 0
  clear hb2
  go_wp2_with fail
  refine (run_nil w2).mono ?_
  rintro e w3 ⟨rfl, hb3⟩
  have B3 := Lib.hid (B2.out.trans (hb3.mono B2.out.size))
  clear hb3
  go_wp2
  go_ret
  exact ⟨rfl, B3.out⟩

end Go.Proofs.Ytonfcbmncefagaa
