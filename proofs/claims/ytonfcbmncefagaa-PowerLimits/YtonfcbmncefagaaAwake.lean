/-
  THE WALK OF Awake (chapter 3's example); Run over so many ticks.
-/
import Derived.Test.YtonfcbmncefagaaLoops
namespace Go.Proofs.Ytonfcbmncefagaa
open Go.RowKit
set_option linter.unusedVariables false

theorem run_min2 {P : Program} (w : World) (ts : Array TypeId) (t : TypeId) (x y X : Int) (h : X = min x y) : (Builtin.min_ ts t #[.int .i64 x, .int .i64 y]).run P w = .ok (.int .i64 X) w := by
  have e : X = if y < x then y else x := by split <;> omega
  rw [e]
  simp [Builtin.min_, Builtin.min2]

theorem Ticked.out_ {g : Nat} {u l : Int} {n : Nat} {w w' w'' : World} {o : Obj} {gone : Bool} (h : Ticked g u l n (w.alloc o) gone w') (hg : g < w.heap.size) (hb : But (fun k => k = w.heap.size) w' w'') : Ticked g u l n w gone w'' := by
  refine ⟨h.1, h.2.1.but hb (fun e => by omega), ?_⟩
  exact ((((But.refl (fun k => k = g) w).alloc o).trans h.2.2 (fun _ e _ => e)).trans hb (fun i e hi => by omega))

theorem run_ticks (K : Nat) (cap : Array Value) (g n : Nat) (u l : Int) (w : World) (hK : ∀ w, (callFunc K cap).run Try.prog w = .ok (.enter K cap) w) (hg : g < w.heap.size)
    (h : Calls Try.prog K cap (w.alloc (.cells #[.bool false] 4)) fun e w' => ∃ gone, Ends gone e ∧ Ticked g u l n (w.alloc (.cells #[.bool false] 4)) gone w') :
    Calls Try.prog 10 #[.func (.func K) #[] cap] w fun e w' => ∃ gone, e = .returned (.bool gone) ∧ Ticked g u l n w gone w' := by
  refine (run_some K cap w hK (fun gone w' => Ticked g u l n (w.alloc (.cells #[.bool false] 4)) gone w') (h.mono ?_)).mono ?_
  · rintro e w' ⟨gone, he, ht⟩
    exact ⟨gone, he, ht, (At.new _ _ rfl).but ht.2.2 (fun e => by omega)⟩
  · rintro e w'' ⟨gone, w', he, ht, hb⟩
    exact ⟨gone, he, ht.out_ hg hb⟩

theorem loop23 (b g : Nat) (w : World) (hb : Pv w b g) (hp : Pw w g 0 1) (hbg : ¬ b = g) :
    Calls Try.prog 23 #[.pointer (some ⟨b, 0, none⟩)] w fun e w' => ∃ gone, Ends gone e ∧ Ticked g 0 1 2 w gone w' := by
  have hcb : w.cell? ⟨b, 0, none⟩ = some (.pointer (some ⟨g, 0, none⟩)) := hb.cell 0
  have HB := Lib.hid hb
  have HP := Lib.hid hp
  clear hb hp
  go_enter Try.func23, Try.ntmps23
  go_wp2_with fail
  refine (tick_go g 0 1 w HP.out (by omega) (by omega) (by omega)).mono ?_
  rintro e w1 ⟨rfl, hp1, hb1⟩
  have HP1 := Lib.hid (show Pw w1 g 1 0 from hp1)
  have HB1 := Lib.hid hb1
  have hcb1 : w1.cell? ⟨b, 0, none⟩ = some (.pointer (some ⟨g, 0, none⟩)) := (At.but HB.out hb1 hbg).cell 0
  clear hp1 hb1
  go_wp2_with fail
  refine (tick_out g 1 w1 HP1.out).mono ?_
  rintro e w2 ⟨rfl, rfl⟩
  have F : ∃ gone, Ends gone (.panicked out) ∧ Ticked g 0 1 2 w gone w2 := ⟨true, rfl, by decide, HP1.out, HB1.out⟩
  have HF := Lib.hid F
  clear F
  unfold out
  go_wp2
  exact ⟨rfl, HF.out⟩

set_option maxHeartbeats 800000 in
theorem awake_any (w : World) : Calls Try.prog 8 #[] w fun e w' => e = .returned (.bool true) ∧ Below w.heap.size w w' := by
  have hmf : ∀ (fn : Fn) (first cap : Array Value) (w : World), (Instr.makeFunc fn first cap).run Try.prog w = .ok (.func fn first cap) w := fun _ _ _ _ => rfl
  go_enter Try.func8, Try.ntmps8
  go_wp2_with fail
  refine (new_any 1 w).mono ?_
  rintro e w1 ⟨rfl, rfl⟩
  go_wp2_with fail
  have P2 := Lib.hid (show Pw ((w.alloc (.cells #[.int .i64 0, .int .i64 1] 38)).alloc (.cells #[.pointer (some ⟨w.heap.size, 0, none⟩)] 24)) w.heap.size 0 1 from (At.new _ _ rfl).alloc _)
  have V2 := Lib.hid (show Pv ((w.alloc (.cells #[.int .i64 0, .int .i64 1] 38)).alloc (.cells #[.pointer (some ⟨w.heap.size, 0, none⟩)] 24)) (w.heap.size + 1) w.heap.size from At.new _ _ (by simp))
  have B2 := Lib.hid (((Below.refl w.heap.size w).alloc (Nat.le_refl _) (.cells #[.int .i64 0, .int .i64 1] 38)).alloc (by simp) (.cells #[.pointer (some ⟨w.heap.size, 0, none⟩)] 24))
  generalize ((w.alloc (.cells #[.int .i64 0, .int .i64 1] 38)).alloc (.cells #[.pointer (some ⟨w.heap.size, 0, none⟩)] 24)) = w2 at *
  refine (run_ticks 23 _ w.heap.size 2 0 1 w2 (enters 23 _ (by decide)) P2.out.lt (loop23 (w.heap.size + 1) w.heap.size _ (V2.out.alloc _) (P2.out.alloc _) (by omega))).mono ?_
  rintro e w3 ⟨gone, rfl, hg, hp3, hb3⟩
  obtain rfl : gone = true := hg
  have P3 := Lib.hid (show Pw w3 w.heap.size 1 0 from hp3)
  have B3 := Lib.hid (B2.out.trans (hb3.below (B := w.heap.size) (fun k h => by omega) B2.out.size))
  have hc3 : w3.cell? ⟨w.heap.size + 1, 0, none⟩ = some (.pointer (some ⟨w.heap.size, 0, none⟩)) := (At.but V2.out hb3 (by omega)).cell 0
  clear hp3 hb3
  go_wp2_with fail
  refine (used_any w.heap.size 1 0 w3 P3.out).mono ?_
  rintro e w4 ⟨rfl, rfl⟩
  go_wp2
  go_ret
  exact ⟨rfl, B3.out⟩

end Go.Proofs.Ytonfcbmncefagaa
