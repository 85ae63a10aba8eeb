/-
  THE WALK OF PowerAgain.
-/
import Derived.Test.YtonfcbmncefagaaAwake
namespace Go.Proofs.Ytonfcbmncefagaa
open Go.RowKit
set_option linter.unusedVariables false

theorem below_drewN {B : Nat} {a w : World} (h : Below B a w) (n : Nat) : Below B a (w.drewN n) := ⟨h.os, h.tape, h.output, h.size, h.block⟩

set_option maxHeartbeats 1000000 in
set_option maxRecDepth 100000 in
theorem again_walk (x y z : Nat) (hx : x ≤ 255) (hy : y ≤ 255) (hz : z ≤ 255) (w : World) :
    Calls Try.prog 7 #[.int .u8 x, .int .u8 y, .int .u8 z] w fun e w' => e = .returned (.bool true) ∧ Below w.heap.size w w' := by
  have hmf : ∀ (fn : Fn) (first cap : Array Value) (w : World), (Instr.makeFunc fn first cap).run Try.prog w = .ok (.func fn first cap) w := fun _ _ _ _ => rfl
  go_enter Try.func7, Try.ntmps7
  go_wp2_with fail
  refine (awake_any _).mono ?_
  rintro e w1 ⟨rfl, hb1⟩
  have B1 := Lib.hid (((Below.refl w.heap.size w).alloc (Nat.le_refl _) (.cells #[.int .u8 z] 5)).trans (hb1.mono (by simp)))
  have A1 := Lib.hid ((At.new (w := w) #[.int .u8 z] 5 rfl).below hb1 (by simp))
  have al := A1.out.lt
  clear hb1
  generalize ha : w.heap.size = a at *
  have EA := Lib.hid ha
  clear ha
  go_wp2_with fail
  refine (new_any _ w1).mono ?_
  rintro e w2 ⟨rfl, rfl⟩
  go_wp2_with fail
  obtain ⟨W, hW⟩ : ∃ W, W = ((w1.alloc (.cells #[.int .i64 0, .int .i64 ((x : Int) % 30)] 38)).alloc (.cells #[.pointer (some ⟨w1.heap.size, 0, none⟩)] 24)) := ⟨_, rfl⟩
  have P3 := Lib.hid (show Pw W w1.heap.size 0 ((x : Int) % 30) by subst hW; exact (At.new _ _ rfl).alloc _)
  have V3 := Lib.hid (show Pv W (w1.heap.size + 1) w1.heap.size by subst hW; exact At.new _ _ (by simp))
  have A3 := Lib.hid (show At W a #[.int .u8 z] 5 by subst hW; exact (A1.out.alloc _).alloc _)
  have B3 := Lib.hid (show Below a w W by subst hW; exact (B1.out.alloc (by omega) _).alloc (by simp; omega) _)
  rw [← hW]
  clear hW A1 B1
  generalize w1.heap.size = g at *
  refine (run_ticks 21 _ g 60 0 ((x : Int) % 30) W (enters 21 _ (by decide)) P3.out.lt (loop21 (g + 1) g 0 ((x : Int) % 30) _ (V3.out.alloc _) (P3.out.alloc _) (by omega) (by omega) (by omega))).mono ?_
  rintro e w4 ⟨gone, rfl, _, hp4, hb4⟩
  have e4 : (0 : Int) + (can ((x : Int) % 30) 60 : Nat) = (x : Int) % 30 := by unfold can; split <;> omega
  rw [e4] at hp4
  have P4 := Lib.hid hp4
  have A4 := Lib.hid (A3.out.but hb4 (by omega))
  have V4 := Lib.hid (V3.out.but hb4 (by omega))
  have hcv : w4.cell? ⟨g + 1, 0, none⟩ = some (.pointer (some ⟨g, 0, none⟩)) := V4.out.cell 0
  have B4 := Lib.hid (B3.out.trans (hb4.below (B := a) (fun k h => by omega) (by have := A3.out.lt; omega)))
  clear hp4 hb4 A3 B3 V3 P3 e4
  go_wp2_with fail
  refine (limit_any g _ _ ((y : Int) % 30) w4 P4.out).mono ?_
  rintro e w5 ⟨rfl, hp5, hb5⟩
  have P5 := Lib.hid hp5
  have A5 := Lib.hid (A4.out.but hb5 (by omega))
  have V5 := Lib.hid (V4.out.but hb5 (by omega))
  have B5 := Lib.hid (B4.out.trans (hb5.below (B := a) (fun k h => by omega) (by have := A4.out.lt; omega)))
  clear hp5 hb5 A4 B4 V4 P4 hcv
  go_wp2_with fail
  refine (run_ticks 22 _ g (z % 60) ((x : Int) % 30) ((y : Int) % 30) w5 (enters 22 _ (by decide)) P5.out.lt (loop22 a (g + 1) g z (z % 60) ((x : Int) % 30) ((y : Int) % 30) _ (A5.out.alloc _) hz rfl (V5.out.alloc _) (P5.out.alloc _) (by omega) (by omega) (by omega))).mono ?_
  rintro e w6 ⟨gone, rfl, hgone, hp6, hb6⟩
  have A6 := A5.out.but hb6 (by omega)
  have V6 := V5.out.but hb6 (by omega)
  have hca : w6.cell? ⟨a, 0, none⟩ = some (.int .u8 z) := A6.cell 0
  have hcv : w6.cell? ⟨g + 1, 0, none⟩ = some (.pointer (some ⟨g, 0, none⟩)) := V6.cell 0
  have B6 := Lib.hid (B5.out.trans (hb6.below (B := a) (fun k h => by omega) (by have := A5.out.lt; omega)))
  obtain ⟨m, hm⟩ : ∃ m, m = can ((y : Int) % 30) (z % 60) := ⟨_, rfl⟩
  rw [← hm] at hp6 hgone
  have P6 := Lib.hid hp6
  clear hp6 hb6 A6 V6 A5 B5 V5 P5
  unfold can at hm
  rw [if_neg (by omega)] at hm
  have hmin := fun (w : World) => run_min2 (P := Try.prog) w #[3, 3] 3 ((y : Int) % 30) ((z : Int) % 60) m (by omega)
  have hsum : IntKind.i64.wrap ((x : Int) % 30 + m) = (x : Int) % 30 + m := by rw [IntKind.wrap_i64]; omega
  by_cases hlt : m < z % 60
  · obtain rfl : gone = true := by simpa [hlt] using hgone
    have hyz : (y : Int) % 30 < (z : Int) % 60 := by omega
    have hd : decide ((y : Int) % 30 < (z : Int) % 60) = true := by simp [hyz]
    clear hgone hlt hm
    go_wp2_with fail
    go_quiet ((go_at_call 13; exact Calls.quiet_of_same (used_any g ((x : Int) % 30 + m) _ _ P6.out)))
    go_wp2
    go_ret
    exact ⟨rfl, by rw [EA.out]; exact below_drewN B6.out _⟩
  · obtain rfl : gone = false := by simpa [hlt] using hgone
    have hyz : ¬ (y : Int) % 30 < (z : Int) % 60 := by omega
    have hd : decide ((y : Int) % 30 < (z : Int) % 60) = false := by simp [hyz]
    clear hgone hlt hm
    go_wp2_with fail
    go_quiet ((go_at_call 13; exact Calls.quiet_of_same (used_any g ((x : Int) % 30 + m) _ _ P6.out)))
    go_wp2
    go_ret
    exact ⟨rfl, by rw [EA.out]; exact below_drewN B6.out _⟩

theorem byte_nat {a : Int} (h : (Lit.int .u8 a).wf = true) : ∃ n : Nat, a = (n : Int) ∧ n ≤ 255 := by
  have hb : 0 ≤ a ∧ a ≤ 255 := by simpa [Lit.wf, IntKind.min, IntKind.max, IntKind.signed, IntKind.bits] using h
  exact ⟨a.toNat, by omega, by omega⟩
theorem again_all (x y z : Int) (hx : (Lit.int .u8 x).wf = true) (hy : (Lit.int .u8 y).wf = true) (hz : (Lit.int .u8 z).wf = true) (w : World) :
    Calls Try.prog 7 #[.int .u8 x, .int .u8 y, .int .u8 z] w fun e w' => e = .returned (.bool true) ∧ Below w.heap.size w w' := by
  obtain ⟨x, rfl, hx'⟩ := byte_nat hx
  obtain ⟨y, rfl, hy'⟩ := byte_nat hy
  obtain ⟨z, rfl, hz'⟩ := byte_nat hz
  exact again_walk x y z hx' hy' hz' w

end Go.Proofs.Ytonfcbmncefagaa
