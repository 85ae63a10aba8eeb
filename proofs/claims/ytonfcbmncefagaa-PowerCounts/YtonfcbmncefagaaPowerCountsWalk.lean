/-
  THE WALK OF PowerCounts.
-/
import Derived.Test.YtonfcbmncefagaaAwake
namespace Go.Proofs.Ytonfcbmncefagaa
open Go.RowKit
set_option linter.unusedVariables false

theorem Counted.out_ {g c : Nat} {u l : Int} {n : Nat} {w w' w'' : World} {o : Obj} {gone : Bool} (h : Counted g c u l n (w.alloc o) gone w') (hg : g < w.heap.size) (hc : c < w.heap.size) (hb : But (fun k => k = w.heap.size) w' w'') : Counted g c u l n w gone w'' := by
  refine ⟨h.1, h.2.1.but hb (fun e => by omega), h.2.2.1.but hb (fun e => by omega), ?_⟩
  exact ((((But.refl (fun k => k = g ∨ k = c) w).alloc o).trans h.2.2.2 (fun _ e _ => e)).trans hb (fun i e hi => by omega))

theorem run_counts (a b c g n : Nat) (u l : Int) (w : World) (ha : At w a #[.int .u8 n] 5) (hn : n ≤ 255) (hcc : At w c #[.bool false] 4) (hcg : ¬ c = g) (hb : Pv w b g) (hp : Pw w g u l) (hbg : ¬ b = g) (hu : 0 ≤ u ∧ u ≤ 100000) (hl : l ≤ 9223372036854775807) :
    Calls Try.prog 10 #[.func (.func 11) #[] #[.pointer (some ⟨a, 0, none⟩), .pointer (some ⟨b, 0, none⟩), .pointer (some ⟨c, 0, none⟩)]] w fun e w' => ∃ gone, e = .returned (.bool gone) ∧ Counted g c u l n w gone w' := by
  have hgl := hp.lt
  have hcl := hcc.lt
  refine (run_some 11 _ w (enters 11 _ (by decide)) (fun gone w' => Counted g c u l n (w.alloc (.cells #[.bool false] 4)) gone w')
    ((loop11 a b c g n u l (w.alloc (.cells #[.bool false] 4)) (ha.alloc _) hn (hcc.alloc _) hcg (hb.alloc _) (hp.alloc _) hbg hu hl).mono ?_)).mono ?_
  · rintro e w' ⟨gone, he, ht⟩
    exact ⟨gone, he, ht, (At.new _ _ rfl).but ht.2.2.2 (fun e => by omega)⟩
  · rintro e w'' ⟨gone, w', he, ht, hb⟩
    exact ⟨gone, he, ht.out_ hgl hcl hb⟩

set_option maxHeartbeats 800000 in
theorem counts_walk (l : Int) (n : Nat) (hl : -128 ≤ l ∧ l ≤ 127) (hn : n ≤ 255) (w : World) :
    Calls Try.prog 3 #[.int .i8 l, .int .u8 n] w fun e w' => e = .returned (.bool true) ∧ Below w.heap.size w w' := by
  have hmf : ∀ (fn : Fn) (first cap : Array Value) (w : World), (Instr.makeFunc fn first cap).run Try.prog w = .ok (.func fn first cap) w := fun _ _ _ _ => rfl
  have hl1 := hl.1
  have hl2 := hl.2
  clear hl
  go_enter Try.func3, Try.ntmps3
  go_wp2_with fail
  refine (awake_any _).mono ?_
  rintro e w1 ⟨rfl, hb1⟩
  have B1 := Lib.hid (((Below.refl w.heap.size w).alloc (Nat.le_refl _) (.cells #[.int .u8 n] 5)).trans (hb1.mono (by simp)))
  have A1 := Lib.hid ((At.new (w := w) #[.int .u8 n] 5 rfl).below hb1 (by simp))
  have s1 := B1.out.size
  have al := A1.out.lt
  clear hb1
  generalize ha : w.heap.size = a at *
  have EA := Lib.hid ha
  clear ha
  go_wp2_with fail
  refine (new_any l w1).mono ?_
  rintro e w2 ⟨rfl, rfl⟩
  go_wp2_with fail
  obtain ⟨W, hW⟩ : ∃ W, W = (((w1.alloc (.cells #[.int .i64 0, .int .i64 l] 38)).alloc (.cells #[.pointer (some ⟨w1.heap.size, 0, none⟩)] 24)).alloc (.cells #[.bool false] 4)) := ⟨_, rfl⟩
  have P3 := Lib.hid (show Pw W w1.heap.size 0 l by subst hW; exact ((At.new _ _ rfl).alloc _).alloc _)
  have V3 := Lib.hid (show Pv W (w1.heap.size + 1) w1.heap.size by subst hW; exact (At.new _ _ (by simp)).alloc _)
  have C3 := Lib.hid (show At W (w1.heap.size + 1 + 1) #[.bool false] 4 by subst hW; exact At.new _ _ (by simp))
  have A3 := Lib.hid (show At W a #[.int .u8 n] 5 by subst hW; exact ((A1.out.alloc _).alloc _).alloc _)
  have B3 := Lib.hid (show Below a w W by subst hW; exact ((B1.out.alloc (by omega) _).alloc (by simp; omega) _).alloc (by simp; omega) _)
  rw [← hW]
  clear hW A1 B1
  generalize w1.heap.size = g at *
  refine (run_counts a (g + 1) (g + 1 + 1) g n 0 l W A3.out hn C3.out (by omega) V3.out P3.out (by omega) (by omega) (by omega)).mono ?_
  rintro e w4 ⟨gone, rfl, hgone, hp4, hc4, hb4⟩
  have A4 := A3.out.but hb4 (by omega)
  have V4 := V3.out.but hb4 (by omega)
  have hca : w4.cell? ⟨a, 0, none⟩ = some (.int .u8 n) := A4.cell 0
  have hcv : w4.cell? ⟨g + 1, 0, none⟩ = some (.pointer (some ⟨g, 0, none⟩)) := V4.cell 0
  have hcc : w4.cell? ⟨g + 1 + 1, 0, none⟩ = some (.bool (!gone)) := hc4.cell 0
  have B4 := Lib.hid (B3.out.trans (hb4.below (B := a) (fun k h => by omega) (by have := A3.out.lt; omega)))
  have P4 := Lib.hid hp4
  clear hp4 hc4 hb4 A4 V4 A3 B3 V3 C3 P3
  obtain ⟨m, hm⟩ : ∃ m, m = can l n := ⟨_, rfl⟩
  rw [← hm] at P4 hgone
  rw [Int.zero_add] at P4
  unfold can at hm
  by_cases h0 : l < 0
  · rw [if_pos h0] at hm
    subst hm
    obtain rfl : gone = false := by simpa using hgone
    clear hgone
    go_wp2_with fail
    refine (used_any g m _ w4 P4.out).mono ?_
    rintro e w5 ⟨rfl, rfl⟩
    go_wp2
    go_ret
    exact ⟨rfl, by rw [EA.out]; exact B4.out⟩
  · rw [if_neg h0] at hm
    have h00 : 0 ≤ l := by omega
    have hmin := fun (w : World) => run_min2 (P := Try.prog) w #[3, 3] 3 n l m (by omega)
    clear hm h0
    by_cases hlt : m < n
    · obtain rfl : gone = true := by simpa [hlt] using hgone
      clear hgone
      go_wp2_with fail
      refine (used_any g m _ w4 P4.out).mono ?_
      rintro e w5 ⟨rfl, rfl⟩
      go_wp2
      go_ret
      exact ⟨rfl, by rw [EA.out]; exact B4.out⟩
    · obtain rfl : gone = false := by simpa [hlt] using hgone
      clear hgone
      go_wp2_with fail
      refine (used_any g m _ w4 P4.out).mono ?_
      rintro e w5 ⟨rfl, rfl⟩
      go_wp2
      go_ret
      exact ⟨rfl, by rw [EA.out]; exact B4.out⟩

theorem u8_nat {a : Int} (h : (Lit.int .u8 a).wf = true) : ∃ n : Nat, a = (n : Int) ∧ n ≤ 255 := by
  have hb : 0 ≤ a ∧ a ≤ 255 := by simpa [Lit.wf, IntKind.min, IntKind.max, IntKind.signed, IntKind.bits] using h
  exact ⟨a.toNat, by omega, by omega⟩
theorem i8_bounds {a : Int} (h : (Lit.int .i8 a).wf = true) : -128 ≤ a ∧ a ≤ 127 := by
  simpa [Lit.wf, IntKind.min, IntKind.max, IntKind.signed, IntKind.bits] using h
theorem counts_all (l n : Int) (hl : (Lit.int .i8 l).wf = true) (hn : (Lit.int .u8 n).wf = true) (w : World) :
    Calls Try.prog 3 #[.int .i8 l, .int .u8 n] w fun e w' => e = .returned (.bool true) ∧ Below w.heap.size w w' := by
  obtain ⟨n, rfl, hn'⟩ := u8_nat hn
  exact counts_walk l n (i8_bounds hl) hn' w

end Go.Proofs.Ytonfcbmncefagaa
