/-
  THE WALK OF SumAdds.
-/
import Derived.Test.YtbepffakcabfiaaWalkD
namespace Go.Proofs.Ytbepffakcabfiaa
open Go.RowKit
set_option linter.unusedVariables false

theorem run_min4 {P : Program} (w : World) (ts : Array TypeId) (t : TypeId) (x y z u n : Nat) (hn : n = min (min (min x y) z) u) :
    (Builtin.min_ ts t #[.int .i64 (x : Int), .int .i64 (y : Int), .int .i64 (z : Int), .int .i64 (u : Int)]).run P w = .ok (.int .i64 (n : Int)) w := by
  have e : (n : Int) = (if (u : Int) < (if (z : Int) < (if (y : Int) < (x : Int) then (y : Int) else x) then (z : Int) else (if (y : Int) < (x : Int) then (y : Int) else x)) then (u : Int) else (if (z : Int) < (if (y : Int) < (x : Int) then (y : Int) else x) then (z : Int) else (if (y : Int) < (x : Int) then (y : Int) else x))) := by
    subst hn
    split <;> split <;> split <;> omega
  rw [e]
  simp [Builtin.min_, Builtin.min2]

/-- The first k bytes turned by one another, noughts behind them. -/
def mix (l0 l1 l2 : List (BitVec 8)) (n k : Nat) : List (BitVec 8) := (List.range n).map fun i => if i < k then l0.getD i 0#8 ^^^ l1.getD i 0#8 ^^^ l2.getD i 0#8 else 0#8
theorem mix_len (l0 l1 l2 : List (BitVec 8)) (n k : Nat) : (mix l0 l1 l2 n k).length = n := by simp [mix]
theorem mix_next (l0 l1 l2 : List (BitVec 8)) (n k : Nat) : (mix l0 l1 l2 n k).set k (l0.getD k 0#8 ^^^ l1.getD k 0#8 ^^^ l2.getD k 0#8) = mix l0 l1 l2 n (k + 1) := by
  apply List.ext_getElem
  · simp [mix]
  · intro i h1 h2
    rw [List.getElem_set]
    simp only [mix, List.getElem_map, List.getElem_range]
    by_cases h : k = i
    · subst h; simp
    · rw [if_neg h]
      by_cases hik : i < k
      · rw [if_pos hik, if_pos (by omega)]
      · rw [if_neg hik, if_neg (by omega)]
theorem mix_start {w w2 : World} {n : Nat} {l0 l1 l2 : List (BitVec 8)} (h : w2.ownsRow w.heap.size 5 1 (.slice (some ⟨w.heap.size, 0, none⟩) n n) n (madeCells (Value.int .u8 0).cells (n * 1)).toList) :
    w2.ownsRow w.heap.size 5 1 (.slice (some ⟨w.heap.size, 0, none⟩) n n) n ((mix l0 l1 l2 n 0).map val) := by
  have e : (madeCells (Value.int .u8 0).cells (n * 1)).toList = (mix l0 l1 l2 n 0).map val := by
    rw [Nat.mul_one, show (Value.int .u8 0).cells = #[.int .u8 0] from rfl, toList_madeCells_one]
    apply List.ext_getElem
    · simp [mix]
    · intro i h1 h2
      simp [mix, val]
  rwa [e] at h
theorem mix_cell {w : World} {g base n k : Nat} {l : List (BitVec 8)} (h : w.ownsRow base 5 1 (.slice (some ⟨g, 0, none⟩) n n) n (l.map val)) (hk : k < n) : w.cell? ⟨g, k, none⟩ = some ((l.map val).getD k undef) := by
  have hl : l.length = n := by have := h.1; simpa using this
  rw [h.cellAt k (by omega), List.getD_eq_getElem?_getD, List.getElem?_eq_getElem (by simp; omega)]
  rfl
theorem at_ {w : World} {b off n : Nat} {l : List (BitVec 8)} (h : Has w (some ⟨b, off, none⟩) n l) (k : Nat) (hk : k < n) : ∃ x, l.getD k 0#8 = x ∧ w.cell? ⟨b, off + k, none⟩ = some (.int .u8 (x.toNat : Int)) := by
  have hl := h.1
  refine ⟨l[k], ?_, h.cell k hk⟩
  rw [List.getD_eq_getElem?_getD, List.getElem?_eq_getElem (by omega)]
  rfl

theorem mix_store {w : World} {g base n k : Nat} {l0 l1 l2 : List (BitVec 8)} {x0 x1 x2 : BitVec 8} (h : w.ownsRow base 5 1 (.slice (some ⟨g, 0, none⟩) n n) n ((mix l0 l1 l2 n k).map val))
    (h0 : l0.getD k 0#8 = x0) (h1 : l1.getD k 0#8 = x1) (h2 : l2.getD k 0#8 = x2) :
    (w.setCell ⟨g, k, none⟩ (.int .u8 (bits .xor .u8 (bits .xor .u8 (x0.toNat : Int) (x1.toNat : Int)) (x2.toNat : Int)))).drew.ownsRow base 5 1 (.slice (some ⟨g, 0, none⟩) n n) n ((mix l0 l1 l2 n (k + 1)).map val) := by
  rw [xor8, xor8, ← mix_next, List.map_set, h0, h1, h2]
  exact (h.stored k _).1
theorem mix_sum (l0 l1 l2 : List (BitVec 8)) (n : Nat) (h0 : n ≤ l0.length) (h1 : n ≤ l1.length) (h2 : n ≤ l2.length) :
    Crc.sum (mix l0 l1 l2 n n) = Crc.sum (l0.take n) ^^^ Crc.sum (l1.take n) ^^^ Crc.sum (l2.take n) := by
  refine Crc.sum_three (l0.take n) (l1.take n) (l2.take n) (mix l0 l1 l2 n n) (by simp; omega) (by simp; omega) (by simp [mix_len]; omega) ?_
  intro i hi
  have hin : i < n := by simp at hi; omega
  simp only [mix, List.getElem_map, List.getElem_range, List.getElem_take]
  rw [if_pos hin, List.getD_eq_getElem?_getD, List.getD_eq_getElem?_getD, List.getD_eq_getElem?_getD, List.getElem?_eq_getElem (by omega), List.getElem?_eq_getElem (by omega), List.getElem?_eq_getElem (by omega)]
  rfl

theorem adds_test {x a b c : BitVec 32} (h : x = a ^^^ b ^^^ c) : ((x.toNat : Int) == bits .xor .u32 (bits .xor .u32 (a.toNat : Int) (b.toNat : Int)) (c.toNat : Int)) = true := by
  rw [xor32, xor32, h]
  simp

set_option maxRecDepth 100000 in
set_option maxHeartbeats 400000 in
theorem adds_walk (a0 a1 a2 : Option Addr) (len0 cap0 len1 cap1 len2 cap2 : Nat) (l0 l1 l2 : List (BitVec 8)) (w : World) (hm0 : cap0 ≤ maxLen) (hm1 : cap1 ≤ maxLen) (hm2 : cap2 ≤ maxLen)
    (hc0 : len0 ≤ cap0) (hc1 : len1 ≤ cap1) (hc2 : len2 ≤ cap2) (h0 : Has w a0 len0 l0) (h1 : Has w a1 len1 l1) (h2 : Has w a2 len2 l2) :
    Calls Try.prog 7 #[.slice a0 len0 cap0, .slice a1 len1 cap1, .slice a2 len2 cap2] w fun e w' => e = .returned (.bool true) ∧ Below w.heap.size w w' := by
  unfold maxLen at hm0 hm1 hm2
  obtain ⟨i0, hi, hz0, hz1, hz2⟩ := info_parts byte_info
  obtain ⟨n, hn⟩ : ∃ n, n = min (min (min len0 len1) len2) 300 := ⟨_, rfl⟩
  have hmin := fun (w : World) => run_min4 (P := Try.prog) w #[3, 3, 3, 3] 3 len0 len1 len2 300 n hn
  have n0 : n ≤ len0 := by omega
  have n1 : n ≤ len1 := by omega
  have n2 : n ≤ len2 := by omega
  have n3 : n ≤ 300 := by omega
  clear hn
  rw [show ((300 : Nat) : Int) = 300 from rfl] at hmin
  go_enter Try.func7, Try.ntmps7
  go_wp2_with fail
  refine (awake_any _).mono ?_
  rintro e w1 ⟨rfl, hb1⟩
  have H0 := Lib.hid (h0.below hb1)
  have H1 := Lib.hid (h1.below hb1)
  have H2 := Lib.hid (h2.below hb1)
  clear h0 h1 h2
  go_wp2_with (at_make; refine wpList_make_full _ rfl (.tmp 19) (.tmp 19) 22 rfl w1.heap.size 5 i0 (.int .u8 0) 1 Try.underlying22 hi hz0 hz1 .i64 .i64 (n : Int) (n : Int) n rfl rfl rfl rfl (by rw [hz2]; omega) (by unfold maxLen; omega) (Nat.le_refl _) ?_; intro w2 hown2 hg2)
  have hb2 : Below w1.heap.size w1 w2 := (Below.refl _ _).grown hg2 (Nat.le_refl _) (by simp)
  have O2 := Lib.hid (mix_start (l0 := l0) (l1 := l1) (l2 := l2) hown2)
  have B2 := Lib.hid hb2
  clear hown2 hg2 hb2 hmin
  go_loopw [23] (fun i wr => ∃ k : Nat, k ≤ n ∧ i = .int .i64 k ∧ wr.ownsRow w1.heap.size 5 1 (.slice (some ⟨w1.heap.size, 0, none⟩) n n) n ((mix l0 l1 l2 n k).map val) ∧ Below w1.heap.size w1 wr) (fun i _ => n - (intOf i).toNat)
  case atStart => exact ⟨0, Nat.zero_le _, rfl, O2.out, B2.out⟩
  case round =>
    obtain ⟨k, hk, rfl, hown, hbel⟩ := hrel
    have HO := Lib.hid hown
    have HB := Lib.hid hbel
    clear hown hbel
    by_cases hlt : k < n
    · obtain ⟨b0, f0, rfl⟩ := H0.out.some_ (by omega)
      obtain ⟨b1, f1, rfl⟩ := H1.out.some_ (by omega)
      obtain ⟨b2, f2, rfl⟩ := H2.out.some_ (by omega)
      obtain ⟨x0, hx0, c0⟩ := at_ (H0.out.below HB.out) k (by omega)
      obtain ⟨x1, hx1, c1⟩ := at_ (H1.out.below HB.out) k (by omega)
      obtain ⟨x2, hx2, c2⟩ := at_ (H2.out.below HB.out) k (by omega)
      have X0 := Lib.hid hx0
      have X1 := Lib.hid hx1
      have X2 := Lib.hid hx2
      clear hx0 hx1 hx2
      obtain ⟨v3, hc3⟩ : ∃ v, wr.cell? ⟨w1.heap.size, k, none⟩ = some v := ⟨_, mix_cell HO.out hlt⟩
      have hf3 : wr.frozen? ⟨w1.heap.size, k, none⟩ = false := HO.out.frozenAt k
      have y0 := lt8 x0
      have y1 := lt8 x1
      have y2 := lt8 x2
      go_wp2
      go_region
      go_wp2
      have R := Lib.hid (mix_store HO.out X0.out X1.out X2.out)
      have RB := Lib.hid (HB.out.setCell (p := ⟨w1.heap.size, k, none⟩) (Nat.le_refl _) (.int .u8 (bits .xor .u8 (bits .xor .u8 (x0.toNat : Int) (x1.toNat : Int)) (x2.toNat : Int)))).drew
      go_roundw
      case rel => exact ⟨k + 1, by omega, by go_num, R.out, RB.out⟩
      case measure => simp [intOf]; omega
    · have e : k = n := by omega
      subst e
      obtain ⟨a3, c3, h3, _, _, hv3, _⟩ := Has.of_own HO.out
      injection h3 with h31 h32 h33
      subst h31 h33
      have V3 := Lib.hid hv3
      have T0 := Lib.hid ((H0.out.below HB.out).take k n0)
      have T1 := Lib.hid ((H1.out.below HB.out).take k n1)
      have T2 := Lib.hid ((H2.out.below HB.out).take k n2)
      have E := Lib.hid (mix_sum l0 l1 l2 k (by rw [H0.out.1]; exact n0) (by rw [H1.out.1]; exact n1) (by rw [H2.out.1]; exact n2))
      clear hv3 HO H0 H1 H2
      go_wp2
      go_quiet ((go_at_call 10; first | exact quiet_left (of_any _ _ _ (mix l0 l1 l2 k k) _ (by unfold maxLen; omega) (V3.out.drewN _)) | exact quiet_left (of_any _ _ _ (l0.take k) _ (by unfold maxLen; omega) (T0.out.drewN _)) | exact quiet_left (of_any _ _ _ (l1.take k) _ (by unfold maxLen; omega) (T1.out.drewN _)) | exact quiet_left (of_any _ _ _ (l2.take k) _ (by unfold maxLen; omega) (T2.out.drewN _))))
      go_wp2
      go_ret
      exact ⟨congrArg (fun z => Ending.returned (.bool z)) (adds_test E.out), below_drewN (hb1.trans (HB.out.mono hb1.size)) _⟩

end Go.Proofs.Ytbepffakcabfiaa
