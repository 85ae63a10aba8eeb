/-
  THE WALK OF sum.Seal.
-/
import Derived.Test.YtlmponcoghfghaaSumC
import Derived.Laws.AppendOwnNone
namespace Go.Proofs.Ytlmponcoghfghaa
open Go.RowKit
set_option linter.unusedVariables false
set_option maxRecDepth 100000

/-- The k-th byte of a sum, the lowest one first; the first k of them. -/
def Crc.byteAt (c : BitVec 32) (k : Nat) : BitVec 8 := (c >>> (8 * k)).setWidth 8
def Crc.low (c : BitVec 32) : Nat → List (BitVec 8)
  | 0 => []
  | k + 1 => Crc.low c k ++ [Crc.byteAt c k]
theorem slow_len (c : BitVec 32) (k : Nat) : (Crc.low c k).length = k := by
  induction k with
  | zero => rfl
  | succ k ih => simp [Crc.low, ih]

theorem ready {w w2 : World} {v : Value} {n : Nat} {l : List (BitVec 8)} {c : BitVec 32} (h : w2.ownsRow w.heap.size 5 1 v n (l.map val)) :
    w2.ownsRow w.heap.size 5 1 v (n + 0) ((l ++ Crc.low c 0).map val) := by
  simpa [Crc.low] using h

theorem byte_val (c : BitVec 32) (k : Nat) : (c.toNat : Int) / (2 : Int) ^ (8 * k) % (256 : Int) = ((Crc.byteAt c k).toNat : Int) := by
  unfold Crc.byteAt
  rw [BitVec.toNat_setWidth, BitVec.toNat_ushiftRight, Nat.shiftRight_eq_div_pow, Int.natCast_emod, Int.natCast_ediv, Int.natCast_pow]
  rfl

theorem sone_new {wr : World} (c : BitVec 32) (k : Nat) : ∀ j u, [val (Crc.byteAt c k)][j]? = some u → (wr.alloc (.cells #[.int .u8 ((c.toNat : Int) / (2 : Int) ^ (8 * k) % (256 : Int))] 5)).cell? ((⟨wr.heap.size, 0, none⟩ : Addr).add j) = some u := by
  intro j u hj
  match j, hj with
  | 0, hj =>
    simp at hj
    subst hj
    rw [byte_val]
    simp [Addr.add, val]

theorem seal_next {B n k : Nat} {w3 : World} {v1 : Value} {l : List (BitVec 8)} {c : BitVec 32} (h : w3.ownsRow B 5 1 v1 (n + k + 1) ((l ++ Crc.low c k).map val ++ [val (Crc.byteAt c k)])) :
    w3.ownsRow B 5 1 v1 (n + (k + 1)) ((l ++ Crc.low c (k + 1)).map val) := by
  have e : (l ++ Crc.low c (k + 1)).map val = (l ++ Crc.low c k).map val ++ [val (Crc.byteAt c k)] := by
    simp [Crc.low]
  rw [e]
  exact h

set_option maxHeartbeats 400000 in
theorem seal_some (x : Addr) (n cap : Nat) (l : List (BitVec 8)) (w : World) (hn : n ≤ 1000000) (h : Has w (some x) n l) :
    Calls Try.prog 30 #[.slice (some x) n cap] w (Cloned w (n + 4) (l ++ Crc.low (Crc.sum l) 4)) := by
  obtain ⟨i0, hi, hz0, hz1, hz2⟩ := info_parts byte_info
  obtain ⟨c, hc⟩ : ∃ c, Crc.sum l = c := ⟨_, rfl⟩
  rw [hc]
  have HC := Lib.hid hc
  have H := Lib.hid h
  clear h hc
  go_enter Try.func30, Try.ntmps30
  go_wp2_with (first
    | (at_make; refine wpList_make_own _ rfl (.const (.int .i64 0)) (.tmp 8) 42 rfl w.heap.size 5 i0 (.int .u8 0) 1 Try.underlying42 hi hz0 hz1 .i64 .i64 ((n : Int) + 4) (n + 4) rfl rfl (by omega) (by rw [hz2]; omega) (by unfold maxLen; omega) (Nat.le_refl _) ?_; intro w1 hown1 hg1; have hb1 : Below w.heap.size w w1 := (Below.refl _ _).grown hg1 (Nat.le_refl _) (by simp))
    | (at_builtin; refine wpList_append_fits _ rfl (.tmp 9) (.tmp 10) 42 rfl w.heap.size 5 i0 1 Try.underlying42 hi hz1 w.heap.size 0 (n + 4) [] rfl hown1 x n cap (l.map val) rfl (by simp [H.out.1]) (H.out.below hb1).cells (val_one l) (by omega) ?_; intro w2 hown2 hg2; have hb2 : Below w.heap.size w w2 := hb1.grown hg2 hb1.size (by intro k hk; injection hk with hk; omega)))
  refine (of_any _ _ _ l _ (by unfold maxLen; omega) (H.out.below hb2)).mono ?_
  rintro e w' ⟨rfl, rfl⟩
  rw [HC.out]
  simp only [Nat.zero_add, List.nil_append] at hown2
  have O := Lib.hid (ready (c := c) hown2)
  have B2 := Lib.hid hb2
  clear hown1 hg1 hb1 hown2 hg2 hb2
  have hcl := lt32 c
  go_wp2
  go_loopw [3, 14] (fun v i wr => ∃ k : Nat, k ≤ 4 ∧ i = .int .i64 k ∧ wr.ownsRow w.heap.size 5 1 v (n + k) ((l ++ Crc.low c k).map val) ∧ Below w.heap.size w wr) (fun _ i _ => 4 - (intOf i).toNat)
  case atStart => exact ⟨0, Nat.zero_le _, rfl, O.out, B2.out⟩
  case round =>
    obtain ⟨k, hk, rfl, hown, hbel⟩ := hrel
    have HO := Lib.hid hown
    have HB := Lib.hid hbel
    have hsz := hbel.size
    clear hown hbel
    by_cases hlt : k < 4
    · go_wp2_with (at_builtin; refine wpList_append_own _ rfl (.tmp 17) (.tmp 23) 42 rfl w.heap.size 5 i0 (.int .u8 0) 1 1 Try.underlying42 hi hz0 hz1 hz2 rfl (by decide) u3 (n + k) _ rfl (HO.out.alloc _) ⟨wr.heap.size, 0, none⟩ 1 1 [val (Crc.byteAt c k)] rfl rfl (sone_new c k) (val_one [Crc.byteAt c k]) (by unfold maxLen; omega) (by omega) (by simp; omega) ?_; intro v1 w3 hown3 hg3 _)
      have R := Lib.hid (seal_next hown3)
      have RB := Lib.hid ((HB.out.alloc hsz _).grown hg3 (by simp; omega) (fun g hg => (HO.out.lt g hg).1))
      clear hown3 hg3
      go_roundw
      case rel => exact ⟨k + 1, by omega, by go_num, R.out, RB.out⟩
      case measure => simp [intOf]; omega
    · have e : k = 4 := by omega
      subst e
      go_wp2
      go_ret
      exact ⟨_, rfl, HO.out, HB.out⟩

set_option maxHeartbeats 400000 in
theorem seal_nil (w : World) :
    Calls Try.prog 30 #[.slice none 0 0] w (Cloned w (0 + 4) ([] ++ Crc.low (Crc.sum []) 4)) := by
  obtain ⟨i0, hi, hz0, hz1, hz2⟩ := info_parts byte_info
  have h : Has w none 0 [] := Has.nil w none
  obtain ⟨c, hc⟩ : ∃ c, Crc.sum [] = c := ⟨_, rfl⟩
  rw [hc]
  have HC := Lib.hid hc
  have H := Lib.hid h
  clear h hc
  go_enter Try.func30, Try.ntmps30
  go_wp2_with (first
    | (at_make; refine wpList_make_own _ rfl (.const (.int .i64 0)) (.tmp 8) 42 rfl w.heap.size 5 i0 (.int .u8 0) 1 Try.underlying42 hi hz0 hz1 .i64 .i64 4 4 rfl rfl (by omega) (by rw [hz2]; omega) (by unfold maxLen; omega) (Nat.le_refl _) ?_; intro w1 hown1 hg1; have hb1 : Below w.heap.size w w1 := (Below.refl _ _).grown hg1 (Nat.le_refl _) (by simp))
    | (at_builtin; refine wpList_append_own_none rfl (.tmp 9) (.tmp 10) 42 rfl w.heap.size 5 i0 1 Try.underlying42 hi (.slice (some ⟨w.heap.size, 0, none⟩) 0 4) 0 [] rfl hown1 rfl ?_))
  refine (of_any _ _ _ [] _ (by unfold maxLen; omega) (H.out.below hb1)).mono ?_
  rintro e w' ⟨rfl, rfl⟩
  rw [HC.out]
  have O := Lib.hid (ready (l := []) (c := c) hown1)
  have B2 := Lib.hid hb1
  clear hown1 hg1 hb1
  have hcl := lt32 c
  go_wp2
  go_loopw [3, 14] (fun v i wr => ∃ k : Nat, k ≤ 4 ∧ i = .int .i64 k ∧ wr.ownsRow w.heap.size 5 1 v (0 + k) (([] ++ Crc.low c k).map val) ∧ Below w.heap.size w wr) (fun _ i _ => 4 - (intOf i).toNat)
  case atStart => exact ⟨0, Nat.zero_le _, rfl, O.out, B2.out⟩
  case round =>
    obtain ⟨k, hk, rfl, hown, hbel⟩ := hrel
    have HO := Lib.hid hown
    have HB := Lib.hid hbel
    have hsz := hbel.size
    clear hown hbel
    by_cases hlt : k < 4
    · go_wp2_with (at_builtin; refine wpList_append_own _ rfl (.tmp 17) (.tmp 23) 42 rfl w.heap.size 5 i0 (.int .u8 0) 1 1 Try.underlying42 hi hz0 hz1 hz2 rfl (by decide) u3 (0 + k) _ rfl (HO.out.alloc _) ⟨wr.heap.size, 0, none⟩ 1 1 [val (Crc.byteAt c k)] rfl rfl (sone_new c k) (val_one [Crc.byteAt c k]) (by unfold maxLen; omega) (by omega) (by simp; omega) ?_; intro v1 w3 hown3 hg3 _)
      have R := Lib.hid (seal_next (l := []) hown3)
      have RB := Lib.hid ((HB.out.alloc hsz _).grown hg3 (by simp; omega) (fun g hg => (HO.out.lt g hg).1))
      clear hown3 hg3
      go_roundw
      case rel => exact ⟨k + 1, by omega, by go_num, R.out, RB.out⟩
      case measure => simp [intOf]; omega
    · have e : k = 4 := by omega
      subst e
      go_wp2
      go_ret
      exact ⟨_, rfl, HO.out, HB.out⟩

theorem seal_any (A : Option Addr) (n cap : Nat) (l : List (BitVec 8)) (w : World) (hn : n ≤ 1000000) (h0 : A = none → n = 0 ∧ cap = 0) (h : Has w A n l) :
    Calls Try.prog 30 #[.slice A n cap] w (Cloned w (n + 4) (l ++ Crc.low (Crc.sum l) 4)) := by
  rcases A with _ | x
  · obtain ⟨rfl, rfl⟩ := h0 rfl
    obtain rfl := List.eq_nil_of_length_eq_zero h.1
    exact seal_nil w
  · exact seal_some x n cap l w hn h
end Go.Proofs.Ytlmponcoghfghaa
