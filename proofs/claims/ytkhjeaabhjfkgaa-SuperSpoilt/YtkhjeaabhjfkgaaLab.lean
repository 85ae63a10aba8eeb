/-
  LABELS: the bytes of a label's sector, and the label of bytes; plain mathematics.
-/
import Derived.Test.YtkhjeaabhjfkgaaSumD
import Derived.Test.YtkhjeaabhjfkgaaWalkD
import Derived.Test.YtkhjeaabhjfkgaaMay
namespace Go.Proofs.Ytkhjeaabhjfkgaa
open Go.RowKit
set_option linter.unusedVariables false

/-- A label: the six numbers of its shape, and its member. -/
structure Lab where
  m : Nat
  b : Nat
  g : Nat
  s : Nat
  n : Nat
  l : Nat
  k : Nat
def Lab.cs (x : Lab) : Array Value := #[.int .i64 (x.m : Int), .int .i64 (x.b : Int), .int .i64 (x.g : Int), .int .i64 (x.s : Int), .int .i64 (x.n : Int), .int .i64 (x.l : Int), .int .i64 (x.k : Int)]
def Lab.zero : Lab := ⟨0, 0, 0, 0, 0, 0, 0⟩
def Lab.ok (x : Lab) : Prop := Ok x.m x.b x.g x.s x.n x.l
/-- All numbers fit into their bytes. -/
def Lab.fits (x : Lab) : Prop := x.m < 256 ∧ x.b < 65536 ∧ x.g < 65536 ∧ x.s < 65536 ∧ x.n < 65536 ∧ x.l < 4294967296 ∧ x.k < 256

theorem Lab.ext7 {x y : Lab} (h1 : x.m = y.m) (h2 : x.b = y.b) (h3 : x.g = y.g) (h4 : x.s = y.s) (h5 : x.n = y.n) (h6 : x.l = y.l) (h7 : x.k = y.k) : x = y := by
  cases x; cases y
  simp_all
theorem Lab.ok_fits {x : Lab} (h : x.ok) (hk : x.k < 256) : x.fits := by
  obtain ⟨m, b, g, s, n, l, k⟩ := x
  have h3 := three_s h.1
  have h4 := three_l h.1
  obtain ⟨⟨⟨_, _⟩, ⟨_, _⟩, ⟨_, _⟩⟩, ⟨_, _, _⟩, ⟨_, hn⟩, ⟨_, hl⟩⟩ := h
  unfold Lab.fits
  simp only at *
  refine ⟨by omega, by omega, by omega, by omega, by omega, by omega, hk⟩

def mark : Nat := 827540562
/-- The first eighteen bytes. -/
def head (x : Lab) : List (BitVec 8) := low mark 4 ++ low x.k 1 ++ low x.m 1 ++ low x.b 2 ++ low x.g 2 ++ low x.s 2 ++ low x.n 2 ++ low x.l 4
def sealL (L : List (BitVec 8)) : List (BitVec 8) := L ++ Crc.low (Crc.sum L) 4
/-- A label's sector. -/
def sector (x : Lab) : List (BitVec 8) := pad (sealL (head x)) x.b

theorem head_len (x : Lab) : (head x).length = 18 := rfl
theorem sealL_len (L : List (BitVec 8)) : (sealL L).length = L.length + 4 := by simp [sealL, slow_len]
theorem sector_len (x : Lab) (h : 22 ≤ x.b) : (sector x).length = x.b := pad_len _ _ (by rw [sealL_len, head_len]; exact h)

/-- The number of the s bytes behind the first i. -/
def fld (L : List (BitVec 8)) (i s : Nat) : Nat := num ((L.drop i).take s)
theorem fld_take (L : List (BitVec 8)) (i s : Nat) (h : i + s ≤ 18) : fld (L.take 18) i s = fld L i s := by
  unfold fld
  rw [List.drop_take, List.take_take, Nat.min_eq_left (by omega)]
theorem fld_lt (L : List (BitVec 8)) (i s : Nat) : fld L i s < 256 ^ s := num_take_lt _ _
/-- The label that the bytes give, whatever they are. -/
def lab (L : List (BitVec 8)) : Lab := ⟨fld L 5 1, fld L 6 2, fld L 8 2, fld L 10 2, fld L 12 2, fld L 14 4, fld L 4 1⟩
theorem lab_take (L : List (BitVec 8)) : lab (L.take 18) = lab L := by
  unfold lab
  rw [fld_take _ _ _ (by omega), fld_take _ _ _ (by omega), fld_take _ _ _ (by omega), fld_take _ _ _ (by omega), fld_take _ _ _ (by omega), fld_take _ _ _ (by omega), fld_take _ _ _ (by omega)]
theorem lab_fits (L : List (BitVec 8)) : (lab L).fits := ⟨fld_lt L 5 1, fld_lt L 6 2, fld_lt L 8 2, fld_lt L 10 2, fld_lt L 12 2, fld_lt L 14 4, fld_lt L 4 1⟩

theorem crc_low (c : BitVec 32) (k : Nat) : Crc.low c k = low c.toNat k := by
  induction k with
  | zero => rfl
  | succ k ih =>
    show Crc.low c k ++ [Crc.byteAt c k] = low c.toNat k ++ [byteAt c.toNat k]
    rw [ih]
    congr 2
    apply BitVec.eq_of_toNat_eq
    unfold Crc.byteAt byteAt
    rw [BitVec.toNat_setWidth, BitVec.toNat_ushiftRight, Nat.shiftRight_eq_div_pow, BitVec.toNat_ofNat]
theorem low_num (D : List (BitVec 8)) : ∀ k, k = D.length → low (num D) k = D := by
  suffices h : ∀ k, k ≤ D.length → low (num D) k = D.take k by
    intro k hk
    rw [h k (by omega), List.take_of_length_le (by omega)]
  intro k
  induction k with
  | zero => intro _; simp [low]
  | succ k ih =>
    intro hk
    rw [low, ih (by omega), List.take_succ_eq_append_getElem (by omega)]
    congr 2
    have e : num D = num (D.take k) + 256 ^ k * num (D.drop k) := by
      have := num_append (D.take k) (D.drop k)
      rw [List.take_append_drop, List.length_take, Nat.min_eq_left (by omega)] at this
      exact this
    have e2 : D.drop k = D[k] :: D.drop (k + 1) := List.drop_eq_getElem_cons (by omega)
    unfold byteAt
    apply BitVec.eq_of_toNat_eq
    rw [BitVec.toNat_ofNat, pow8, e, Nat.add_mul_div_left _ _ (Nat.pow_pos (by omega)), Nat.div_eq_of_lt (num_take_lt D k), Nat.zero_add, e2]
    have := D[k].isLt
    simp only [num]
    omega
theorem held_num (L : List (BitVec 8)) : ∀ j, j ≤ 4 → j ≤ L.length → (Crc.held L j).toNat = num (L.take j) := by
  intro j
  induction j with
  | zero => intro _ _; simp [Crc.held, num]
  | succ j ih =>
    intro h4 hl
    have hp : ((2 : Nat) ^ (8 * j)) = 256 ^ j := pow8 j
    have hle : 256 ^ j * 256 ≤ 4294967296 := by
      rw [← Nat.pow_succ]
      exact Nat.le_trans (Nat.pow_le_pow_right (by omega) (show j.succ ≤ 4 by omega)) (by decide)
    have hx := L[j].isLt
    have hm : L[j].toNat * 256 ^ j < 4294967296 := by
      rw [Nat.mul_comm]
      exact Nat.lt_of_lt_of_le (Nat.mul_lt_mul_of_pos_left hx (Nat.pow_pos (by omega))) hle
    rw [held_next L j (by omega), BitVec.toNat_or, ih (by omega) (by omega), num_take_next L j (by omega), BitVec.toNat_shiftLeft, BitVec.toNat_setWidth, Nat.shiftLeft_eq, hp,
      Nat.mod_eq_of_lt (a := L[j].toNat) (by omega), Nat.mod_eq_of_lt (by simpa using hm), Nat.mul_comm, Nat.or_comm, ← hp, ← Nat.two_pow_add_eq_or_of_lt (by rw [hp]; exact num_take_lt L j), Nat.add_comm]
theorem held_low (c : BitVec 32) (R : List (BitVec 8)) : Crc.held (Crc.low c 4 ++ R) 4 = c := by
  apply BitVec.eq_of_toNat_eq
  rw [held_num _ 4 (by omega) (by simp [slow_len]), List.take_left' (slow_len c 4), crc_low, num_low]
  exact Nat.mod_eq_of_lt c.isLt
/-- The first 22 bytes are sealed just if the four behind 18 hold the sum of those. -/
theorem sealed_iff (L : List (BitVec 8)) (h : 22 ≤ L.length) : L.take 22 = sealL (L.take 18) ↔ Crc.held (L.drop 18) 4 = Crc.sum (L.take 18) := by
  have e : L.take 22 = L.take 18 ++ (L.drop 18).take 4 := by
    rw [show 22 = 18 + 4 from rfl, List.take_add]
  constructor
  · intro h1
    rw [e] at h1
    have h2 := List.append_cancel_left h1
    have h3 : L.drop 18 = Crc.low (Crc.sum (L.take 18)) 4 ++ (L.drop 18).drop 4 := by
      rw [← h2, List.take_append_drop]
    rw [h3, held_low]
  · intro h1
    rw [e]
    unfold sealL
    congr 1
    have hl : 4 ≤ (L.drop 18).length := by simp; omega
    have h2 : num ((L.drop 18).take 4) = (Crc.sum (L.take 18)).toNat := by rw [← held_num _ 4 (by omega) hl, h1]
    rw [crc_low, ← h2, low_num _ 4 (by simp; omega)]

/-- The bytes are a label's sector. -/
def good (L : List (BitVec 8)) : Prop := fld L 0 4 = mark ∧ (lab L).ok ∧ (lab L).k < (lab L).m ∧ (lab L).b = L.length ∧ ∀ x ∈ L.drop 22, x = 0#8
open Classical in
/-- The label, and what is wrong. -/
noncomputable def dec (L : List (BitVec 8)) : Lab × Nat :=
  if L.length < 22 then (Lab.zero, 6) else if ¬ Crc.held (L.drop 18) 4 = Crc.sum (L.take 18) then (Lab.zero, 5) else if good L then (lab L, 0) else (Lab.zero, 4)
theorem dec_size {L : List (BitVec 8)} (h : L.length < 22) : dec L = (Lab.zero, 6) := by unfold dec; rw [if_pos h]
theorem dec_sum {L : List (BitVec 8)} (h : 22 ≤ L.length) (h2 : ¬ Crc.held (L.drop 18) 4 = Crc.sum (L.take 18)) : dec L = (Lab.zero, 5) := by unfold dec; rw [if_neg (by omega), if_pos h2]
theorem dec_bad {L : List (BitVec 8)} (h : 22 ≤ L.length) (h2 : Crc.held (L.drop 18) 4 = Crc.sum (L.take 18)) (h3 : ¬ good L) : dec L = (Lab.zero, 4) := by unfold dec; rw [if_neg (by omega), if_neg (fun h => h h2), if_neg h3]
theorem dec_good {L : List (BitVec 8)} (h : 22 ≤ L.length) (h2 : Crc.held (L.drop 18) 4 = Crc.sum (L.take 18)) (h3 : good L) : dec L = (lab L, 0) := by unfold dec; rw [if_neg (by omega), if_neg (fun h => h h2), if_pos h3]

theorem sector_take (x : Lab) : (sector x).take 18 = head x := by
  unfold sector pad sealL
  rw [List.append_assoc]
  exact List.take_left' (head_len x)
theorem sector_drop (x : Lab) : (sector x).drop 18 = Crc.low (Crc.sum (head x)) 4 ++ List.replicate (x.b - 22) 0#8 := by
  unfold sector pad
  rw [sealL_len, head_len]
  unfold sealL
  rw [List.append_assoc]
  exact List.drop_left' (head_len x)
theorem sector_zeros (x : Lab) : (sector x).drop 22 = List.replicate (x.b - 22) 0#8 := by
  rw [show 22 = 18 + 4 from rfl, ← List.drop_drop, sector_drop]
  exact List.drop_left' (slow_len _ 4)
theorem head_lab (x : Lab) (h : x.fits) : lab (head x) = x := by
  obtain ⟨h1, h2, h3, h4, h5, h6, h7⟩ := h
  apply Lab.ext7
  · show num (low x.m 1) = x.m
    rw [num_low]; exact Nat.mod_eq_of_lt h1
  · show num (low x.b 2) = x.b
    rw [num_low]; exact Nat.mod_eq_of_lt h2
  · show num (low x.g 2) = x.g
    rw [num_low]; exact Nat.mod_eq_of_lt h3
  · show num (low x.s 2) = x.s
    rw [num_low]; exact Nat.mod_eq_of_lt h4
  · show num (low x.n 2) = x.n
    rw [num_low]; exact Nat.mod_eq_of_lt h5
  · show num (low x.l 4) = x.l
    rw [num_low]; exact Nat.mod_eq_of_lt h6
  · show num (low x.k 1) = x.k
    rw [num_low]; exact Nat.mod_eq_of_lt h7
theorem sector_lab (x : Lab) (h : x.fits) : lab (sector x) = x := by rw [← lab_take, sector_take, head_lab x h]
theorem sector_mark (x : Lab) : fld (sector x) 0 4 = mark := by
  rw [← fld_take _ _ _ (by omega), sector_take]
  show num (low mark 4) = mark
  rw [num_low]
  rfl
theorem ok_block {x : Lab} (h : x.ok) : 32 ≤ x.b ∧ x.b ≤ 512 := by
  obtain ⟨_, ⟨h1, _, h2⟩, _⟩ := h
  omega
theorem dec_sector {x : Lab} (h : x.ok) (hk : x.k < x.m) : dec (sector x) = (x, 0) := by
  have hb := ok_block h
  have hf : x.fits := Lab.ok_fits h (by obtain ⟨⟨⟨_, _⟩, _⟩, _⟩ := h; omega)
  have hl := sector_lab x hf
  rw [dec_good (by rw [sector_len x (by omega)]; omega) (by rw [sector_drop, held_low, sector_take]), hl]
  refine ⟨sector_mark x, by rw [hl]; exact h, by rw [hl]; exact hk, by rw [hl, sector_len x (by omega)], ?_⟩
  rw [sector_zeros]
  intro y hy
  exact (List.mem_replicate.1 hy).2
theorem dec_sector_none {x : Lab} (h : x.ok) (hk : x.k < 256) (hm : ¬ x.k < x.m) : dec (sector x) = (Lab.zero, 4) := by
  have hb := ok_block h
  have hl := sector_lab x (Lab.ok_fits h hk)
  refine dec_bad (by rw [sector_len x (by omega)]; omega) (by rw [sector_drop, held_low, sector_take]) ?_
  intro hg
  have := hg.2.2.1
  rw [hl] at this
  exact hm this
theorem sector_inj {x y : Lab} (hx : x.fits) (hy : y.fits) (h : sector x = sector y) : x = y := by
  rw [← sector_lab x hx, ← sector_lab y hy, h]

end Go.Proofs.Ytkhjeaabhjfkgaa
