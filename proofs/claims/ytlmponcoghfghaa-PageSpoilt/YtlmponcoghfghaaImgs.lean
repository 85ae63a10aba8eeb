/-
  IMAGES: their bytes, their pages, and the image of pages; plain mathematics.
-/
import Derived.Test.YtlmponcoghfghaaNums
import Derived.Test.YtlmponcoghfghaaZeros
namespace Go.Proofs.Ytlmponcoghfghaa
open Go.RowKit
set_option linter.unusedVariables false
set_option maxRecDepth 100000

theorem fld_lt (L : List (BitVec 8)) (i s : Nat) : fld L i s < 256 ^ s := num_take_lt _ _
theorem fld_take (L : List (BitVec 8)) (i s m : Nat) (h : i + s ≤ m) : fld (L.take m) i s = fld L i s := by
  unfold fld
  rw [List.drop_take, List.take_take, Nat.min_eq_left (by omega)]
theorem held_take (L : List (BitVec 8)) (m : Nat) : Crc.held ((L.take (m + 4)).drop m) 4 = Crc.held (L.drop m) 4 := by
  rw [List.drop_take, show m + 4 - m = 4 by omega]
  by_cases h : 4 ≤ (L.drop m).length
  · apply BitVec.eq_of_toNat_eq
    rw [held_num _ 4 (by omega) (by rw [List.length_take]; omega), held_num _ 4 (by omega) h, List.take_take, Nat.min_self]
  · rw [List.take_of_length_le (by omega)]
/-- The first m + 4 bytes are sealed just if the four behind m hold the sum of those. -/
theorem sealed_iff (L : List (BitVec 8)) (m : Nat) (h : m + 4 ≤ L.length) : L.take (m + 4) = sealL (L.take m) ↔ Crc.held (L.drop m) 4 = Crc.sum (L.take m) := by
  have e : L.take (m + 4) = L.take m ++ (L.drop m).take 4 := by rw [List.take_add]
  constructor
  · intro h1
    rw [e] at h1
    have h2 := List.append_cancel_left h1
    have h3 : L.drop m = Crc.low (Crc.sum (L.take m)) 4 ++ (L.drop m).drop 4 := by
      rw [← h2, List.take_append_drop]
    rw [h3, held_low]
  · intro h1
    rw [e]
    unfold sealL
    congr 1
    have hl : 4 ≤ (L.drop m).length := by simp; omega
    have h2 : num ((L.drop m).take 4) = (Crc.sum (L.take m)).toNat := by rw [← held_num _ 4 (by omega) hl, h1]
    rw [crc_low, ← h2, low_num _ 4 (by simp; omega)]


theorem pad_self {L : List (BitVec 8)} {M : Nat} (h : L.length = M) : pad L M = L := by simp [pad, h]
theorem fld_at {D : List (BitVec 8)} {i s N : Nat} {R : List (BitVec 8)} (h : D.drop i = low N s ++ R) (hN : N < 256 ^ s) : fld D i s = N := by
  unfold fld
  rw [h, List.take_left' (low_len N s), num_low]
  exact Nat.mod_eq_of_lt hN
theorem fld_low {D : List (BitVec 8)} {i s : Nat} (h : i + s ≤ D.length) : (D.drop i).take s = low (fld D i s) s := by
  unfold fld
  rw [low_num _ s (by simp; omega)]

/-- A segment: its state, the number of its last stripe. -/
structure Sg where
  st : Nat
  bo : Nat
theorem Sg.ext2 {x y : Sg} (h1 : x.st = y.st) (h2 : x.bo = y.bo) : x = y := by
  cases x; cases y
  simp_all
def Sg.fits (x : Sg) : Prop := x.st < 256 ∧ x.bo < 18446744073709551616
def Sg.cs (x : Sg) : List Value := [.int .i64 (x.st : Int), .int .u64 (x.bo : Int)]
/-- An image: its number, its segment and one more, its index, its segments, each block's place and one more. -/
structure Im where
  q : Nat
  s : Nat
  i : Nat
  gs : List Sg
  mp : List Nat
theorem Im.ext5 {x y : Im} (h1 : x.q = y.q) (h2 : x.s = y.s) (h3 : x.i = y.i) (h4 : x.gs = y.gs) (h5 : x.mp = y.mp) : x = y := by
  cases x; cases y
  simp_all
def Im.zero : Im := ⟨0, 1, 0, [], []⟩
/-- The image's numbers fit into their bytes. -/
structure Im.fits (x : Im) : Prop where
  q : x.q < 18446744073709551616
  s : x.s < 65536
  i : x.i < 65536
  gs : ∀ y ∈ x.gs, y.fits
  mp : ∀ p ∈ x.mp, p < 4294967296

def sgb (x : Sg) : List (BitVec 8) := low x.st 1 ++ low x.bo 8
def sgsB (L : List Sg) : List (BitVec 8) := L.flatMap sgb
def mpB (L : List Nat) : List (BitVec 8) := L.flatMap (fun p => low p 4)
theorem sgb_len (x : Sg) : (sgb x).length = 9 := rfl
theorem sgsB_cons (x : Sg) (L : List Sg) : sgsB (x :: L) = sgb x ++ sgsB L := by simp [sgsB]
theorem sgsB_append (L M : List Sg) : sgsB (L ++ M) = sgsB L ++ sgsB M := by simp [sgsB]
theorem sgsB_one (x : Sg) : sgsB [x] = low x.st 1 ++ low x.bo 8 := by simp [sgsB, sgb]
theorem sgsB_len : ∀ L : List Sg, (sgsB L).length = 9 * L.length
  | [] => rfl
  | x :: L => by rw [sgsB_cons, List.length_append, sgsB_len L, sgb_len, List.length_cons]; omega
theorem sgsB_drop : ∀ (L : List Sg) (i : Nat), (sgsB L).drop (9 * i) = sgsB (L.drop i)
  | L, 0 => by simp
  | [], i + 1 => by simp [sgsB]
  | x :: L, i + 1 => by
    rw [sgsB_cons, show 9 * (i + 1) = 9 + 9 * i by omega, ← List.drop_drop, List.drop_left' (sgb_len x), sgsB_drop L i]
    rfl
theorem sgsB_next (F : List (BitVec 8)) (L : List Sg) (k : Nat) (h : k < L.length) : F ++ sgsB (L.take (k + 1)) = F ++ sgsB (L.take k) ++ low L[k].st 1 ++ low L[k].bo 8 := by
  rw [List.take_succ_eq_append_getElem h, sgsB_append, sgsB_one]
  simp only [List.append_assoc]
theorem mpB_cons (x : Nat) (L : List Nat) : mpB (x :: L) = low x 4 ++ mpB L := by simp [mpB]
theorem mpB_append (L M : List Nat) : mpB (L ++ M) = mpB L ++ mpB M := by simp [mpB]
theorem mpB_len : ∀ L : List Nat, (mpB L).length = 4 * L.length
  | [] => rfl
  | x :: L => by rw [mpB_cons, List.length_append, mpB_len L, low_len, List.length_cons]; omega
theorem mpB_drop : ∀ (L : List Nat) (i : Nat), (mpB L).drop (4 * i) = mpB (L.drop i)
  | L, 0 => by simp
  | [], i + 1 => by simp [mpB]
  | x :: L, i + 1 => by
    rw [mpB_cons, show 4 * (i + 1) = 4 + 4 * i by omega, ← List.drop_drop, List.drop_left' (low_len x 4), mpB_drop L i]
    rfl
theorem mpB_next (F : List (BitVec 8)) (L : List Nat) (k : Nat) (h : k < L.length) : F ++ mpB (L.take (k + 1)) = F ++ mpB (L.take k) ++ low L[k] 4 := by
  rw [List.take_succ_eq_append_getElem h, mpB_append, List.append_assoc]
  simp [mpB]

/-- The image's bytes. -/
def front (q s i : Nat) : List (BitVec 8) := low q 8 ++ low s 2 ++ low i 2
def Im.body (x : Im) : List (BitVec 8) := front x.q x.s x.i ++ sgsB x.gs ++ mpB x.mp
theorem front_len (q s i : Nat) : (front q s i).length = 12 := rfl
theorem body_len (x : Im) : x.body.length = 12 + 9 * x.gs.length + 4 * x.mp.length := by rw [Im.body, List.length_append, List.length_append, front_len, sgsB_len, mpB_len]

/-- What bytes say, whatever they are. -/
def sgAt (D : List (BitVec 8)) (k : Nat) : Sg := ⟨fld D (12 + 9 * k) 1, fld D (12 + 9 * k + 1) 8⟩
def sgUpto (D : List (BitVec 8)) (n : Nat) : List Sg := (List.range n).map (sgAt D)
def mpAt (D : List (BitVec 8)) (o k : Nat) : Nat := fld D (o + 4 * k) 4
def mpUpto (D : List (BitVec 8)) (o n : Nat) : List Nat := (List.range n).map (mpAt D o)
def img (D : List (BitVec 8)) (g l : Nat) : Im := ⟨fld D 0 8, fld D 8 2, fld D 10 2, sgUpto D g, mpUpto D (12 + 9 * g) l⟩
theorem sgUpto_len (D : List (BitVec 8)) (n : Nat) : (sgUpto D n).length = n := by simp [sgUpto]
theorem sgUpto_next (D : List (BitVec 8)) (n : Nat) : sgUpto D (n + 1) = sgUpto D n ++ [sgAt D n] := by simp [sgUpto, List.range_succ]
theorem mpUpto_len (D : List (BitVec 8)) (o n : Nat) : (mpUpto D o n).length = n := by simp [mpUpto]
theorem mpUpto_next (D : List (BitVec 8)) (o n : Nat) : mpUpto D o (n + 1) = mpUpto D o n ++ [mpAt D o n] := by simp [mpUpto, List.range_succ]
theorem sgAt_fits (D : List (BitVec 8)) (k : Nat) : (sgAt D k).fits := ⟨fld_lt D _ 1, fld_lt D _ 8⟩
theorem mpAt_lt (D : List (BitVec 8)) (o k : Nat) : mpAt D o k < 4294967296 := fld_lt D _ 4
theorem img_fits (D : List (BitVec 8)) (g l : Nat) : (img D g l).fits := by
  refine ⟨fld_lt D _ 8, fld_lt D _ 2, fld_lt D _ 2, fun y hy => ?_, fun p hp => ?_⟩
  · obtain ⟨k, _, rfl⟩ := List.mem_map.1 hy; exact sgAt_fits D k
  · obtain ⟨k, _, rfl⟩ := List.mem_map.1 hp; exact mpAt_lt D _ k

/-- There is such an image of the shape. -/
def Im.fine (x : Im) (m g s : Nat) : Prop := (x.s ≤ g ∧ x.i < s) ∧ (∀ y ∈ x.gs, y.st ≤ 2) ∧ ∀ p ∈ x.mp, p ≤ g * s * (m - 2)

/-- Page i of bytes D, of so many bytes each. -/
def cut (D : List (BitVec 8)) (P i : Nat) : List (BitVec 8) := (D.drop (i * P)).take P
def mark (gen i : Nat) : List (BitVec 8) := low 80 1 ++ low gen 8 ++ low i 2
def sheet (gen i : Nat) (C : List (BitVec 8)) : List (BitVec 8) := sealL (mark gen i ++ C)
theorem mark_len (gen i : Nat) : (mark gen i).length = 11 := rfl
theorem cut_len {D : List (BitVec 8)} {P n i : Nat} (h : D.length = n * P) (hi : i < n) : (cut D P i).length = P := by
  unfold cut
  have : (i + 1) * P ≤ n * P := Nat.mul_le_mul_right _ hi
  rw [Nat.add_mul, Nat.one_mul] at this
  simp; omega
theorem sheet_len (gen i : Nat) (C : List (BitVec 8)) : (sheet gen i C).length = 15 + C.length := by rw [sheet, sealL_len, List.length_append, mark_len]; omega
def sheets (D : List (BitVec 8)) (gen P n : Nat) : List (List (BitVec 8)) := (List.range n).map fun i => sheet gen i (cut D P i)
theorem sheets_len (D : List (BitVec 8)) (gen P n : Nat) : (sheets D gen P n).length = n := by simp [sheets]
theorem sheets_next (D : List (BitVec 8)) (gen P n : Nat) : sheets D gen P (n + 1) = sheets D gen P n ++ [sheet gen n (cut D P n)] := by simp [sheets, List.range_succ]
theorem sheets_get (D : List (BitVec 8)) (gen P n i : Nat) (h : i < (sheets D gen P n).length) : (sheets D gen P n)[i] = sheet gen i (cut D P i) := by simp [sheets]

/-- What is wrong with page i. -/
def Sealed (b : Nat) (B : List (BitVec 8)) : Prop := Crc.held (B.drop (b - 4)) 4 = Crc.sum (B.take (b - 4))
def Marked (gen i : Nat) (B : List (BitVec 8)) : Prop := fld B 0 1 = 80 ∧ fld B 1 8 = gen ∧ fld B 9 2 = i
open Classical in
noncomputable def wrong (b gen i : Nat) (B : List (BitVec 8)) : Nat := if ¬ B.length = b then 6 else if ¬ Sealed b B then 5 else if ¬ Marked gen i B then 4 else 0
theorem wrong_size {b gen i : Nat} {B : List (BitVec 8)} (h : ¬ B.length = b) : wrong b gen i B = 6 := by unfold wrong; rw [if_pos h]
theorem wrong_sum {b gen i : Nat} {B : List (BitVec 8)} (h : B.length = b) (h2 : ¬ Sealed b B) : wrong b gen i B = 5 := by unfold wrong; rw [if_neg (fun k => k h), if_pos h2]
theorem wrong_form {b gen i : Nat} {B : List (BitVec 8)} (h : B.length = b) (h2 : Sealed b B) (h3 : ¬ Marked gen i B) : wrong b gen i B = 4 := by unfold wrong; rw [if_neg (fun k => k h), if_neg (fun k => k h2), if_pos h3]
theorem wrong_none {b gen i : Nat} {B : List (BitVec 8)} (h : B.length = b) (h2 : Sealed b B) (h3 : Marked gen i B) : wrong b gen i B = 0 := by unfold wrong; rw [if_neg (fun k => k h), if_neg (fun k => k h2), if_neg (fun k => k h3)]
theorem right_len {b gen i : Nat} {B : List (BitVec 8)} (h : wrong b gen i B = 0) : B.length = b := by
  rcases Classical.em (B.length = b) with h1 | h1
  · exact h1
  · rw [wrong_size h1] at h; cases h
theorem right_mark {b gen i : Nat} {B : List (BitVec 8)} (h : wrong b gen i B = 0) : Marked gen i B := by
  rcases Classical.em (Sealed b B) with h1 | h1
  · rcases Classical.em (Marked gen i B) with h2 | h2
    · exact h2
    · rw [wrong_form (right_len h) h1 h2] at h; cases h
  · rw [wrong_sum (right_len h) h1] at h; cases h
/-- The image's bytes in a page. -/
def inner (b : Nat) (B : List (BitVec 8)) : List (BitVec 8) := (B.take (b - 4)).drop 11
theorem inner_len {b : Nat} {B : List (BitVec 8)} (h : B.length = b) : (inner b B).length = b - 15 := by simp [inner, h]; omega
/-- The image's bytes in some pages. -/
def inners (b : Nat) (L : List (List (BitVec 8))) : List (BitVec 8) := L.flatMap (inner b)
theorem inners_next (b : Nat) (L : List (List (BitVec 8))) (k : Nat) (h : k < L.length) : inners b (L.take (k + 1)) = inners b (L.take k) ++ inner b L[k] := by
  rw [List.take_succ_eq_append_getElem h]
  unfold inners
  rw [List.flatMap_append]
  simp
theorem inners_len (b : Nat) : ∀ L : List (List (BitVec 8)), (∀ B ∈ L, B.length = b) → (inners b L).length = L.length * (b - 15)
  | [], _ => by simp [inners]
  | B :: L, h => by
    have e : inners b (B :: L) = inner b B ++ inners b L := by simp [inners]
    rw [e, List.length_append, inner_len (h B (by simp)), inners_len b L (fun x hx => h x (by simp [hx])), List.length_cons, Nat.add_mul]; omega

/-- The image of pages, and what is wrong: n pages of b bytes there must be. -/
inductive Dec (m b g s l n gen : Nat) (L : List (List (BitVec 8))) : Im × Nat → Prop
  | size : ¬ L.length = n → Dec m b g s l n gen L (Im.zero, 6)
  | page (k : Nat) (hk : k < L.length) : L.length = n → (∀ j (h : j < L.length), j < k → wrong b gen j L[j] = 0) → ¬ wrong b gen k L[k] = 0 → Dec m b g s l n gen L (Im.zero, wrong b gen k L[k])
  | form : L.length = n → (∀ j (h : j < L.length), wrong b gen j L[j] = 0) → ¬ ((img (inners b L) g l).fine m g s ∧ None0 ((inners b L).drop (12 + 9 * g + 4 * l))) → Dec m b g s l n gen L (Im.zero, 4)
  | good : L.length = n → (∀ j (h : j < L.length), wrong b gen j L[j] = 0) → (img (inners b L) g l).fine m g s → None0 ((inners b L).drop (12 + 9 * g + 4 * l)) → Dec m b g s l n gen L (img (inners b L) g l, 0)
theorem Dec.one {m b g s l n gen : Nat} {L : List (List (BitVec 8))} {r r' : Im × Nat} (h : Dec m b g s l n gen L r) (h' : Dec m b g s l n gen L r') : r = r' := by
  cases h with
  | size h1 => cases h' <;> first | rfl | contradiction
  | page k hk h1 h2 h3 =>
    cases h' with
    | size k1 => contradiction
    | page k' hk' k1 k2 k3 =>
      rcases Nat.lt_trichotomy k k' with h | h | h
      · exact (h3 (k2 k hk h)).elim
      · subst h; rfl
      · exact (k3 (h2 k' hk' h)).elim
    | form k1 k2 k3 => exact (h3 (k2 k hk)).elim
    | good k1 k2 k3 k4 => exact (h3 (k2 k hk)).elim
  | form h1 h2 h3 =>
    cases h' with
    | size k1 => contradiction
    | page k' hk' k1 k2 k3 => exact (k3 (h2 k' hk')).elim
    | form k1 k2 k3 => rfl
    | good k1 k2 k3 k4 => exact (h3 ⟨k3, k4⟩).elim
  | good h1 h2 h3 h4 =>
    cases h' with
    | size k1 => contradiction
    | page k' hk' k1 k2 k3 => exact (k3 (h2 k' hk')).elim
    | form k1 k2 k3 => exact (k3 ⟨h3, h4⟩).elim
    | good k1 k2 k3 k4 => rfl

/-- The pages of bytes are right. -/
theorem sheet_right {b gen i : Nat} {C : List (BitVec 8)} (hC : C.length + 15 = b) (hg : gen < 18446744073709551616) (hi : i < 65536) : wrong b gen i (sheet gen i C) = 0 := by
  have hl : (mark gen i ++ C).length = b - 4 := by rw [List.length_append, mark_len]; omega
  refine wrong_none (by rw [sheet_len]; omega) ?_ ?_
  · unfold Sealed sheet sealL
    rw [List.drop_left' hl, List.take_left' hl]
    have := held_low (Crc.sum (mark gen i ++ C)) []
    rwa [List.append_nil] at this
  · have e : sheet gen i C = low 80 1 ++ (low gen 8 ++ (low i 2 ++ (C ++ Crc.low (Crc.sum (mark gen i ++ C)) 4))) := by
      unfold sheet sealL mark
      simp only [List.append_assoc]
    rw [e]
    refine ⟨fld_at (R := low gen 8 ++ (low i 2 ++ (C ++ Crc.low (Crc.sum (mark gen i ++ C)) 4))) (by simp) (by decide), fld_at (R := low i 2 ++ (C ++ Crc.low (Crc.sum (mark gen i ++ C)) 4)) ?_ hg, fld_at (R := C ++ Crc.low (Crc.sum (mark gen i ++ C)) 4) ?_ hi⟩
    · exact List.drop_left' (low_len 80 1)
    · rw [show (9 : Nat) = 1 + 8 from rfl, ← List.drop_drop, List.drop_left' (low_len 80 1), List.drop_left' (low_len gen 8)]
theorem sheet_marked {gen i gen' i' : Nat} {C : List (BitVec 8)} (hg : gen < 18446744073709551616) (hi : i < 65536) (h : Marked gen' i' (sheet gen i C)) : gen' = gen ∧ i' = i := by
  have h0 : Marked gen i (sheet gen i C) := right_mark (sheet_right (b := C.length + 15) rfl hg hi)
  exact ⟨h.2.1.symm.trans h0.2.1, h.2.2.symm.trans h0.2.2⟩
theorem sheet_other {b gen i gen' i' : Nat} {C : List (BitVec 8)} (hC : C.length + 15 = b) (hg : gen < 18446744073709551616) (hi : i < 65536) (h : ¬ (gen' = gen ∧ i' = i)) : wrong b gen' i' (sheet gen i C) = 4 := by
  have h0 := sheet_right hC hg hi
  refine wrong_form (right_len h0) ?_ (fun k => h (sheet_marked hg hi k))
  rcases Classical.em (Sealed b (sheet gen i C)) with h1 | h1
  · exact h1
  · rw [wrong_sum (right_len h0) h1] at h0; cases h0
theorem sheet_inner {b gen i : Nat} {C : List (BitVec 8)} (hC : C.length + 15 = b) : inner b (sheet gen i C) = C := by
  have hl : (mark gen i ++ C).length = b - 4 := by rw [List.length_append, mark_len]; omega
  unfold inner sheet sealL
  rw [List.take_left' hl, List.drop_left' (mark_len gen i)]
theorem cuts {D : List (BitVec 8)} {P n : Nat} (h : D.length = n * P) : ∀ k, k ≤ n → (List.range k).flatMap (cut D P) = D.take (k * P)
  | 0, _ => by simp
  | k + 1, hk => by
    rw [List.range_succ, List.flatMap_append, cuts h k (by omega), Nat.add_mul, Nat.one_mul, List.take_add]
    simp [cut]
theorem sheets_inners {D : List (BitVec 8)} {gen b n : Nat} (hb : 15 ≤ b) (h : D.length = n * (b - 15)) : inners b (sheets D gen (b - 15) n) = D := by
  unfold inners sheets
  rw [List.flatMap_map]
  have e : ∀ i ∈ List.range n, inner b (sheet gen i (cut D (b - 15) i)) = cut D (b - 15) i := fun i hi => sheet_inner (by rw [cut_len h (List.mem_range.1 hi)]; omega)
  have e2 : (List.range n).flatMap (fun i => inner b (sheet gen i (cut D (b - 15) i))) = (List.range n).flatMap (cut D (b - 15)) := by
    rw [List.flatMap_def, List.flatMap_def, List.map_congr_left e]
  rw [e2, cuts h n (Nat.le_refl _), List.take_of_length_le (by omega)]
theorem sheets_right {D : List (BitVec 8)} {gen b n : Nat} (hb : 15 ≤ b) (hn : n < 65536) (h : D.length = n * (b - 15)) (hg : gen < 18446744073709551616) (j : Nat) (hj : j < (sheets D gen (b - 15) n).length) : wrong b gen j (sheets D gen (b - 15) n)[j] = 0 := by
  rw [sheets_get]
  rw [sheets_len] at hj
  exact sheet_right (by rw [cut_len h hj]; omega) hg (by omega)

theorem drop_pad (x : Im) (M i : Nat) (hi : i ≤ x.body.length) : (pad x.body M).drop i = x.body.drop i ++ List.replicate (M - x.body.length) 0#8 := by
  unfold pad
  rw [List.drop_append_of_le_length hi]
set_option maxHeartbeats 4000000 in
theorem img_pad (x : Im) (hf : x.fits) (M : Nat) : img (pad x.body M) x.gs.length x.mp.length = x := by
  have hl := body_len x
  have e0 : ∀ i, i ≤ 12 → x.body.drop i = (front x.q x.s x.i).drop i ++ (sgsB x.gs ++ mpB x.mp) := fun i hi => by
    unfold Im.body
    rw [List.append_assoc, List.drop_append_of_le_length (by rw [front_len]; omega)]
  have e1 : ∀ k, x.body.drop (12 + 9 * k) = sgsB (x.gs.drop k) ++ mpB x.mp ∨ ¬ k ≤ x.gs.length := fun k => by
    rcases Nat.lt_or_ge x.gs.length k with h | h
    · exact .inr (by omega)
    · refine .inl ?_
      rw [← List.drop_drop, e0 12 (by omega), show (front x.q x.s x.i).drop 12 = [] from List.drop_of_length_le (by rw [front_len]; omega), List.nil_append, List.drop_append_of_le_length (by rw [sgsB_len]; omega), sgsB_drop]
  apply Im.ext5
  · refine fld_at (R := low x.s 2 ++ low x.i 2 ++ (sgsB x.gs ++ mpB x.mp) ++ List.replicate (M - x.body.length) 0#8) ?_ hf.q
    rw [drop_pad x M 0 (by omega), e0 0 (by omega)]
    simp [front, List.append_assoc]
  · refine fld_at (R := low x.i 2 ++ (sgsB x.gs ++ mpB x.mp) ++ List.replicate (M - x.body.length) 0#8) ?_ hf.s
    rw [drop_pad x M 8 (by omega), e0 8 (by omega)]
    rw [show (front x.q x.s x.i).drop 8 = low x.s 2 ++ low x.i 2 by unfold front; rw [List.append_assoc]; exact List.drop_left' (low_len x.q 8)]
    simp [List.append_assoc]
  · refine fld_at (R := (sgsB x.gs ++ mpB x.mp) ++ List.replicate (M - x.body.length) 0#8) ?_ hf.i
    rw [drop_pad x M 10 (by omega), e0 10 (by omega)]
    rw [show (front x.q x.s x.i).drop 10 = low x.i 2 by unfold front; exact List.drop_left' (by rw [List.length_append, low_len, low_len])]
    simp [List.append_assoc]
  · apply List.ext_getElem (by show (sgUpto _ _).length = _; rw [sgUpto_len])
    intro k h1 h2
    have hx := hf.gs x.gs[k] (List.getElem_mem h2)
    have ek : (pad x.body M).drop (12 + 9 * k) = low x.gs[k].st 1 ++ (low x.gs[k].bo 8 ++ (sgsB (x.gs.drop (k + 1)) ++ mpB x.mp ++ List.replicate (M - x.body.length) 0#8)) := by
      rw [drop_pad x M _ (by omega)]
      rcases e1 k with e | e
      · rw [e, List.drop_eq_getElem_cons h2, sgsB_cons]
        unfold sgb
        simp only [List.append_assoc]
      · omega
    show (sgUpto _ _)[k]'(by rw [sgUpto_len]; exact h2) = _
    have : (sgUpto (pad x.body M) x.gs.length)[k]'(by rw [sgUpto_len]; exact h2) = sgAt (pad x.body M) k := by simp [sgUpto]
    rw [this]
    apply Sg.ext2
    · show fld (pad x.body M) (12 + 9 * k) 1 = x.gs[k].st
      have h3 : x.gs[k].st < 256 ^ 1 := hx.1
      exact fld_at ek h3
    · show fld (pad x.body M) (12 + 9 * k + 1) 8 = x.gs[k].bo
      refine fld_at (R := sgsB (x.gs.drop (k + 1)) ++ mpB x.mp ++ List.replicate (M - x.body.length) 0#8) ?_ hx.2
      rw [← List.drop_drop, ek, List.drop_left' (low_len _ 1)]
  · apply List.ext_getElem (by show (mpUpto _ _ _).length = _; rw [mpUpto_len])
    intro k h1 h2
    have hx := hf.mp x.mp[k] (List.getElem_mem h2)
    show (mpUpto _ _ _)[k]'(by rw [mpUpto_len]; exact h2) = _
    have : (mpUpto (pad x.body M) (12 + 9 * x.gs.length) x.mp.length)[k]'(by rw [mpUpto_len]; exact h2) = mpAt (pad x.body M) (12 + 9 * x.gs.length) k := by simp [mpUpto]
    rw [this]
    show fld (pad x.body M) (12 + 9 * x.gs.length + 4 * k) 4 = x.mp[k]
    refine fld_at (R := mpB (x.mp.drop (k + 1)) ++ List.replicate (M - x.body.length) 0#8) ?_ hx
    rw [drop_pad x M _ (by omega), ← List.drop_drop]
    rcases e1 x.gs.length with e | e
    · rw [e, List.drop_of_length_le (Nat.le_refl _), show sgsB [] = [] from rfl, List.nil_append, mpB_drop, List.drop_eq_getElem_cons h2, mpB_cons]
      simp only [List.append_assoc]
    · omega
theorem pad_none (x : Im) (M g l : Nat) (hg : x.gs.length = g) (hm : x.mp.length = l) : None0 ((pad x.body M).drop (12 + 9 * g + 4 * l)) := by
  subst hg hm
  rw [drop_pad x M _ (by rw [body_len]; omega), List.drop_of_length_le (by rw [body_len]; omega), List.nil_append]
  intro y hy
  exact (List.mem_replicate.1 hy).2
/-- The pages of an image, read, are the image. -/
theorem dec_sheets {m b g s l n gen : Nat} {x : Im} (hb : 15 ≤ b) (hn : n < 65536) (hg : gen < 18446744073709551616) (hf : x.fits) (hF : x.fine m g s) (h1 : x.gs.length = g) (h2 : x.mp.length = l) (hl : 12 + 9 * g + 4 * l ≤ n * (b - 15)) :
    Dec m b g s l n gen (sheets (pad x.body (n * (b - 15))) gen (b - 15) n) (x, 0) := by
  have hD : (pad x.body (n * (b - 15))).length = n * (b - 15) := pad_len _ _ (by rw [body_len, h1, h2]; exact hl)
  have e := sheets_inners (gen := gen) hb hD
  have hi : img (pad x.body (n * (b - 15))) g l = x := by subst h1 h2; exact img_pad x hf _
  have := Dec.good (m := m) (b := b) (g := g) (s := s) (l := l) (n := n) (gen := gen) (L := sheets (pad x.body (n * (b - 15))) gen (b - 15) n) (sheets_len _ _ _ _) (sheets_right hb hn hD hg)
  rw [e, hi] at this
  exact this hF (pad_none x _ g l h1 h2)
/-- Pages of another generation are none. -/
theorem dec_other {m b g s l n gen gen' k : Nat} {x : Im} {L : List (List (BitVec 8))} (hL : L.length = n) (h0 : 0 < L.length) (h : wrong b gen' 0 L[0] = 4) : Dec m b g s l n gen' L (Im.zero, 4) := by
  have := Dec.page (m := m) (b := b) (g := g) (s := s) (l := l) (n := n) (gen := gen') (L := L) 0 h0 hL (fun j h hj => by omega) (by rw [h]; decide)
  rw [h] at this
  exact this
end Go.Proofs.Ytlmponcoghfghaa
