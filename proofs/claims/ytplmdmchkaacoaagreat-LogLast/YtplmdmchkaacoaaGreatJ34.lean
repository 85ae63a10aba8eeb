/-
  TEXTS JOINED: L9WalkD, L9Nums, L9Notes, L9Part, L9Ends, L9Ers.
-/
import Derived.Test.YtplmdmchkaacoaaGreatJ33
import Derived.Test.YtplmdmchkaacoaaGreatJ20
import Derived.Test.YtplmdmchkaacoaaGreatJ22
import Derived.Laws.BitsAllLaws
import Derived.Deep.MidRow
import Derived.Deep.WholeRow
import Derived.Laws.ResultCell
import Derived.Laws.StructEq

/-
  THE WALKS OF THE READER, ON: Raw, Take, Good, Rest.
-/
namespace Go.Proofs.YtplmdmchkaacoaaGreat.L9
set_option maxRecDepth 100000
open Go.RowKit
set_option linter.unusedVariables false

theorem or_next (l : List (BitVec 8)) (j : Nat) (h : j < l.length) (h8 : j < 8) :
    bits BinOp.or IntKind.u64 ((num (l.take j) : Nat) : Int) (IntKind.u64.wrap ((l[j].toNat : Int) * (2 : Int) ^ (8 * j))) = ((num (l.take (j + 1)) : Nat) : Int) := by
  rw [show IntKind.u64.wrap ((l[j].toNat : Int) * (2 : Int) ^ (8 * j)) = (l[j].toNat : Int) * (2 : Int) ^ (8 * j) % (18446744073709551616 : Int) by simp [IntKind.wrap, IntKind.signed, IntKind.bits]]
  have hx : l[j].toNat < 256 := l[j].isLt
  have hlo := num_take_lt l j
  have hle : 256 ^ j * 256 ≤ 18446744073709551616 := by
    rw [← Nat.pow_succ]
    exact Nat.le_trans (Nat.pow_le_pow_right (by omega) (show j.succ ≤ 8 by omega)) (by decide)
  have hm : l[j].toNat * 2 ^ (8 * j) < 18446744073709551616 := by
    rw [pow8, Nat.mul_comm]
    exact Nat.lt_of_lt_of_le (Nat.mul_lt_mul_of_pos_left hx (Nat.pow_pos (by omega))) hle
  have e : (l[j].toNat : Int) * (2 : Int) ^ (8 * j) % (18446744073709551616 : Int) = ((l[j].toNat * 2 ^ (8 * j) : Nat) : Int) := by
    rw [Int.emod_eq_of_lt]
    · rw [Int.natCast_mul, Int.natCast_pow]
      rfl
    · exact Int.mul_nonneg (by omega) (Int.pow_nonneg (by omega))
    · have : ((l[j].toNat * 2 ^ (8 * j) : Nat) : Int) < 18446744073709551616 := by omega
      rw [Int.natCast_mul, Int.natCast_pow] at this
      exact this
  have hbig : num (l.take j) < 18446744073709551616 := by
    have h1 : 256 ^ j * 1 ≤ 256 ^ j * 256 := Nat.mul_le_mul_left _ (by omega)
    omega
  rw [e, u64_or_nat _ _ hbig hm, num_take_next l j h]
  congr 1
  rw [Nat.mul_comm (l[j].toNat), Nat.or_comm, ← Nat.two_pow_add_eq_or_of_lt (by rw [pow8]; exact hlo), pow8, Nat.add_comm]

end Go.Proofs.YtplmdmchkaacoaaGreat.L9

/-
  SEALED BYTES, numbers of bytes; plain mathematics.
-/
namespace Go.Proofs.YtplmdmchkaacoaaGreat.L9
set_option maxRecDepth 100000
open Go.RowKit
set_option linter.unusedVariables false

def sealL (L : List (BitVec 8)) : List (BitVec 8) := L ++ Crc.low (Crc.sum L) 4
theorem sealL_len (L : List (BitVec 8)) : (sealL L).length = L.length + 4 := by simp [sealL, slow_len]
/-- The number of the s bytes behind the first i. -/
def fld (L : List (BitVec 8)) (i s : Nat) : Nat := num ((L.drop i).take s)
theorem crc_low (c : BitVec 32) (k : Nat) : Crc.low c k = low c.toNat k := by
  induction k with
  | zero => rfl
  | succ k ih =>
    show Crc.low c k ++ [Crc.byteAt c k] = low c.toNat k ++ [byteAt c.toNat k]
    rw [ih]
    congr 2
    apply BitVec.eq_of_toNat_eq
    unfold Crc.byteAt byteAt
    rw [BitVec.toNat_setWidth, BitVec.toNat_ushiftRight, Nat.shiftRight_eq_div_pow, BitVec.toNat_ofNat]
theorem low_num (D : List (BitVec 8)) : ∀ k, k = D.length → low (num D) k = D := by
  suffices h : ∀ k, k ≤ D.length → low (num D) k = D.take k by
    intro k hk
    rw [h k (by omega), List.take_of_length_le (by omega)]
  intro k
  induction k with
  | zero => intro _; simp [low]
  | succ k ih =>
    intro hk
    rw [low, ih (by omega), List.take_succ_eq_append_getElem (by omega)]
    congr 2
    have e : num D = num (D.take k) + 256 ^ k * num (D.drop k) := by
      have := num_append (D.take k) (D.drop k)
      rw [List.take_append_drop, List.length_take, Nat.min_eq_left (by omega)] at this
      exact this
    have e2 : D.drop k = D[k] :: D.drop (k + 1) := List.drop_eq_getElem_cons (by omega)
    unfold byteAt
    apply BitVec.eq_of_toNat_eq
    rw [BitVec.toNat_ofNat, pow8, e, Nat.add_mul_div_left _ _ (Nat.pow_pos (by omega)), Nat.div_eq_of_lt (num_take_lt D k), Nat.zero_add, e2]
    have := D[k].isLt
    simp only [num]
    omega
theorem held_num (L : List (BitVec 8)) : ∀ j, j ≤ 4 → j ≤ L.length → (Crc.held L j).toNat = num (L.take j) := by
  intro j
  induction j with
  | zero => intro _ _; simp [Crc.held, num]
  | succ j ih =>
    intro h4 hl
    have hp : ((2 : Nat) ^ (8 * j)) = 256 ^ j := pow8 j
    have hle : 256 ^ j * 256 ≤ 4294967296 := by
      rw [← Nat.pow_succ]
      exact Nat.le_trans (Nat.pow_le_pow_right (by omega) (show j.succ ≤ 4 by omega)) (by decide)
    have hx := L[j].isLt
    have hm : L[j].toNat * 256 ^ j < 4294967296 := by
      rw [Nat.mul_comm]
      exact Nat.lt_of_lt_of_le (Nat.mul_lt_mul_of_pos_left hx (Nat.pow_pos (by omega))) hle
    rw [held_next L j (by omega), BitVec.toNat_or, ih (by omega) (by omega), num_take_next L j (by omega), BitVec.toNat_shiftLeft, BitVec.toNat_setWidth, Nat.shiftLeft_eq, hp,
      Nat.mod_eq_of_lt (a := L[j].toNat) (by omega), Nat.mod_eq_of_lt (by simpa using hm), Nat.mul_comm, Nat.or_comm, ← hp, ← Nat.two_pow_add_eq_or_of_lt (by rw [hp]; exact num_take_lt L j), Nat.add_comm]
theorem held_low (c : BitVec 32) (R : List (BitVec 8)) : Crc.held (Crc.low c 4 ++ R) 4 = c := by
  apply BitVec.eq_of_toNat_eq
  rw [held_num _ 4 (by omega) (by simp [slow_len]), List.take_left' (slow_len c 4), crc_low, num_low]
  exact Nat.mod_eq_of_lt c.isLt
end Go.Proofs.YtplmdmchkaacoaaGreat.L9

/-
  NOTES: their bytes, and the note of bytes; plain mathematics.
-/
namespace Go.Proofs.YtplmdmchkaacoaaGreat.L9
open Go.RowKit
set_option linter.unusedVariables false
set_option maxRecDepth 100000


/-- An entry: its kind, and its block. -/
structure En where
  k : Nat
  b : Nat
theorem En.ext2 {x y : En} (h1 : x.k = y.k) (h2 : x.b = y.b) : x = y := by
  cases x; cases y
  simp_all
/-- An entry's numbers fit into their bytes. -/
def En.fits (x : En) : Prop := x.k < 256 ∧ x.b < 4294967296
/-- There is such an entry. -/
def En.ok (x : En) : Prop := x.k ≤ 3 ∧ (x.k = 0 → x.b = 0)
def En.cs (x : En) : List Value := [.int .i64 (x.k : Int), .int .i64 (x.b : Int)]
/-- A note: its number, the next segment, its entries. -/
structure Nt where
  q : Nat
  z : Int
  es : List En
theorem Nt.ext3 {x y : Nt} (h1 : x.q = y.q) (h2 : x.z = y.z) (h3 : x.es = y.es) : x = y := by
  cases x; cases y
  simp_all
def Nt.zero : Nt := ⟨0, 0, []⟩

def ent (x : En) : List (BitVec 8) := low x.k 1 ++ low x.b 4
def ents (es : List En) : List (BitVec 8) := es.flatMap ent
theorem ent_len (x : En) : (ent x).length = 5 := rfl
theorem ents_nil : ents [] = [] := rfl
theorem ents_cons (x : En) (L : List En) : ents (x :: L) = ent x ++ ents L := by simp [ents]
theorem ents_append (L M : List En) : ents (L ++ M) = ents L ++ ents M := by simp [ents]
theorem ents_one (x : En) : ents [x] = low x.k 1 ++ low x.b 4 := by simp [ents, ent]
theorem ents_len : ∀ L : List En, (ents L).length = 5 * L.length
  | [] => rfl
  | x :: L => by rw [ents_cons, List.length_append, ents_len L, ent_len, List.length_cons]; omega
theorem ents_drop : ∀ (L : List En) (i : Nat), (ents L).drop (5 * i) = ents (L.drop i)
  | L, 0 => by simp
  | [], i + 1 => by simp [ents]
  | x :: L, i + 1 => by
    rw [ents_cons, show 5 * (i + 1) = 5 + 5 * i by omega, ← List.drop_drop, List.drop_left' (ent_len x), ents_drop L i]
    rfl

/-- A note's bytes ahead of its sum. -/
def front (q s : Nat) : List (BitVec 8) := low 78 1 ++ low q 8 ++ low s 2
def body (q s : Nat) (es : List En) : List (BitVec 8) := front q s ++ ents es
theorem front_len (q s : Nat) : (front q s).length = 11 := rfl
theorem body_len (q s : Nat) (es : List En) : (body q s es).length = 11 + 5 * es.length := by rw [body, List.length_append, front_len, ents_len]
/-- A note's bytes, so many at least. -/
def told (q s : Nat) (es : List En) (M : Nat) : List (BitVec 8) := pad (sealL (body q s es)) M
theorem told_len (q s : Nat) (es : List En) (M : Nat) (h : 15 + 5 * es.length ≤ M) : (told q s es M).length = M := pad_len _ _ (by rw [sealL_len, body_len]; omega)

theorem fld_lt (L : List (BitVec 8)) (i s : Nat) : fld L i s < 256 ^ s := num_take_lt _ _
theorem fld_take (L : List (BitVec 8)) (i s m : Nat) (h : i + s ≤ m) : fld (L.take m) i s = fld L i s := by
  unfold fld
  rw [List.drop_take, List.take_take, Nat.min_eq_left (by omega)]
/-- The entry number i that the bytes give, whatever they are. -/
def enAt (L : List (BitVec 8)) (i : Nat) : En := ⟨fld L (11 + 5 * i) 1, fld L (12 + 5 * i) 4⟩
def enUpto (L : List (BitVec 8)) (n : Nat) : List En := (List.range n).map (enAt L)
theorem enAt_fits (L : List (BitVec 8)) (i : Nat) : (enAt L i).fits := ⟨fld_lt L _ 1, fld_lt L _ 4⟩
theorem enUpto_len (L : List (BitVec 8)) (n : Nat) : (enUpto L n).length = n := by simp [enUpto]
theorem enUpto_next (L : List (BitVec 8)) (n : Nat) : enUpto L (n + 1) = enUpto L n ++ [enAt L n] := by simp [enUpto, List.range_succ]
theorem enUpto_get (L : List (BitVec 8)) (n i : Nat) (h : i < (enUpto L n).length) : (enUpto L n)[i] = enAt L i := by simp [enUpto]
theorem enAt_take (L : List (BitVec 8)) (i m : Nat) (h : 16 + 5 * i ≤ m) : enAt (L.take m) i = enAt L i := by
  unfold enAt
  rw [fld_take _ _ _ _ (by omega), fld_take _ _ _ _ (by omega)]
theorem enUpto_take (L : List (BitVec 8)) (n m : Nat) (h : 11 + 5 * n ≤ m) : enUpto (L.take m) n = enUpto L n := by
  unfold enUpto
  apply List.map_congr_left
  intro i hi
  have := List.mem_range.1 hi
  exact enAt_take L i m (by omega)

theorem held_take (L : List (BitVec 8)) (m : Nat) : Crc.held ((L.take (m + 4)).drop m) 4 = Crc.held (L.drop m) 4 := by
  rw [List.drop_take, show m + 4 - m = 4 by omega]
  by_cases h : 4 ≤ (L.drop m).length
  · apply BitVec.eq_of_toNat_eq
    rw [held_num _ 4 (by omega) (by rw [List.length_take]; omega), held_num _ 4 (by omega) h, List.take_take, Nat.min_self]
  · rw [List.take_of_length_le (by omega)]
/-- The first m + 4 bytes are sealed just if the four behind m hold the sum of those. -/
theorem sealed_iff (L : List (BitVec 8)) (m : Nat) (h : m + 4 ≤ L.length) : L.take (m + 4) = sealL (L.take m) ↔ Crc.held (L.drop m) 4 = Crc.sum (L.take m) := by
  have e : L.take (m + 4) = L.take m ++ (L.drop m).take 4 := by rw [List.take_add]
  constructor
  · intro h1
    rw [e] at h1
    have h2 := List.append_cancel_left h1
    have h3 : L.drop m = Crc.low (Crc.sum (L.take m)) 4 ++ (L.drop m).drop 4 := by
      rw [← h2, List.take_append_drop]
    rw [h3, held_low]
  · intro h1
    rw [e]
    unfold sealL
    congr 1
    have hl : 4 ≤ (L.drop m).length := by simp; omega
    have h2 : num ((L.drop m).take 4) = (Crc.sum (L.take m)).toNat := by rw [← held_num _ 4 (by omega) hl, h1]
    rw [crc_low, ← h2, low_num _ 4 (by simp; omega)]

/-- All entries are such as there are. -/
def Fine (es : List En) : Prop := ∀ x ∈ es, x.ok
/-- The bytes are those of a note of n slots. -/
def good (L : List (BitVec 8)) (n : Nat) : Prop := fld L 0 1 = 78 ∧ Fine (enUpto L n) ∧ ∀ x ∈ L.drop (15 + 5 * n), x = 0#8
def note (L : List (BitVec 8)) (n : Nat) : Nt := ⟨fld L 1 8, (fld L 9 2 : Int) - 1, enUpto L n⟩
/-- So many slots fit. -/
def Room (L : List (BitVec 8)) (s : Int) : Prop := 0 ≤ s ∧ 15 + 5 * s ≤ (L.length : Int)
open Classical in
/-- The note, and what is wrong. -/
noncomputable def dec (L : List (BitVec 8)) (s : Int) : Nt × Nat :=
  if ¬ Room L s then (Nt.zero, 6) else if ¬ Crc.held (L.drop (11 + 5 * s.toNat)) 4 = Crc.sum (L.take (11 + 5 * s.toNat)) then (Nt.zero, 5) else if good L s.toNat then (note L s.toNat, 0) else (Nt.zero, 4)
theorem dec_size {L : List (BitVec 8)} {s : Int} (h : ¬ Room L s) : dec L s = (Nt.zero, 6) := by unfold dec; rw [if_pos h]
theorem dec_sum {L : List (BitVec 8)} {n : Nat} (h : Room L n) (h2 : ¬ Crc.held (L.drop (11 + 5 * n)) 4 = Crc.sum (L.take (11 + 5 * n))) : dec L n = (Nt.zero, 5) := by unfold dec; rw [Int.toNat_natCast, if_neg (fun k => k h), if_pos h2]
theorem dec_bad {L : List (BitVec 8)} {n : Nat} (h : Room L n) (h2 : Crc.held (L.drop (11 + 5 * n)) 4 = Crc.sum (L.take (11 + 5 * n))) (h3 : ¬ good L n) : dec L n = (Nt.zero, 4) := by unfold dec; rw [Int.toNat_natCast, if_neg (fun k => k h), if_neg (fun k => k h2), if_neg h3]
theorem dec_good {L : List (BitVec 8)} {n : Nat} (h : Room L n) (h2 : Crc.held (L.drop (11 + 5 * n)) 4 = Crc.sum (L.take (11 + 5 * n))) (h3 : good L n) : dec L n = (note L n, 0) := by unfold dec; rw [Int.toNat_natCast, if_neg (fun k => k h), if_neg (fun k => k h2), if_pos h3]

theorem told_take (q s : Nat) (es : List En) (M : Nat) : (told q s es M).take (11 + 5 * es.length) = body q s es := by
  unfold told pad sealL
  rw [List.append_assoc]
  exact List.take_left' (body_len q s es)
theorem told_drop (q s : Nat) (es : List En) (M : Nat) : (told q s es M).drop (11 + 5 * es.length) = Crc.low (Crc.sum (body q s es)) 4 ++ List.replicate (M - (15 + 5 * es.length)) 0#8 := by
  unfold told pad
  rw [sealL_len, body_len, show 11 + 5 * es.length + 4 = 15 + 5 * es.length by omega]
  unfold sealL
  rw [List.append_assoc]
  exact List.drop_left' (body_len q s es)
theorem told_zeros (q s : Nat) (es : List En) (M : Nat) : (told q s es M).drop (15 + 5 * es.length) = List.replicate (M - (15 + 5 * es.length)) 0#8 := by
  have h := congrArg (List.drop 4) (told_drop q s es M)
  rw [List.drop_drop, List.drop_left' (slow_len _ 4), show 11 + 5 * es.length + 4 = 15 + 5 * es.length by omega] at h
  exact h
theorem fld_front (q s : Nat) (es : List En) (i k : Nat) (h : i + k ≤ 11) : fld (body q s es) i k = fld (front q s) i k := by
  rw [← fld_take (body q s es) i k 11 h]
  unfold body
  rw [List.take_left' (front_len q s)]
theorem body_en (q s : Nat) (es : List En) (hf : ∀ x ∈ es, x.fits) (i : Nat) (h : i < es.length) : enAt (body q s es) i = es[i] := by
  have hx := hf es[i] (List.getElem_mem h)
  have e : (body q s es).drop (11 + 5 * i) = ent es[i] ++ ents (es.drop (i + 1)) := by
    unfold body
    rw [← List.drop_drop, List.drop_left' (front_len q s), ents_drop, List.drop_eq_getElem_cons h, ents_cons]
  have e2 : (body q s es).drop (12 + 5 * i) = low es[i].b 4 ++ ents (es.drop (i + 1)) := by
    rw [show 12 + 5 * i = (11 + 5 * i) + 1 by omega, ← List.drop_drop, e]
    unfold ent
    rw [List.append_assoc]
    exact List.drop_left' (low_len _ 1)
  apply En.ext2
  · show num (((body q s es).drop (11 + 5 * i)).take 1) = _
    rw [e]
    unfold ent
    rw [List.append_assoc, List.take_left' (low_len _ 1), num_low]
    exact Nat.mod_eq_of_lt hx.1
  · show num (((body q s es).drop (12 + 5 * i)).take 4) = _
    rw [e2, List.take_left' (low_len _ 4), num_low]
    exact Nat.mod_eq_of_lt hx.2
theorem body_ens (q s : Nat) (es : List En) (hf : ∀ x ∈ es, x.fits) : enUpto (body q s es) es.length = es := by
  apply List.ext_getElem (by rw [enUpto_len])
  intro i h1 h2
  rw [enUpto_get, body_en q s es hf i h2]
theorem body_note (q s : Nat) (es : List En) (hq : q < 18446744073709551616) (hs : s < 65536) (hf : ∀ x ∈ es, x.fits) : note (body q s es) es.length = ⟨q, (s : Int) - 1, es⟩ := by
  unfold note
  rw [body_ens q s es hf, fld_front q s es 1 8 (by omega), fld_front q s es 9 2 (by omega)]
  have e1 : fld (front q s) 1 8 = q := by
    show num (low q 8) = q
    rw [num_low]; exact Nat.mod_eq_of_lt hq
  have e2 : fld (front q s) 9 2 = s := by
    show num (low s 2) = s
    rw [num_low]; exact Nat.mod_eq_of_lt hs
  rw [e1, e2]
theorem note_take (L : List (BitVec 8)) (n : Nat) : note (L.take (11 + 5 * n)) n = note L n := by
  unfold note
  rw [enUpto_take L n _ (by omega), fld_take _ _ _ _ (by omega), fld_take _ _ _ _ (by omega)]
theorem told_note (q s : Nat) (es : List En) (M : Nat) (hq : q < 18446744073709551616) (hs : s < 65536) (hf : ∀ x ∈ es, x.fits) : note (told q s es M) es.length = ⟨q, (s : Int) - 1, es⟩ := by
  rw [← note_take, told_take, body_note q s es hq hs hf]
theorem told_mark (q s : Nat) (es : List En) (M : Nat) : fld (told q s es M) 0 1 = 78 := by
  rw [← fld_take _ _ _ (11 + 5 * es.length) (by omega), told_take, fld_front q s es 0 1 (by omega)]
  show num (low 78 1) = 78
  rw [num_low]
theorem dec_told (q s : Nat) (es : List En) (M : Nat) (hq : q < 18446744073709551616) (hs : s < 65536) (hf : ∀ x ∈ es, x.fits) (ho : Fine es) (hM : 15 + 5 * es.length ≤ M) : dec (told q s es M) es.length = (⟨q, (s : Int) - 1, es⟩, 0) := by
  have hn := told_note q s es M hq hs hf
  rw [dec_good ⟨by omega, by rw [told_len q s es M hM]; omega⟩ (by rw [told_drop, held_low, told_take]), hn]
  refine ⟨told_mark q s es M, ?_, ?_⟩
  · rw [show enUpto (told q s es M) es.length = es from congrArg Nt.es hn]
    exact ho
  · rw [told_zeros]
    intro y hy
    exact (List.mem_replicate.1 hy).2
theorem told_inj {q s q' s' : Nat} {es es' : List En} {M : Nat} (hq : q < 18446744073709551616) (hs : s < 65536) (hf : ∀ x ∈ es, x.fits) (hq' : q' < 18446744073709551616) (hs' : s' < 65536) (hf' : ∀ x ∈ es', x.fits) (hl : es.length = es'.length)
    (h : told q s es M = told q' s' es' M) : q = q' ∧ s = s' ∧ es = es' := by
  have h1 := told_note q s es M hq hs hf
  have h2 := told_note q' s' es' M hq' hs' hf'
  rw [h, hl, h2] at h1
  injection h1 with e1 e2 e3
  exact ⟨e1.symm, by omega, e3.symm⟩
end Go.Proofs.YtplmdmchkaacoaaGreat.L9

/-
  STRUCTS OF SEVERAL CELLS, stored into a block, loaded out of it.
-/
namespace Go.Proofs.YtplmdmchkaacoaaGreat.L9
open Go.RowKit
set_option linter.unusedVariables false
set_option maxRecDepth 100000

end Go.Proofs.YtplmdmchkaacoaaGreat.L9

/-
  WHAT IS RETURNED OUT OF A BLOCK; a label stored, loaded and compared.
-/
namespace Go.Proofs.YtplmdmchkaacoaaGreat.L9
open Go.RowKit
set_option linter.unusedVariables false
set_option maxRecDepth 100000

theorem results_cell_slot {fn : Func} {p u : Tmp} {ty : TypeId} (h : fn.results = #[.cell p ty, .tmp u]) (tmps : Array Value) (w : World) (g : Nat) (cs : Array Value) (fs : Array Field)
    (hp : tmps.getD p undef = .pointer (some ⟨g, 0, none⟩)) (hg : At w g cs ty) (hu : Tryz.prog.underlying ty = some (.struct fs)) (hi : (Tryz.prog.info? ty).map (·.size) = some cs.size) :
    (results fn tmps).run Tryz.prog w = .ok (.tuple #[.agg cs, tmps.getD u undef]) w := by
  have hp' : tmps[p]?.getD undef = .pointer (some ⟨g, 0, none⟩) := by simpa using hp
  simp [results, h, hp', asAddr, run_loadVar_row (P := Tryz.prog) w g ty ty cs (0, 0) _ hg hu rfl hi]
theorem results_slot_cell {fn : Func} {p u : Tmp} {ty : TypeId} (h : fn.results = #[.tmp u, .cell p ty]) (tmps : Array Value) (w : World) (g : Nat) (cs : Array Value) (fs : Array Field)
    (hp : tmps.getD p undef = .pointer (some ⟨g, 0, none⟩)) (hg : At w g cs ty) (hu : Tryz.prog.underlying ty = some (.struct fs)) (hi : (Tryz.prog.info? ty).map (·.size) = some cs.size) :
    (results fn tmps).run Tryz.prog w = .ok (.tuple #[tmps.getD u undef, .agg cs]) w := by
  have hp' : tmps[p]?.getD undef = .pointer (some ⟨g, 0, none⟩) := by simpa using hp
  simp [results, h, hp', asAddr, run_loadVar_row (P := Tryz.prog) w g ty ty cs (0, 0) _ hg hu rfl hi]

theorem wp_store_part {w : World} {op : Oper} {a : Act} {K : Act → World → Prop} {Q : Exit → Act → World → Prop} (ty : TypeId) (x y : Operand) (ho : op.op = .store ty x y) (g o : Nat) (t : TypeId) (c cells : Array Value)
    (hx : a.eval x = .pointer (some ⟨g, o, none⟩)) (hy : a.eval y = .agg cells) (hat : At w g c t) (hi : (Tryz.prog.info? ty).map (·.size) = some cells.size) (hfit : o + cells.size ≤ c.size) (h1 : cells.all (·.oneCell') = true)
    (h : ∀ w', At w' g (part c o cells) t → But (fun k => k = g) w w' → K (a.put op.dst undef) w') : op.wp Tryz.prog a w K Q := by
  have hst := run_storeCells_at Tryz.prog g o t cells.toList 0 c w hat (by simpa using hfit) (fun v hv => (Array.all_eq_true_iff_forall_mem.1 h1) v (by simpa using hv))
  have hrun : (storeVar ty ⟨g, o, none⟩ (.agg cells)).run Tryz.prog w = .ok () (w.setRow g (part c o cells)) := by
    cases hq : Tryz.prog.info? ty with
    | none => simp [hq] at hi
    | some i =>
      have hs : cells.size = i.size := by simp [hq] at hi; omega
      simp only [Nat.add_zero, Array.length_toList] at hst
      simp [storeVar, sizeOf, typeInfo, hq, Value.cells, hs, hst, part]
  unfold Oper.wp execOp
  simp only [ho, hx, hy, Instr.storeAt, Instr.sureAddr, Sem.run_bind, Sem.run_pure, Result.andThen_ok, hrun]
  exact h _ (setRow_heap w g _ _ t _ hat) (setRow_but w g _)

end Go.Proofs.YtplmdmchkaacoaaGreat.L9

/-
  ENTRIES IN MEMORY: rows of them, what is loaded out of a row, what is appended to one.
-/
namespace Go.Proofs.YtplmdmchkaacoaaGreat.L9
open Go.RowKit
set_option linter.unusedVariables false
set_option maxRecDepth 100000


theorem size28 : (Tryz.prog.info? 66).map (·.size) = some 3 := by kernel_rfl
theorem size45 : (Tryz.prog.info? 79).map (·.size) = some 2 := by kernel_rfl
theorem size48 : (Tryz.prog.info? 73).map (·.size) = some 2 := by kernel_rfl
theorem ent_info : (Tryz.prog.info? 73).map (fun i => (i.zero, i.size, i.bytes)) = some (some (.agg #[.int .i64 0, .int .i64 0]), 2, 16) := by kernel_rfl

def flat (L : List En) : List Value := L.flatMap En.cs
theorem flat_nil : flat [] = [] := rfl
theorem flat_cons (x : En) (L : List En) : flat (x :: L) = x.cs ++ flat L := by simp [flat]
theorem flat_append (L M : List En) : flat (L ++ M) = flat L ++ flat M := by simp [flat]
theorem cs_len (x : En) : x.cs.length = 2 := rfl
theorem flat_len : ∀ L : List En, (flat L).length = L.length * 2
  | [] => rfl
  | x :: L => by rw [flat_cons, List.length_append, flat_len L, cs_len, List.length_cons]; omega
theorem flat_get : ∀ (L : List En) (i : Nat) (h : i < L.length) (j : Nat), j < 2 → (flat L)[i * 2 + j]? = L[i].cs[j]?
  | x :: L, 0, _, j, hj => by
    rw [flat_cons, List.getElem?_append_left (by rw [cs_len]; omega)]
    simp
  | x :: L, i + 1, h, j, hj => by
    rw [flat_cons, List.getElem?_append_right (by rw [cs_len]; omega), cs_len, show (i + 1) * 2 + j - 2 = i * 2 + j by omega]
    exact flat_get L i (by simpa using h) j hj
theorem cs_one (x : En) : ∀ u ∈ x.cs, u.oneCell' = true := by
  intro u hu
  simp [En.cs] at hu
  rcases hu with rfl | rfl <;> rfl
theorem flat_one (L : List En) : ∀ u ∈ flat L, u.oneCell' = true := by
  intro u hu
  obtain ⟨x, _, hx⟩ := List.mem_flatMap.mp hu
  exact cs_one x u hx

/-- The slice (A, n) holds the entries es. -/
def Ers (w : World) (A : Option Addr) (n : Nat) (es : List En) : Prop :=
  es.length = n ∧ (0 < n → ∃ b off, A = some ⟨b, off, none⟩ ∧ b < w.heap.size ∧ ∀ k (h : k < es.length), w.cell? ⟨b, off + k * 2, none⟩ = some (.int .i64 (es[k].k : Int)) ∧ w.cell? ⟨b, off + k * 2 + 1, none⟩ = some (.int .i64 (es[k].b : Int)))
section
variable {w w' : World} {A : Option Addr} {n : Nat} {es : List En} {S : Nat → Prop}
theorem Ers.nil (w : World) (A : Option Addr) : Ers w A 0 [] := ⟨rfl, fun h => absurd h (by omega)⟩
theorem Ers.some_ (h : Ers w A n es) (hn : 0 < n) : ∃ b off, A = some ⟨b, off, none⟩ := by
  obtain ⟨b, off, e, _⟩ := h.2 hn
  exact ⟨b, off, e⟩
theorem Ers.cell {b off : Nat} (h : Ers w (some ⟨b, off, none⟩) n es) (k : Nat) (hk : k < n) : w.cell? ⟨b, off + k * 2, none⟩ = some (.int .i64 ((es[k]'(by rw [h.1]; exact hk)).k : Int)) ∧ w.cell? ⟨b, off + k * 2 + 1, none⟩ = some (.int .i64 ((es[k]'(by rw [h.1]; exact hk)).b : Int)) := by
  obtain ⟨b', off', e, hb, hc⟩ := h.2 (by omega)
  injection e with e
  injection e with e1 e2
  subst e1 e2
  exact hc k (by rw [h.1]; exact hk)
theorem Ers.but (h : Ers w A n es) (hb : But S w w') (hn : 0 < n → ∀ x, A = some x → ¬ S x.block) : Ers w' A n es :=
  ⟨h.1, fun h0 => by
    obtain ⟨b, off, e, hlt, hc⟩ := h.2 h0
    exact ⟨b, off, e, Nat.lt_of_lt_of_le hlt hb.size, fun k hk => ⟨(hb.cell (p := ⟨b, off + k * 2, none⟩) hlt (hn h0 ⟨b, off, none⟩ e)).trans (hc k hk).1, (hb.cell (p := ⟨b, off + k * 2 + 1, none⟩) hlt (hn h0 ⟨b, off, none⟩ e)).trans (hc k hk).2⟩⟩⟩
theorem Ers.below (h : Ers w A n es) (hb : Below w.heap.size w w') : Ers w' A n es := h.but (S := fun _ => False) (But.of_below hb) (fun _ _ _ h => h)
theorem Ers.alloc (h : Ers w A n es) (o : Obj) : Ers (w.alloc o) A n es := h.below ((Below.refl _ _).alloc (Nat.le_refl _) o)
theorem Ers.heap (h : Ers w A n es) (e : w'.heap = w.heap) : Ers w' A n es :=
  ⟨h.1, fun h0 => by
    obtain ⟨b, off, e1, hlt, hc⟩ := h.2 h0
    exact ⟨b, off, e1, by rw [e]; exact hlt, fun k hk => ⟨(World.cell?_of_block (by rw [e])).trans (hc k hk).1, (World.cell?_of_block (by rw [e])).trans (hc k hk).2⟩⟩⟩
theorem Ers.of_own {B : Nat} {v : Value} (h : w.ownsRow B 73 2 v n (flat es)) : ∃ A c, v = .slice A n c ∧ Ers w A n es ∧ (∀ x, A = some x → B ≤ x.block) := by
  have hl : es.length = n := by have := h.1; rw [flat_len] at this; omega
  rcases h.2 with ⟨rfl, hn0⟩ | ⟨g, cap, cur, rfl, hg, hh, hnc, hcm, hcs, htk⟩
  · subst hn0
    exact ⟨none, 0, rfl, ⟨hl, fun h => absurd h (by omega)⟩, fun x e => by cases e⟩
  · refine ⟨_, _, rfl, ⟨hl, fun _ => ⟨g, 0, rfl, (h.lt g rfl).2, fun k hk => ?_⟩⟩, fun x e => by injection e with e; subst e; exact hg⟩
    have e : ∀ j, j < 2 → w.cell? ⟨g, k * 2 + j, none⟩ = es[k].cs[j]? := by
      intro j hj
      rw [cell_of_row w g _ _ _ _ hh, ← flat_get es k hk j hj, ← htk, List.getElem?_take, if_pos (by omega)]
      simp
    rw [Nat.zero_add]
    exact ⟨e 0 (by omega), e 1 (by omega)⟩
end

/-- Where a source of entries lies. -/
def Src (w : World) (S : Addr) (m : Nat) (M : List En) : Prop := M.length = m ∧ ∀ j u, (flat M)[j]? = some u → w.cell? (S.add j) = some u
theorem Src.one {w : World} {g : Nat} (x : En) (h : At w g #[.int .i64 (x.k : Int), .int .i64 (x.b : Int)] 73) : Src w ⟨g, 0, none⟩ 1 [x] := by
  refine ⟨rfl, fun j u hu => ?_⟩
  rw [Addr.add_mid, Nat.zero_add, h.cell]
  rw [show flat [x] = x.cs by simp [flat]] at hu
  rw [← hu]
  simp [En.cs]
theorem run_append_ent {w : World} {ty : TypeId} (base : Nat) (v : Value) (n : Nat) (L : List En) (hown : w.ownsRow base 73 2 v n (flat L)) (S : Addr) (m c : Nat) (M : List En) (hk : Src w S m M) (hm : n + m ≤ 1000000) (hbase : base ≤ w.heap.size) :
    ∃ A cap w', (Builtin.append_ #[64, 64] ty #[v, .slice (some S) m c]).run Tryz.prog w = .ok (.slice A (n + m) cap) w' ∧ w'.ownsRow base 73 2 (.slice A (n + m) cap) (n + m) (flat (L ++ M)) ∧ w.grownBy w' v.ownBlock := by
  obtain ⟨i0, hi, hz0, hz1, hz2⟩ := info_parts ent_info
  obtain ⟨v', w', hr, h2, h3, h4, h5⟩ := run_append_own_at (P := Tryz.prog) w base 64 ty 73 i0 _ 2 16 Tryz.underlying64 hi hz0 hz1 hz2 rfl (by decide) v n (flat L) hown S m c (flat M) (by rw [flat_len, hk.1]) hk.2 (flat_one M) (by unfold maxLen; omega) (by omega) hbase
  obtain ⟨A, cap, rfl⟩ : ∃ A cap, v' = .slice A (n + m) cap := by
    rcases h2.2 with ⟨rfl, e⟩ | ⟨g, cap, cur, rfl, _⟩
    · exact ⟨none, 0, by rw [e]⟩
    · exact ⟨_, cap, rfl⟩
  exact ⟨A, cap, w', hr, by rw [flat_append]; exact h2, h3⟩
theorem wpList_append_ent {w : World} {ops : Array Oper} {rest : List Oper} {o : Oper} {a : Act} {Q : Exit → Act → World → Prop} (hgd : o.guard = none) (s x : Operand)
    (ho : o.op = .call { callee := .builtin .append, args := #[s, x], argTypes := #[64, 64] }) (base : Nat) (v : Value) (n : Nat) (L : List En) (hs : a.eval s = v) (hown : w.ownsRow base 73 2 v n (flat L))
    (S : Addr) (m c : Nat) (M : List En) (hx : a.eval x = .slice (some S) m c) (hk : Src w S m M) (hm : n + m ≤ 1000000) (hbase : base ≤ w.heap.size)
    (h : ∀ A cap w', w'.ownsRow base 73 2 (.slice A (n + m) cap) (n + m) (flat (L ++ M)) → w.grownBy w' v.ownBlock →
      wpList Tryz.prog ops Q rest (a.put o.dst (.slice A (n + m) cap)) w') : wpList Tryz.prog ops Q (o :: rest) a w := by
  refine wpList_plain hgd fun K hK => ?_
  obtain ⟨A, cap, w', hr, h2, h3⟩ := run_append_ent (ty := o.type) base v n L hown S m c M hk hm hbase
  unfold Oper.wp execOp
  simp only [ho, resolve, invoke, builtin, Sem.run_bind, Sem.run_pure, Result.andThen_ok, List.map_toArray, List.map_cons, List.map_nil, hs, hx, hr]
  exact hK _ _ (h A cap w' h2 h3)

/-- '!=' of entries. -/
theorem ent_neq_no (k b : Int) (w : World) : (binOp .neq 73 (.agg #[.int .i64 k, .int .i64 b]) (.agg #[.int .i64 k, .int .i64 b])).run Tryz.prog w = .ok (.bool false) w := by
  simp [go_sem, Tryz.underlying73, Tryz.underlying71]
theorem ent_neq_yes {k b k' b' : Int} (h : ¬ (k = k' ∧ b = b')) (w : World) : (binOp .neq 73 (.agg #[.int .i64 k, .int .i64 b]) (.agg #[.int .i64 k', .int .i64 b'])).run Tryz.prog w = .ok (.bool true) w := by
  simp [go_sem, Tryz.underlying73, Tryz.underlying71]
  intro h1 h2
  exact h ⟨h1, h2⟩
end Go.Proofs.YtplmdmchkaacoaaGreat.L9
