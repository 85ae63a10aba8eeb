/-
  NOTES: their bytes, and the note of bytes; plain mathematics.
-/
import Derived.Test.YtmdgnglefikpjaaNums
namespace Go.Proofs.Ytmdgnglefikpjaa
open Go.RowKit
set_option linter.unusedVariables false
set_option maxRecDepth 100000


/-- An entry: its kind, and its block. -/
structure En where
  k : Nat
  b : Nat
theorem En.ext2 {x y : En} (h1 : x.k = y.k) (h2 : x.b = y.b) : x = y := by
  cases x; cases y
  simp_all
/-- An entry's numbers fit into their bytes. -/
def En.fits (x : En) : Prop := x.k < 256 ∧ x.b < 4294967296
/-- There is such an entry. -/
def En.ok (x : En) : Prop := x.k ≤ 3 ∧ (x.k = 0 → x.b = 0)
def En.cs (x : En) : List Value := [.int .i64 (x.k : Int), .int .i64 (x.b : Int)]
/-- A note: its number, the next segment, its entries. -/
structure Nt where
  q : Nat
  z : Int
  es : List En
theorem Nt.ext3 {x y : Nt} (h1 : x.q = y.q) (h2 : x.z = y.z) (h3 : x.es = y.es) : x = y := by
  cases x; cases y
  simp_all
def Nt.zero : Nt := ⟨0, 0, []⟩

def ent (x : En) : List (BitVec 8) := low x.k 1 ++ low x.b 4
def ents (es : List En) : List (BitVec 8) := es.flatMap ent
theorem ent_len (x : En) : (ent x).length = 5 := rfl
theorem ents_nil : ents [] = [] := rfl
theorem ents_cons (x : En) (L : List En) : ents (x :: L) = ent x ++ ents L := by simp [ents]
theorem ents_append (L M : List En) : ents (L ++ M) = ents L ++ ents M := by simp [ents]
theorem ents_one (x : En) : ents [x] = low x.k 1 ++ low x.b 4 := by simp [ents, ent]
theorem ents_len : ∀ L : List En, (ents L).length = 5 * L.length
  | [] => rfl
  | x :: L => by rw [ents_cons, List.length_append, ents_len L, ent_len, List.length_cons]; omega
theorem ents_drop : ∀ (L : List En) (i : Nat), (ents L).drop (5 * i) = ents (L.drop i)
  | L, 0 => by simp
  | [], i + 1 => by simp [ents]
  | x :: L, i + 1 => by
    rw [ents_cons, show 5 * (i + 1) = 5 + 5 * i by omega, ← List.drop_drop, List.drop_left' (ent_len x), ents_drop L i]
    rfl

/-- A note's bytes ahead of its sum. -/
def front (q s : Nat) : List (BitVec 8) := low 78 1 ++ low q 8 ++ low s 2
def body (q s : Nat) (es : List En) : List (BitVec 8) := front q s ++ ents es
theorem front_len (q s : Nat) : (front q s).length = 11 := rfl
theorem body_len (q s : Nat) (es : List En) : (body q s es).length = 11 + 5 * es.length := by rw [body, List.length_append, front_len, ents_len]
/-- A note's bytes, so many at least. -/
def told (q s : Nat) (es : List En) (M : Nat) : List (BitVec 8) := pad (sealL (body q s es)) M
theorem told_len (q s : Nat) (es : List En) (M : Nat) (h : 15 + 5 * es.length ≤ M) : (told q s es M).length = M := pad_len _ _ (by rw [sealL_len, body_len]; omega)

theorem fld_lt (L : List (BitVec 8)) (i s : Nat) : fld L i s < 256 ^ s := num_take_lt _ _
theorem fld_take (L : List (BitVec 8)) (i s m : Nat) (h : i + s ≤ m) : fld (L.take m) i s = fld L i s := by
  unfold fld
  rw [List.drop_take, List.take_take, Nat.min_eq_left (by omega)]
/-- The entry number i that the bytes give, whatever they are. -/
def enAt (L : List (BitVec 8)) (i : Nat) : En := ⟨fld L (11 + 5 * i) 1, fld L (12 + 5 * i) 4⟩
def enUpto (L : List (BitVec 8)) (n : Nat) : List En := (List.range n).map (enAt L)
theorem enAt_fits (L : List (BitVec 8)) (i : Nat) : (enAt L i).fits := ⟨fld_lt L _ 1, fld_lt L _ 4⟩
theorem enUpto_len (L : List (BitVec 8)) (n : Nat) : (enUpto L n).length = n := by simp [enUpto]
theorem enUpto_next (L : List (BitVec 8)) (n : Nat) : enUpto L (n + 1) = enUpto L n ++ [enAt L n] := by simp [enUpto, List.range_succ]
theorem enUpto_get (L : List (BitVec 8)) (n i : Nat) (h : i < (enUpto L n).length) : (enUpto L n)[i] = enAt L i := by simp [enUpto]
theorem enAt_take (L : List (BitVec 8)) (i m : Nat) (h : 16 + 5 * i ≤ m) : enAt (L.take m) i = enAt L i := by
  unfold enAt
  rw [fld_take _ _ _ _ (by omega), fld_take _ _ _ _ (by omega)]
theorem enUpto_take (L : List (BitVec 8)) (n m : Nat) (h : 11 + 5 * n ≤ m) : enUpto (L.take m) n = enUpto L n := by
  unfold enUpto
  apply List.map_congr_left
  intro i hi
  have := List.mem_range.1 hi
  exact enAt_take L i m (by omega)

theorem held_take (L : List (BitVec 8)) (m : Nat) : Crc.held ((L.take (m + 4)).drop m) 4 = Crc.held (L.drop m) 4 := by
  rw [List.drop_take, show m + 4 - m = 4 by omega]
  by_cases h : 4 ≤ (L.drop m).length
  · apply BitVec.eq_of_toNat_eq
    rw [held_num _ 4 (by omega) (by rw [List.length_take]; omega), held_num _ 4 (by omega) h, List.take_take, Nat.min_self]
  · rw [List.take_of_length_le (by omega)]
/-- The first m + 4 bytes are sealed just if the four behind m hold the sum of those. -/
theorem sealed_iff (L : List (BitVec 8)) (m : Nat) (h : m + 4 ≤ L.length) : L.take (m + 4) = sealL (L.take m) ↔ Crc.held (L.drop m) 4 = Crc.sum (L.take m) := by
  have e : L.take (m + 4) = L.take m ++ (L.drop m).take 4 := by rw [List.take_add]
  constructor
  · intro h1
    rw [e] at h1
    have h2 := List.append_cancel_left h1
    have h3 : L.drop m = Crc.low (Crc.sum (L.take m)) 4 ++ (L.drop m).drop 4 := by
      rw [← h2, List.take_append_drop]
    rw [h3, held_low]
  · intro h1
    rw [e]
    unfold sealL
    congr 1
    have hl : 4 ≤ (L.drop m).length := by simp; omega
    have h2 : num ((L.drop m).take 4) = (Crc.sum (L.take m)).toNat := by rw [← held_num _ 4 (by omega) hl, h1]
    rw [crc_low, ← h2, low_num _ 4 (by simp; omega)]

/-- All entries are such as there are. -/
def Fine (es : List En) : Prop := ∀ x ∈ es, x.ok
/-- The bytes are those of a note of n slots. -/
def good (L : List (BitVec 8)) (n : Nat) : Prop := fld L 0 1 = 78 ∧ Fine (enUpto L n) ∧ ∀ x ∈ L.drop (15 + 5 * n), x = 0#8
def note (L : List (BitVec 8)) (n : Nat) : Nt := ⟨fld L 1 8, (fld L 9 2 : Int) - 1, enUpto L n⟩
/-- So many slots fit. -/
def Room (L : List (BitVec 8)) (s : Int) : Prop := 0 ≤ s ∧ 15 + 5 * s ≤ (L.length : Int)
open Classical in
/-- The note, and what is wrong. -/
noncomputable def dec (L : List (BitVec 8)) (s : Int) : Nt × Nat :=
  if ¬ Room L s then (Nt.zero, 6) else if ¬ Crc.held (L.drop (11 + 5 * s.toNat)) 4 = Crc.sum (L.take (11 + 5 * s.toNat)) then (Nt.zero, 5) else if good L s.toNat then (note L s.toNat, 0) else (Nt.zero, 4)
theorem dec_size {L : List (BitVec 8)} {s : Int} (h : ¬ Room L s) : dec L s = (Nt.zero, 6) := by unfold dec; rw [if_pos h]
theorem dec_sum {L : List (BitVec 8)} {n : Nat} (h : Room L n) (h2 : ¬ Crc.held (L.drop (11 + 5 * n)) 4 = Crc.sum (L.take (11 + 5 * n))) : dec L n = (Nt.zero, 5) := by unfold dec; rw [Int.toNat_natCast, if_neg (fun k => k h), if_pos h2]
theorem dec_bad {L : List (BitVec 8)} {n : Nat} (h : Room L n) (h2 : Crc.held (L.drop (11 + 5 * n)) 4 = Crc.sum (L.take (11 + 5 * n))) (h3 : ¬ good L n) : dec L n = (Nt.zero, 4) := by unfold dec; rw [Int.toNat_natCast, if_neg (fun k => k h), if_neg (fun k => k h2), if_neg h3]
theorem dec_good {L : List (BitVec 8)} {n : Nat} (h : Room L n) (h2 : Crc.held (L.drop (11 + 5 * n)) 4 = Crc.sum (L.take (11 + 5 * n))) (h3 : good L n) : dec L n = (note L n, 0) := by unfold dec; rw [Int.toNat_natCast, if_neg (fun k => k h), if_neg (fun k => k h2), if_pos h3]

theorem told_take (q s : Nat) (es : List En) (M : Nat) : (told q s es M).take (11 + 5 * es.length) = body q s es := by
  unfold told pad sealL
  rw [List.append_assoc]
  exact List.take_left' (body_len q s es)
theorem told_drop (q s : Nat) (es : List En) (M : Nat) : (told q s es M).drop (11 + 5 * es.length) = Crc.low (Crc.sum (body q s es)) 4 ++ List.replicate (M - (15 + 5 * es.length)) 0#8 := by
  unfold told pad
  rw [sealL_len, body_len, show 11 + 5 * es.length + 4 = 15 + 5 * es.length by omega]
  unfold sealL
  rw [List.append_assoc]
  exact List.drop_left' (body_len q s es)
theorem told_zeros (q s : Nat) (es : List En) (M : Nat) : (told q s es M).drop (15 + 5 * es.length) = List.replicate (M - (15 + 5 * es.length)) 0#8 := by
  have h := congrArg (List.drop 4) (told_drop q s es M)
  rw [List.drop_drop, List.drop_left' (slow_len _ 4), show 11 + 5 * es.length + 4 = 15 + 5 * es.length by omega] at h
  exact h
theorem fld_front (q s : Nat) (es : List En) (i k : Nat) (h : i + k ≤ 11) : fld (body q s es) i k = fld (front q s) i k := by
  rw [← fld_take (body q s es) i k 11 h]
  unfold body
  rw [List.take_left' (front_len q s)]
theorem body_en (q s : Nat) (es : List En) (hf : ∀ x ∈ es, x.fits) (i : Nat) (h : i < es.length) : enAt (body q s es) i = es[i] := by
  have hx := hf es[i] (List.getElem_mem h)
  have e : (body q s es).drop (11 + 5 * i) = ent es[i] ++ ents (es.drop (i + 1)) := by
    unfold body
    rw [← List.drop_drop, List.drop_left' (front_len q s), ents_drop, List.drop_eq_getElem_cons h, ents_cons]
  have e2 : (body q s es).drop (12 + 5 * i) = low es[i].b 4 ++ ents (es.drop (i + 1)) := by
    rw [show 12 + 5 * i = (11 + 5 * i) + 1 by omega, ← List.drop_drop, e]
    unfold ent
    rw [List.append_assoc]
    exact List.drop_left' (low_len _ 1)
  apply En.ext2
  · show num (((body q s es).drop (11 + 5 * i)).take 1) = _
    rw [e]
    unfold ent
    rw [List.append_assoc, List.take_left' (low_len _ 1), num_low]
    exact Nat.mod_eq_of_lt hx.1
  · show num (((body q s es).drop (12 + 5 * i)).take 4) = _
    rw [e2, List.take_left' (low_len _ 4), num_low]
    exact Nat.mod_eq_of_lt hx.2
theorem body_ens (q s : Nat) (es : List En) (hf : ∀ x ∈ es, x.fits) : enUpto (body q s es) es.length = es := by
  apply List.ext_getElem (by rw [enUpto_len])
  intro i h1 h2
  rw [enUpto_get, body_en q s es hf i h2]
theorem body_note (q s : Nat) (es : List En) (hq : q < 18446744073709551616) (hs : s < 65536) (hf : ∀ x ∈ es, x.fits) : note (body q s es) es.length = ⟨q, (s : Int) - 1, es⟩ := by
  unfold note
  rw [body_ens q s es hf, fld_front q s es 1 8 (by omega), fld_front q s es 9 2 (by omega)]
  have e1 : fld (front q s) 1 8 = q := by
    show num (low q 8) = q
    rw [num_low]; exact Nat.mod_eq_of_lt hq
  have e2 : fld (front q s) 9 2 = s := by
    show num (low s 2) = s
    rw [num_low]; exact Nat.mod_eq_of_lt hs
  rw [e1, e2]
theorem note_take (L : List (BitVec 8)) (n : Nat) : note (L.take (11 + 5 * n)) n = note L n := by
  unfold note
  rw [enUpto_take L n _ (by omega), fld_take _ _ _ _ (by omega), fld_take _ _ _ _ (by omega)]
theorem told_note (q s : Nat) (es : List En) (M : Nat) (hq : q < 18446744073709551616) (hs : s < 65536) (hf : ∀ x ∈ es, x.fits) : note (told q s es M) es.length = ⟨q, (s : Int) - 1, es⟩ := by
  rw [← note_take, told_take, body_note q s es hq hs hf]
theorem told_mark (q s : Nat) (es : List En) (M : Nat) : fld (told q s es M) 0 1 = 78 := by
  rw [← fld_take _ _ _ (11 + 5 * es.length) (by omega), told_take, fld_front q s es 0 1 (by omega)]
  show num (low 78 1) = 78
  rw [num_low]
theorem dec_told (q s : Nat) (es : List En) (M : Nat) (hq : q < 18446744073709551616) (hs : s < 65536) (hf : ∀ x ∈ es, x.fits) (ho : Fine es) (hM : 15 + 5 * es.length ≤ M) : dec (told q s es M) es.length = (⟨q, (s : Int) - 1, es⟩, 0) := by
  have hn := told_note q s es M hq hs hf
  rw [dec_good ⟨by omega, by rw [told_len q s es M hM]; omega⟩ (by rw [told_drop, held_low, told_take]), hn]
  refine ⟨told_mark q s es M, ?_, ?_⟩
  · rw [show enUpto (told q s es M) es.length = es from congrArg Nt.es hn]
    exact ho
  · rw [told_zeros]
    intro y hy
    exact (List.mem_replicate.1 hy).2
theorem told_inj {q s q' s' : Nat} {es es' : List En} {M : Nat} (hq : q < 18446744073709551616) (hs : s < 65536) (hf : ∀ x ∈ es, x.fits) (hq' : q' < 18446744073709551616) (hs' : s' < 65536) (hf' : ∀ x ∈ es', x.fits) (hl : es.length = es'.length)
    (h : told q s es M = told q' s' es' M) : q = q' ∧ s = s' ∧ es = es' := by
  have h1 := told_note q s es M hq hs hf
  have h2 := told_note q' s' es' M hq' hs' hf'
  rw [h, hl, h2] at h1
  injection h1 with e1 e2 e3
  exact ⟨e1.symm, by omega, e3.symm⟩
end Go.Proofs.Ytmdgnglefikpjaa
