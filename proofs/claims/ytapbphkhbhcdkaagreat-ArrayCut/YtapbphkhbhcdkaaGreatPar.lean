/-
  PARITY, AS NUMBERS: the bytes of some slices at a place, XORed; how long the longest is; the slices without one.
-/
import Derived.Test.YtapbphkhbhcdkaaGreatMem
namespace Go.Proofs.YtapbphkhbhcdkaaGreat
set_option linter.unusedVariables false
set_option maxRecDepth 100000

/-- A slice of bytes: where it lies, its length, its capacity, its bytes. -/
structure Sl where
  A : Option Addr
  n : Nat
  c : Nat
  l : List (BitVec 8)
def Sl.v (x : Sl) : Value := .slice x.A x.n x.c
/-- Its byte at a place, nought beyond its end. -/
def Sl.at_ (x : Sl) (k : Nat) : BitVec 8 := x.l.getD k 0#8
theorem Sl.at_lt (x : Sl) {k : Nat} (h : k < x.l.length) : x.at_ k = x.l[k] := by simp [Sl.at_, h]
theorem Sl.at_ge (x : Sl) {k : Nat} (h : x.l.length ≤ k) : x.at_ k = 0#8 := by simp [Sl.at_, h]

def par : List Sl → Nat → BitVec 8
  | [], _ => 0#8
  | x :: r, k => x.at_ k ^^^ par r k
def mx : List Sl → Nat
  | [] => 0
  | x :: r => max x.l.length (mx r)
/-- How many have a one in bit t at place k. -/
def ones : List Sl → Nat → Nat → Nat
  | [], _, _ => 0
  | x :: r, k, t => (x.at_ k).toNat / 2 ^ t % 2 + ones r k t

theorem par_append (a b : List Sl) (k : Nat) : par (a ++ b) k = par a k ^^^ par b k := by
  induction a with
  | nil => simp [par]
  | cons x r ih => simp [par, ih, BitVec.xor_assoc]
theorem mx_append (a b : List Sl) : mx (a ++ b) = max (mx a) (mx b) := by
  induction a with
  | nil => simp [mx]
  | cons x r ih => simp only [List.cons_append, mx, ih]; omega
theorem ones_append (a b : List Sl) (k t : Nat) : ones (a ++ b) k t = ones a k t + ones b k t := by
  induction a with
  | nil => simp [ones]
  | cons x r ih => simp only [List.cons_append, ones, ih]; omega
theorem ones_le (a : List Sl) (k t : Nat) : ones a k t ≤ a.length := by
  induction a with
  | nil => simp [ones]
  | cons x r ih => simp only [ones, List.length_cons]; omega
theorem take_next (L : List Sl) {j : Nat} (h : j < L.length) : L.take (j + 1) = L.take j ++ [L[j]] := List.take_succ_eq_append_getElem h
theorem par_next (L : List Sl) {j : Nat} (h : j < L.length) (k : Nat) : par (L.take (j + 1)) k = par (L.take j) k ^^^ (L[j]).at_ k := by
  rw [take_next L h, par_append]; simp [par]
theorem mx_next (L : List Sl) {j : Nat} (h : j < L.length) : mx (L.take (j + 1)) = max (mx (L.take j)) (L[j]).l.length := by
  rw [take_next L h, mx_append]; simp [mx]
theorem ones_next (L : List Sl) {j : Nat} (h : j < L.length) (k t : Nat) : ones (L.take (j + 1)) k t = ones (L.take j) k t + ((L[j]).at_ k).toNat / 2 ^ t % 2 := by
  rw [take_next L h, ones_append]; simp [ones]
theorem mx_mem {L : List Sl} {x : Sl} (h : x ∈ L) : x.l.length ≤ mx L := by
  induction L with
  | nil => cases h
  | cons y r ih =>
    rcases List.mem_cons.1 h with rfl | h
    · simp only [mx]; omega
    · have := ih h; simp only [mx]; omega
theorem mx_le {L : List Sl} {M : Nat} (h : ∀ x ∈ L, x.l.length ≤ M) : mx L ≤ M := by
  induction L with
  | nil => simp [mx]
  | cons y r ih =>
    have h1 := h y (by simp)
    have h2 := ih (fun x hx => h x (by simp [hx]))
    simp only [mx]; omega
theorem par_ge {L : List Sl} {k : Nat} (h : mx L ≤ k) : par L k = 0#8 := by
  induction L with
  | nil => rfl
  | cons y r ih =>
    simp only [mx] at h
    simp only [par, ih (by omega), y.at_ge (show y.l.length ≤ k by omega)]
    rfl
theorem xor_bit (a b t : Nat) : (a ^^^ b) / 2 ^ t % 2 = (a / 2 ^ t % 2 + b / 2 ^ t % 2) % 2 := by
  have h : ∀ x y : Nat, (x ^^^ y) % 2 = (x % 2 + y % 2) % 2 := by
    intro x y
    have := Nat.xor_mod_two_pow (a := x) (b := y) (n := 1)
    rw [Nat.pow_one] at this
    rw [this]
    rcases Nat.mod_two_eq_zero_or_one x with e | e <;> rcases Nat.mod_two_eq_zero_or_one y with e' | e' <;> rw [e, e'] <;> rfl
  rw [← Nat.shiftRight_eq_div_pow, Nat.shiftRight_xor_distrib, h, Nat.shiftRight_eq_div_pow, Nat.shiftRight_eq_div_pow]
theorem par_bit (L : List Sl) (k t : Nat) : (par L k).toNat / 2 ^ t % 2 = ones L k t % 2 := by
  induction L with
  | nil => simp [par, ones]
  | cons x r ih =>
    simp only [par, ones, BitVec.toNat_xor, xor_bit, ih]
    omega
/-- The byte's low bits, one more. -/
theorem bit_next (x t : Nat) : x % 2 ^ (t + 1) = x % 2 ^ t + x / 2 ^ t % 2 * 2 ^ t := by
  rw [Nat.pow_succ, Nat.mod_mul]
  rw [Nat.mul_comm]

/-- The slices but the one with index i, of the first j. -/
def oth (L : List Sl) (i : Int) : Nat → List Sl
  | 0 => []
  | j + 1 => if h : j < L.length then (if (j : Int) = i then oth L i j else oth L i j ++ [L[j]]) else oth L i j
theorem oth_mem {L : List Sl} {i : Int} : ∀ {j : Nat} {x : Sl}, x ∈ oth L i j → x ∈ L
  | 0, x, h => by simp [oth] at h
  | j + 1, x, h => by
    unfold oth at h
    split at h
    · split at h
      · exact oth_mem h
      · rcases List.mem_append.1 h with h | h
        · exact oth_mem h
        · simp at h; subst h; exact List.getElem_mem _
    · exact oth_mem h
theorem oth_len (L : List Sl) (i : Int) : ∀ j, (oth L i j).length ≤ j
  | 0 => by simp [oth]
  | j + 1 => by
    have := oth_len L i j
    unfold oth
    split
    · split
      · omega
      · simp; omega
    · omega
theorem oth_same {L : List Sl} {i : Int} {j : Nat} (h : j < L.length) (e : (j : Int) = i) : oth L i (j + 1) = oth L i j := by
  simp only [oth, dif_pos h, if_pos e]
theorem oth_more {L : List Sl} {i : Int} {j : Nat} (h : j < L.length) (e : ¬ (j : Int) = i) : oth L i (j + 1) = oth L i j ++ [L[j]] := by
  simp only [oth, dif_pos h, if_neg e]
/-- Behind the one that is left out the parity lacks just its bytes. -/
theorem oth_par (L : List Sl) (i : Nat) (k : Nat) : ∀ j, j ≤ L.length → par (oth L i j) k = par (L.take j) k ^^^ (if i < j then (L.getD i ⟨none, 0, 0, []⟩).at_ k else 0#8)
  | 0, _ => by simp [oth, par]
  | j + 1, hj => by
    have ih := oth_par L i k j (by omega)
    have hlt : j < L.length := by omega
    rw [par_next L hlt]
    by_cases e : (j : Int) = (i : Int)
    · obtain rfl : j = i := by omega
      rw [oth_same hlt e, ih]
      simp [hlt, BitVec.xor_assoc]
    · rw [oth_more hlt e, par_append, ih]
      have : (i < j + 1) ↔ (i < j) := by omega
      simp only [this, par, BitVec.xor_zero]
      rw [BitVec.xor_assoc, BitVec.xor_comm _ (L[j].at_ k), ← BitVec.xor_assoc]

/-- A table of m bytes. -/
def tab (m : Nat) (f : Nat → BitVec 8) : List (BitVec 8) := (List.range m).map f
theorem tab_len (m : Nat) (f : Nat → BitVec 8) : (tab m f).length = m := by simp [tab]
theorem tab_get (m : Nat) (f : Nat → BitVec 8) (k : Nat) (h : k < (tab m f).length) : (tab m f)[k] = f k := by simp [tab]
theorem tab_congr {m : Nat} {f g : Nat → BitVec 8} (h : ∀ k, k < m → f k = g k) : tab m f = tab m g :=
  List.map_congr_left fun k hk => h k (by simpa using hk)
def tabA (m : Nat) (f : Nat → BitVec 8) : Array Value := ((tab m f).map val).toArray
theorem tabA_get (m : Nat) (f : Nat → BitVec 8) {k : Nat} (h : k < m) : (tabA m f)[k]? = some (.int .u8 ((f k).toNat : Int)) := by
  unfold tabA
  rw [List.getElem?_toArray, List.getElem?_map, List.getElem?_eq_getElem (by rw [tab_len]; exact h), tab_get]
  rfl
theorem tabA_set (m : Nat) (f : Nat → BitVec 8) (k : Nat) (y : BitVec 8) : (tabA m f).setIfInBounds k (val y) = tabA m (fun j => if j = k then y else f j) := by
  unfold tabA
  rw [List.setIfInBounds_toArray, ← List.map_set]
  congr 2
  apply List.ext_getElem
  · simp [tab_len]
  · intro j h1 h2
    rw [List.getElem_set]
    by_cases e : k = j
    · subst e; simp [tab]
    · rw [if_neg e, tab_get, tab_get, if_neg (fun h => e h.symm)]
theorem tabA_zero (m : Nat) : tabA m (fun _ => 0#8) = Array.replicate m (Value.int .u8 0) := by
  unfold tabA tab
  rw [← List.toArray_replicate]
  congr 1
  apply List.ext_getElem
  · simp
  · intro j h1 h2
    simp [val]

end Go.Proofs.YtapbphkhbhcdkaaGreat
