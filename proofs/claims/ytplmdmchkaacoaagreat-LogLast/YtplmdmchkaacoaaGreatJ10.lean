/-
  TEXTS JOINED: Par, Rows2, XorA, XorB, XorD.
-/
import Derived.Test.YtplmdmchkaacoaaGreatJ01
import Derived.WalkKit
import Derived.ProofKit
import Derived.Laws.OwnMore
import Derived.Laws.Rows
import Derived.Deep.Draws
import Derived.Below
import Derived.Lib.Hide
import Derived.Lib.QuietBelow
import Derived.BigQuiet
import Derived.Lib.SliceRun
import Derived.Deep.QuietTactic
import Derived.Deep.AppendLies
import Derived.Maps.AppendAt
import Derived.Laws.AppendOwnNone
import Derived.Laws.CopyOwn
import Derived.Test.YtplmdmchkaacoaaGreatJ02
import Derived.Laws.BitsAllLaws
import Derived.OwnWalk

/-
  PARITY, AS NUMBERS: the bytes of some slices at a place, XORed; how long the longest is; the slices without one.
-/
namespace Go.Proofs.YtplmdmchkaacoaaGreat
set_option linter.unusedVariables false
set_option maxRecDepth 100000

/-- A slice of bytes: where it lies, its length, its capacity, its bytes. -/
structure Sl where
  A : Option Addr
  n : Nat
  c : Nat
  l : List (BitVec 8)
def Sl.v (x : Sl) : Value := .slice x.A x.n x.c
/-- Its byte at a place, nought beyond its end. -/
def Sl.at_ (x : Sl) (k : Nat) : BitVec 8 := x.l.getD k 0#8
theorem Sl.at_lt (x : Sl) {k : Nat} (h : k < x.l.length) : x.at_ k = x.l[k] := by simp [Sl.at_, h]
theorem Sl.at_ge (x : Sl) {k : Nat} (h : x.l.length ≤ k) : x.at_ k = 0#8 := by simp [Sl.at_, h]

def par : List Sl → Nat → BitVec 8
  | [], _ => 0#8
  | x :: r, k => x.at_ k ^^^ par r k
def mx : List Sl → Nat
  | [] => 0
  | x :: r => max x.l.length (mx r)
/-- How many have a one in bit t at place k. -/
def ones : List Sl → Nat → Nat → Nat
  | [], _, _ => 0
  | x :: r, k, t => (x.at_ k).toNat / 2 ^ t % 2 + ones r k t

theorem par_append (a b : List Sl) (k : Nat) : par (a ++ b) k = par a k ^^^ par b k := by
  induction a with
  | nil => simp [par]
  | cons x r ih => simp [par, ih, BitVec.xor_assoc]
theorem mx_append (a b : List Sl) : mx (a ++ b) = max (mx a) (mx b) := by
  induction a with
  | nil => simp [mx]
  | cons x r ih => simp only [List.cons_append, mx, ih]; omega
theorem ones_append (a b : List Sl) (k t : Nat) : ones (a ++ b) k t = ones a k t + ones b k t := by
  induction a with
  | nil => simp [ones]
  | cons x r ih => simp only [List.cons_append, ones, ih]; omega
theorem ones_le (a : List Sl) (k t : Nat) : ones a k t ≤ a.length := by
  induction a with
  | nil => simp [ones]
  | cons x r ih => simp only [ones, List.length_cons]; omega
theorem take_next (L : List Sl) {j : Nat} (h : j < L.length) : L.take (j + 1) = L.take j ++ [L[j]] := List.take_succ_eq_append_getElem h
theorem par_next (L : List Sl) {j : Nat} (h : j < L.length) (k : Nat) : par (L.take (j + 1)) k = par (L.take j) k ^^^ (L[j]).at_ k := by
  rw [take_next L h, par_append]; simp [par]
theorem mx_next (L : List Sl) {j : Nat} (h : j < L.length) : mx (L.take (j + 1)) = max (mx (L.take j)) (L[j]).l.length := by
  rw [take_next L h, mx_append]; simp [mx]
theorem ones_next (L : List Sl) {j : Nat} (h : j < L.length) (k t : Nat) : ones (L.take (j + 1)) k t = ones (L.take j) k t + ((L[j]).at_ k).toNat / 2 ^ t % 2 := by
  rw [take_next L h, ones_append]; simp [ones]
theorem mx_mem {L : List Sl} {x : Sl} (h : x ∈ L) : x.l.length ≤ mx L := by
  induction L with
  | nil => cases h
  | cons y r ih =>
    rcases List.mem_cons.1 h with rfl | h
    · simp only [mx]; omega
    · have := ih h; simp only [mx]; omega
theorem mx_le {L : List Sl} {M : Nat} (h : ∀ x ∈ L, x.l.length ≤ M) : mx L ≤ M := by
  induction L with
  | nil => simp [mx]
  | cons y r ih =>
    have h1 := h y (by simp)
    have h2 := ih (fun x hx => h x (by simp [hx]))
    simp only [mx]; omega
theorem par_ge {L : List Sl} {k : Nat} (h : mx L ≤ k) : par L k = 0#8 := by
  induction L with
  | nil => rfl
  | cons y r ih =>
    simp only [mx] at h
    simp only [par, ih (by omega), y.at_ge (show y.l.length ≤ k by omega)]
    rfl
theorem xor_bit (a b t : Nat) : (a ^^^ b) / 2 ^ t % 2 = (a / 2 ^ t % 2 + b / 2 ^ t % 2) % 2 := by
  have h : ∀ x y : Nat, (x ^^^ y) % 2 = (x % 2 + y % 2) % 2 := by
    intro x y
    have := Nat.xor_mod_two_pow (a := x) (b := y) (n := 1)
    rw [Nat.pow_one] at this
    rw [this]
    rcases Nat.mod_two_eq_zero_or_one x with e | e <;> rcases Nat.mod_two_eq_zero_or_one y with e' | e' <;> rw [e, e'] <;> rfl
  rw [← Nat.shiftRight_eq_div_pow, Nat.shiftRight_xor_distrib, h, Nat.shiftRight_eq_div_pow, Nat.shiftRight_eq_div_pow]
theorem par_bit (L : List Sl) (k t : Nat) : (par L k).toNat / 2 ^ t % 2 = ones L k t % 2 := by
  induction L with
  | nil => simp [par, ones]
  | cons x r ih =>
    simp only [par, ones, BitVec.toNat_xor, xor_bit, ih]
    omega
/-- The byte's low bits, one more. -/
theorem bit_next (x t : Nat) : x % 2 ^ (t + 1) = x % 2 ^ t + x / 2 ^ t % 2 * 2 ^ t := by
  rw [Nat.pow_succ, Nat.mod_mul]
  rw [Nat.mul_comm]

/-- The slices but the one with index i, of the first j. -/
def oth (L : List Sl) (i : Int) : Nat → List Sl
  | 0 => []
  | j + 1 => if h : j < L.length then (if (j : Int) = i then oth L i j else oth L i j ++ [L[j]]) else oth L i j
theorem oth_mem {L : List Sl} {i : Int} : ∀ {j : Nat} {x : Sl}, x ∈ oth L i j → x ∈ L
  | 0, x, h => by simp [oth] at h
  | j + 1, x, h => by
    unfold oth at h
    split at h
    · split at h
      · exact oth_mem h
      · rcases List.mem_append.1 h with h | h
        · exact oth_mem h
        · simp at h; subst h; exact List.getElem_mem _
    · exact oth_mem h
theorem oth_len (L : List Sl) (i : Int) : ∀ j, (oth L i j).length ≤ j
  | 0 => by simp [oth]
  | j + 1 => by
    have := oth_len L i j
    unfold oth
    split
    · split
      · omega
      · simp; omega
    · omega
theorem oth_same {L : List Sl} {i : Int} {j : Nat} (h : j < L.length) (e : (j : Int) = i) : oth L i (j + 1) = oth L i j := by
  simp only [oth, dif_pos h, if_pos e]
theorem oth_more {L : List Sl} {i : Int} {j : Nat} (h : j < L.length) (e : ¬ (j : Int) = i) : oth L i (j + 1) = oth L i j ++ [L[j]] := by
  simp only [oth, dif_pos h, if_neg e]
/-- Behind the one that is left out the parity lacks just its bytes. -/
theorem oth_par (L : List Sl) (i : Nat) (k : Nat) : ∀ j, j ≤ L.length → par (oth L i j) k = par (L.take j) k ^^^ (if i < j then (L.getD i ⟨none, 0, 0, []⟩).at_ k else 0#8)
  | 0, _ => by simp [oth, par]
  | j + 1, hj => by
    have ih := oth_par L i k j (by omega)
    have hlt : j < L.length := by omega
    rw [par_next L hlt]
    by_cases e : (j : Int) = (i : Int)
    · obtain rfl : j = i := by omega
      rw [oth_same hlt e, ih]
      simp [hlt, BitVec.xor_assoc]
    · rw [oth_more hlt e, par_append, ih]
      have : (i < j + 1) ↔ (i < j) := by omega
      simp only [this, par, BitVec.xor_zero]
      rw [BitVec.xor_assoc, BitVec.xor_comm _ (L[j].at_ k), ← BitVec.xor_assoc]

/-- A table of m bytes. -/
def tab (m : Nat) (f : Nat → BitVec 8) : List (BitVec 8) := (List.range m).map f
theorem tab_len (m : Nat) (f : Nat → BitVec 8) : (tab m f).length = m := by simp [tab]
theorem tab_get (m : Nat) (f : Nat → BitVec 8) (k : Nat) (h : k < (tab m f).length) : (tab m f)[k] = f k := by simp [tab]
theorem tab_congr {m : Nat} {f g : Nat → BitVec 8} (h : ∀ k, k < m → f k = g k) : tab m f = tab m g :=
  List.map_congr_left fun k hk => h k (by simpa using hk)
def tabA (m : Nat) (f : Nat → BitVec 8) : Array Value := ((tab m f).map val).toArray
theorem tabA_get (m : Nat) (f : Nat → BitVec 8) {k : Nat} (h : k < m) : (tabA m f)[k]? = some (.int .u8 ((f k).toNat : Int)) := by
  unfold tabA
  rw [List.getElem?_toArray, List.getElem?_map, List.getElem?_eq_getElem (by rw [tab_len]; exact h), tab_get]
  rfl
theorem tabA_set (m : Nat) (f : Nat → BitVec 8) (k : Nat) (y : BitVec 8) : (tabA m f).setIfInBounds k (val y) = tabA m (fun j => if j = k then y else f j) := by
  unfold tabA
  rw [List.setIfInBounds_toArray, ← List.map_set]
  congr 2
  apply List.ext_getElem
  · simp [tab_len]
  · intro j h1 h2
    rw [List.getElem_set]
    by_cases e : k = j
    · subst e; simp [tab]
    · rw [if_neg e, tab_get, tab_get, if_neg (fun h => e h.symm)]
theorem tabA_zero (m : Nat) : tabA m (fun _ => 0#8) = Array.replicate m (Value.int .u8 0) := by
  unfold tabA tab
  rw [← List.toArray_replicate]
  congr 1
  apply List.ext_getElem
  · simp
  · intro j h1 h2
    simp [val]

end Go.Proofs.YtplmdmchkaacoaaGreat

/-
  WHAT A CALL MAY TURN: only the blocks that a set names, of those that were there; a block of its own; slices of slices of bytes.
-/
namespace Go.Proofs.YtplmdmchkaacoaaGreat
open Go.RowKit Go.Sort
set_option linter.unusedVariables false
set_option maxRecDepth 100000

theorem line_info : (Tryz.prog.info? 57).map (fun i => (i.zero, i.size, i.bytes)) = some (some (.slice none 0 0), 1, 24) := by kernel_rfl

theorem line_one (L : List Sl) : ∀ u ∈ L.map Sl.v, u.oneCell' = true := by
  intro u hu
  obtain ⟨x, _, rfl⟩ := List.mem_map.mp hu
  rfl
theorem Has.of_at {w : World} {g m : Nat} {f : Nat → BitVec 8} (h : At w g (tabA m f) 5) : Has w (some ⟨g, 0, none⟩) m (tab m f) :=
  Has.of_block h (tab_len m f) (fun k hk => by
    rw [tabA_get m f (by rw [tab_len] at hk; exact hk), tab_get]
    rfl)

/-- The slice (A, n) holds these values, a cell each. -/
def Row (w : World) (A : Option Addr) (n : Nat) (vs : List Value) : Prop :=
  vs.length = n ∧ (0 < n → ∃ b off, A = some ⟨b, off, none⟩ ∧ b < w.heap.size ∧ ∀ k (h : k < vs.length), w.cell? ⟨b, off + k, none⟩ = some vs[k])
/-- The slice (A, n) of slices of bytes. -/
structure Ln (w : World) (A : Option Addr) (n : Nat) (L : List Sl) : Prop where
  row : Row w A n (L.map Sl.v)
  has : ∀ x ∈ L, Has w x.A x.n x.l
  cap : ∀ x ∈ L, x.n ≤ 140737488355328
  few : n ≤ 5864062014805

section
variable {w w' : World} {A : Option Addr} {n : Nat} {vs : List Value} {L : List Sl}
theorem Row.keep (h : Row w A n vs) (hs : w.heap.size ≤ w'.heap.size) (hk : ∀ b off, A = some ⟨b, off, none⟩ → b < w.heap.size → ∀ k, w'.cell? ⟨b, k, none⟩ = w.cell? ⟨b, k, none⟩) : Row w' A n vs :=
  ⟨h.1, fun hn => by
    obtain ⟨b, off, e, hb, hc⟩ := h.2 hn
    exact ⟨b, off, e, by omega, fun k hk' => (hk b off e hb _).trans (hc k hk')⟩⟩
theorem Row.below (h : Row w A n vs) (hb : Below w.heap.size w w') : Row w' A n vs := h.keep hb.size fun b off _ hlt k => hb.cell (p := ⟨b, k, none⟩) hlt
theorem Row.some_ (h : Row w A n vs) (hn : 0 < n) : ∃ b off, A = some ⟨b, off, none⟩ := by
  obtain ⟨b, off, e, _⟩ := h.2 hn
  exact ⟨b, off, e⟩
theorem Row.cell {b off : Nat} (h : Row w (some ⟨b, off, none⟩) n vs) (k : Nat) (hk : k < n) : w.cell? ⟨b, off + k, none⟩ = some (vs[k]'(by rw [h.1]; exact hk)) := by
  obtain ⟨b', off', e, hb, hc⟩ := h.2 (by omega)
  injection e with e
  injection e with e1 e2
  subst e1 e2
  exact hc k _
theorem Row.cells {x : Addr} (h : Row w (some x) n vs) : ∀ j u, vs[j]? = some u → w.cell? (x.add j) = some u := by
  intro j u hu
  obtain ⟨hj, rfl⟩ := List.getElem?_eq_some_iff.mp hu
  obtain ⟨b, off, e, hb, hc⟩ := h.2 (by rw [← h.1]; omega)
  injection e with e
  subst e
  have e1 : (⟨b, off, none⟩ : Addr).add j = ⟨b, off + j, none⟩ := by
    unfold Addr.add
    by_cases h : j = 0 <;> simp [h]
  rw [e1]
  exact hc j hj
theorem Row.of_own {base : Nat} {e : TypeId} {v : Value} (h : w.ownsRow base e 1 v n vs) : ∃ A c, v = .slice A n c ∧ n ≤ c ∧ c ≤ maxLen ∧ Row w A n vs ∧ (A = none → c = 0) := by
  have hl : vs.length = n := by have := h.1; simpa using this
  rcases h.2 with ⟨rfl, hn0⟩ | ⟨g, cap, cur, rfl, hg, hh, hnc, hcm, hcs, htk⟩
  · subst hn0
    exact ⟨none, 0, rfl, Nat.le_refl _, by unfold maxLen; omega, ⟨hl, fun h => absurd h (by omega)⟩, fun _ => rfl⟩
  · refine ⟨some ⟨g, 0, none⟩, cap, rfl, hnc, hcm, ⟨hl, fun h0 => ⟨g, 0, rfl, (h.lt g rfl).2, fun k hk => ?_⟩⟩, fun e => by cases e⟩
    have := h.cellAt (g := g) (cap := cap) k (by omega)
    rw [Nat.zero_add, this, List.getElem?_eq_getElem hk]
theorem Row.take (h : Row w A n vs) (m : Nat) (hm : m ≤ n) : Row w A m (vs.take m) :=
  ⟨by rw [List.length_take, h.1]; omega, fun h0 => by
    obtain ⟨b, off, e, hb, hc⟩ := h.2 (by omega)
    refine ⟨b, off, e, hb, fun k hk => ?_⟩
    rw [List.length_take] at hk
    rw [List.getElem_take]
    exact hc k (by omega)⟩
theorem Row.drop {b off : Nat} (h : Row w (some ⟨b, off, none⟩) n vs) (m : Nat) (hm : m ≤ n) : Row w (some ⟨b, off + m, none⟩) (n - m) (vs.drop m) :=
  ⟨by rw [List.length_drop, h.1], fun h0 => by
    obtain ⟨b', off', e, hb, hc⟩ := h.2 (by omega)
    injection e with e
    injection e with e1 e2
    subst e1 e2
    refine ⟨b, off + m, rfl, hb, fun k hk => ?_⟩
    rw [List.length_drop] at hk
    rw [List.getElem_drop, Nat.add_assoc]
    exact hc (m + k) (by omega)⟩
theorem Ln.len (h : Ln w A n L) : L.length = n := by have := h.row.1; simpa using this
theorem Ln.below (h : Ln w A n L) (hb : Below w.heap.size w w') : Ln w' A n L := ⟨h.row.below hb, fun x hx => (h.has x hx).below hb, h.cap, h.few⟩
theorem Ln.drewN (h : Ln w A n L) (k : Nat) : Ln (w.drewN k) A n L := ⟨h.row, h.has, h.cap, h.few⟩
/-- One of the slices: its cell, its bytes. -/
theorem Ln.one (h : Ln w A n L) {j : Nat} (hj : j < n) : ∃ (hl : j < L.length) (b off : Nat), A = some ⟨b, off, none⟩ ∧ w.cell? ⟨b, off + j, none⟩ = some (.slice L[j].A L[j].n L[j].c) ∧ Has w L[j].A L[j].n L[j].l ∧ L[j].n ≤ 140737488355328 := by
  have hl : j < L.length := by rw [h.len]; exact hj
  obtain ⟨b, off, e⟩ := h.row.some_ (by omega)
  subst e
  refine ⟨hl, b, off, rfl, ?_, h.has _ (List.getElem_mem hl), h.cap _ (List.getElem_mem hl)⟩
  rw [h.row.cell j hj, List.getElem_map]
  rfl
theorem Ln.mx_le (h : Ln w A n L) (j : Nat) : mx (L.take j) ≤ 140737488355328 :=
  Go.Proofs.YtplmdmchkaacoaaGreat.mx_le fun x hx => by
    have hm := List.mem_of_mem_take hx
    rw [(h.has x hm).1]
    exact h.cap x hm
theorem Ln.all (h : Ln w A n L) : L.take n = L := List.take_of_length_le (by rw [h.len]; exact Nat.le_refl _)
end

/-- 'append' of slices to a row of the call's own; where the new row lies. -/
theorem wpList_append_ln {w : World} {ops : Array Oper} {rest : List Oper} {o : Oper} {a : Act} {Q : Exit → Act → World → Prop} (hgd : o.guard = none) (s x : Operand)
    (ho : o.op = .call { callee := .builtin .append, args := #[s, x], argTypes := #[141, 141] }) (base : Nat) (v : Value) (n : Nat) (L : List Sl) (hs : a.eval s = v) (hown : w.ownsRow base 57 1 v n (L.map Sl.v))
    (S : Addr) (m c : Nat) (K : List Sl) (hx : a.eval x = .slice (some S) m c) (hk : Row w (some S) m (K.map Sl.v)) (hm : n + m ≤ 5864062014805) (hbase : base ≤ w.heap.size)
    (h : ∀ A cap w', w'.ownsRow base 57 1 (.slice A (n + m) cap) (n + m) ((L ++ K).map Sl.v) → w.grownBy w' v.ownBlock → (∀ g, (Value.slice A (n + m) cap).ownBlock = some g → v.ownBlock = some g ∨ w.heap.size ≤ g) →
      wpList Tryz.prog ops Q rest (a.put o.dst (.slice A (n + m) cap)) w') : wpList Tryz.prog ops Q (o :: rest) a w := by
  obtain ⟨i0, hi, hz0, hz1, hz2⟩ := info_parts line_info
  have hkl : K.length = m := by have := hk.1; simpa using this
  refine wpList_append_own_at w hgd s x 141 ho base 57 i0 (.slice none 0 0) 1 24 Tryz.underlying141 hi hz0 hz1 hz2 rfl (by decide) v _ _ hs hown S m c (K.map Sl.v) hx (by simp [hkl]) hk.cells (line_one K) (by unfold maxLen; omega) (by omega) hbase ?_
  intro v' w' hown' hg' _ hat
  obtain ⟨A, cap, rfl⟩ : ∃ A cap, v' = .slice A (n + m) cap := by
    rcases hown'.2 with ⟨rfl, e⟩ | ⟨g, cap, cur, rfl, _⟩
    · exact ⟨none, 0, by rw [e]⟩
    · exact ⟨_, cap, rfl⟩
  refine h A cap w' (by rw [List.map_append]; exact hown') hg' (fun g hg => ?_)
  rcases hat with e | e
  · exact .inl (by rw [← e]; exact hg)
  · rw [e] at hg
    injection hg with hg
    exact .inr (by omega)

end Go.Proofs.YtplmdmchkaacoaaGreat

/-
  THE WALKS OF None, light, longest, slices.Equal.
-/
namespace Go.Proofs.YtplmdmchkaacoaaGreat
open Go.RowKit Go.Sort
set_option linter.unusedVariables false
set_option maxRecDepth 100000

theorem longest_any (A : Option Addr) (n c : Nat) (L : List Sl) (w : World) (h : Ln w A n L) :
    Calls Tryz.prog 147 #[.slice A n c] w fun e w' => e = .returned (.int .i64 (mx L : Int)) ∧ w' = w := by
  have hn := h.few
  have H := Lib.hid h
  clear h
  go_enter Tryz.func147, Tryz.ntmps147
  go_wp2
  go_loopw [3, 8] (fun s i wr => ∃ (j : Nat), j ≤ n ∧ s = .int .i64 (mx (L.take j) : Int) ∧ i = .int .i64 j ∧ wr = w) (fun _ i _ => n - (RowKit.intOf i).toNat)
  case atStart => exact ⟨0, Nat.zero_le _, rfl, rfl, rfl⟩
  case round =>
    obtain ⟨j, hj, rfl, rfl, rfl⟩ := hrel
    by_cases hlt : j < n
    · obtain ⟨hjl, b, off, rfl, hc, hh, hx⟩ := H.out.one hlt
      have hmx := fun (w : World) => run_max2 (P := Tryz.prog) w #[3, 3] 3 (mx (L.take j) : Int) (L[j].n : Int) (mx (L.take (j + 1)) : Int) (by rw [mx_next L hjl, hh.1]; omega)
      clear hh
      go_wp2
      go_roundw
      case rel => exact ⟨j + 1, by omega, rfl, by go_num, trivial⟩
      case measure => simp [RowKit.intOf]; omega
    · have e : j = n := by omega
      subst e
      have := H.out.all
      simp only [this]
      go_wp2
      go_ret
      exact ⟨rfl, rfl⟩

end Go.Proofs.YtplmdmchkaacoaaGreat

/-
  THE WALK OF Of.
-/
namespace Go.Proofs.YtplmdmchkaacoaaGreat
open Go.RowKit Go.Sort
set_option linter.unusedVariables false
set_option maxRecDepth 100000

theorem made_tab {w w1 : World} {M : Nat} (h : w1.ownsRow w.heap.size 5 1 (.slice (some ⟨w.heap.size, 0, none⟩) M M) M (madeCells (Value.int .u8 0).cells (M * 1)).toList) :
    At w1 w.heap.size (tabA M fun _ => 0#8) 5 := by
  rcases h.2 with ⟨e, _⟩ | ⟨g, cap, cur, e, _, hh, _, _, hs, ht⟩
  · cases e
  · injection e with e1 _ e2
    injection e1 with e1
    injection e1 with e1
    subst e1 e2
    unfold At
    rw [hh, tabA_zero]
    congr 2
    apply Array.ext'
    rw [List.take_of_length_le (by simp [hs])] at ht
    rw [ht, show (Value.int .u8 0).cells = #[.int .u8 0] from rfl, toList_madeCells_one]
    simp

/-- The row made of noughts holds the slices' parity. -/
def OfDone (w : World) (L : List Sl) (e : Ending) (w' : World) : Prop :=
  e = .returned (.slice (some ⟨w.heap.size, 0, none⟩) (mx L) (mx L)) ∧ At w' w.heap.size (tabA (mx L) (par L)) 5 ∧ Below w.heap.size w w'

theorem xor8 (a b : BitVec 8) : bits .xor .u8 (a.toNat : Int) (b.toNat : Int) = ((a ^^^ b).toNat : Int) := by
  rw [u8_xor_nat _ _ a.isLt b.isLt, BitVec.toNat_xor]
theorem of_step {w : World} {g m k : Nat} {f : Nat → BitVec 8} {x : Sl} (h : At w g (tabA m (fun q => if q < k then f q ^^^ x.at_ q else f q)) 5) (hk : k < x.l.length) :
    At (w.setCell ⟨g, k, none⟩ (.int .u8 (bits .xor .u8 ((f k).toNat : Int) ((x.l[k]).toNat : Int)))) g (tabA m (fun q => if q < k + 1 then f q ^^^ x.at_ q else f q)) 5 := by
  have := h.set k (val (f k ^^^ x.l[k]))
  rw [tabA_set] at this
  rw [xor8]
  unfold tabA at *
  rw [tab_congr (g := fun j => if j = k then f k ^^^ x.l[k] else (fun q => if q < k then f q ^^^ x.at_ q else f q) j)]
  · exact this
  · intro q _
    by_cases e : q = k
    · subst e
      simp [x.at_lt hk]
    · have : (q < k + 1) ↔ (q < k) := by omega
      simp only [this, if_neg e]
theorem of_last {m k : Nat} {f g : Nat → BitVec 8} {x : Sl} (hk : x.l.length = k) (hf : ∀ q, g q = f q ^^^ x.at_ q) :
    tabA m (fun q => if q < k then f q ^^^ x.at_ q else f q) = tabA m g := by
  unfold tabA
  rw [tab_congr]
  intro q _
  rw [hf]
  by_cases e : q < k
  · rw [if_pos e]
  · rw [if_neg e, x.at_ge (by omega), BitVec.xor_zero]

theorem of_any (A : Option Addr) (n c : Nat) (L : List Sl) (w : World) (h : Ln w A n L) :
    Calls Tryz.prog 125 #[.slice A n c] w (OfDone w L) := by
  obtain ⟨i0, hi, hz0, hz1, hz2⟩ := info_parts byte_info
  have hn := h.few
  have hM := Lib.hid (show mx L ≤ 140737488355328 by have := h.mx_le n; rw [h.all] at this; exact this)
  have H := Lib.hid h
  clear h
  go_enter Tryz.func125, Tryz.ntmps125
  go_wp2_with fail
  refine (longest_any A n c L w H.out).mono ?_
  rintro e w0 ⟨rfl, rfl⟩
  go_wp2_with (first
    | (at_make; refine wpList_make_full _ rfl (.tmp 9) (.tmp 9) 57 rfl w0.heap.size 5 i0 (.int .u8 0) 1 Tryz.underlying57 hi hz0 hz1 .i64 .i64 (mx L) (mx L) (mx L) rfl rfl rfl rfl (by rw [hz2]; have := hM.out; omega) (by have := hM.out; unfold maxLen; omega) (Nat.le_refl _) ?_; intro w1 hown1 hg1; have RW := Lib.hid (made_tab hown1); have B1 := Lib.hid (show Below w0.heap.size w0 w1 from (Below.refl _ _).grown hg1 (Nat.le_refl _) (by simp)); clear hown1 hg1))
  generalize hG : w0.heap.size = g at *
  go_loopw [13] (fun i wr => ∃ j : Nat, j ≤ n ∧ i = .int .i64 j ∧ At wr g (tabA (mx L) (par (L.take j))) 5 ∧ Below g w0 wr) (fun i _ => n - (RowKit.intOf i).toNat)
  case atStart => exact ⟨0, Nat.zero_le _, rfl, RW.out, B1.out⟩
  case round =>
    obtain ⟨j, hj, rfl, hA, hB⟩ := hrel
    have AT := Lib.hid hA
    have B2 := Lib.hid hB
    clear hA hB RW B1
    by_cases hlt : j < n
    · obtain ⟨hjl, b, off, rfl, hc, hh, hx⟩ := (H.out.below (by rw [hG]; exact B2.out)).one hlt
      have HM := Lib.hid (show L[j].n ≤ mx L by rw [← hh.1]; exact mx_mem (List.getElem_mem hjl))
      have HX := Lib.hid (show Has w0 L[j].A L[j].n L[j].l from H.out.has _ (List.getElem_mem hjl))
      have HP := Lib.hid (par_next L hjl)
      clear hh
      generalize L[j] = x at *
      obtain ⟨xA, xn, xc, xl⟩ := x
      simp only at *
      go_wp2_with fail
      go_loopw [19] (fun i wx => ∃ k : Nat, k ≤ xn ∧ i = .int .i64 k ∧ At wx g (tabA (mx L) (fun q => if q < k then par (L.take j) q ^^^ Sl.at_ ⟨xA, xn, xc, xl⟩ q else par (L.take j) q)) 5 ∧ Below g w0 wx) (fun i _ => xn - (RowKit.intOf i).toNat)
      case atStart => exact ⟨0, Nat.zero_le _, rfl, by simpa using AT.out, B2.out⟩
      case round =>
        obtain ⟨k, hk, rfl, hA, hB⟩ := hrel
        have AT := Lib.hid hA
        have B2 := Lib.hid hB
        clear hA hB hc
        by_cases hlt2 : k < xn
        · obtain ⟨b2, off2, rfl⟩ := HX.out.some_ (by omega)
          have hkl : k < xl.length := by rw [HX.out.1]; omega
          have hkm : k < mx L := by have := HM.out; omega
          have hc := (HX.out.below (by rw [hG]; exact B2.out)).cell k hlt2
          have hc2 : wr.cell? ⟨g, k, none⟩ = some (.int .u8 ((par (L.take j) k).toNat : Int)) := by rw [AT.out.cell k, tabA_get _ _ hkm]; simp
          have hf := AT.out.frozen k
          have NX := Lib.hid (of_step (x := ⟨some ⟨b2, off2, none⟩, xn, xc, xl⟩) AT.out hkl)
          go_wp2
          go_roundw
          case rel => exact ⟨k + 1, by omega, by go_num, NX.out, B2.out.setCell (p := ⟨g, k, none⟩) (Nat.le_refl _) _⟩
          case measure => simp [RowKit.intOf]; omega
        · obtain rfl : k = xn := by omega
          have NX : Hid (At wr g (tabA (mx L) (par (L.take (j + 1)))) 5) := by
            have := AT.out
            rw [of_last (x := ⟨xA, k, xc, xl⟩) HX.out.1 HP.out] at this
            exact this
          go_wp2
          go_roundw
          case rel => exact ⟨j + 1, by omega, by go_num, NX.out, B2.out⟩
          case measure => simp [RowKit.intOf]; omega
    · obtain rfl : j = n := by omega
      have AT : Hid (At wr g (tabA (mx L) (par L)) 5) := by
        have := AT.out
        rw [H.out.all] at this
        exact this
      go_wp2
      go_ret
      subst hG
      exact ⟨rfl, AT.out, B2.out⟩

end Go.Proofs.YtplmdmchkaacoaaGreat

/-
  THE WALKS OF slices.Equal, slices.Clone (of slices), But.
-/
namespace Go.Proofs.YtplmdmchkaacoaaGreat
open Go.RowKit Go.Sort
set_option linter.unusedVariables false
set_option maxRecDepth 100000

theorem upx {B : Nat} {a w : World} (h : Below B a w) (e : B = a.heap.size) : B ≤ w.heap.size := by have := h.size; omega
/-- A row of one slice, just built. -/
theorem one_row {w : World} {g : Nat} (x : Sl) (h : At w g #[x.v] 57) : Row w (some ⟨g, 0, none⟩) 1 ([x].map Sl.v) :=
  ⟨rfl, fun _ => ⟨g, 0, rfl, h.lt, fun k hk => by
    have : k = 0 := by simp at hk; omega
    subst this
    rw [h.cell]
    rfl⟩⟩
theorem Ln.of_own {w : World} {base n : Nat} {v : Value} {L : List Sl} (h : w.ownsRow base 57 1 v n (L.map Sl.v)) (hh : ∀ x ∈ L, Has w x.A x.n x.l) (hc : ∀ x ∈ L, x.n ≤ 140737488355328) (hn : n ≤ 5864062014805) :
    ∃ A c, v = .slice A n c ∧ Ln w A n L := by
  obtain ⟨A, c, e, _, _, hr, _⟩ := Row.of_own h
  exact ⟨A, c, e, hr, hh, hc, hn⟩

theorem own_more {w wr w2 : World} {B n : Nat} {o : Obj} {v : Value} {xs : List Value} (hB : w.heap.size = B) (b : Below B w wr) (hown : wr.ownsRow B 57 1 v n xs) (hg : (wr.alloc o).grownBy w2 v.ownBlock) : Below B w w2 :=
  (b.alloc (upx b hB.symm) o).grown hg (by have := upx b hB.symm; simp; omega) (fun k hk => (hown.lt k hk).1)

/-- A row of the call's own holds the parity. -/
def ButDone (w : World) (L : List Sl) (e : Ending) (w' : World) : Prop :=
  ∃ g, e = .returned (.slice (some ⟨g, 0, none⟩) (mx L) (mx L)) ∧ At w' g (tabA (mx L) (par L)) 5 ∧ w.heap.size ≤ g ∧ Below w.heap.size w w'

theorem but_any (A : Option Addr) (n c : Nat) (L : List Sl) (i : Int) (w : World) (h : Ln w A n L) :
    Calls Tryz.prog 116 #[.slice A n c, .int .i64 i] w (ButDone w (oth L i n)) := by
  obtain ⟨i0, hi, hz0, hz1, hz2⟩ := info_parts line_info
  have hn := h.few
  have H := Lib.hid h
  clear h
  generalize hB : w.heap.size = B
  go_enter Tryz.func116, Tryz.ntmps116
  go_wp2_with (first
    | (at_make; refine wpList_make_own _ rfl _ (.tmp 9) 141 rfl B 57 i0 (.slice none 0 0) 1 Tryz.underlying141 hi hz0 hz1 .i64 .i64 n n rfl rfl rfl (by rw [hz2]; omega) (by unfold maxLen; omega) (by rw [hB]; exact Nat.le_refl _) ?_; intro w1 hown1 hg1; have OW1 := Lib.hid hown1; have B1 := Lib.hid (show Below B w w1 from (Below.refl _ _).grown hg1 (by rw [hB]; exact Nat.le_refl _) (by simp)); clear hown1 hg1))
  go_loopw [5, 13] (fun v q wr => ∃ j : Nat, j ≤ n ∧ q = .int .i64 j ∧ wr.ownsRow B 57 1 v (oth L i j).length ((oth L i j).map Sl.v) ∧ Below B w wr) (fun _ q _ => n - (RowKit.intOf q).toNat)
  case atStart => exact ⟨0, Nat.zero_le _, rfl, by have := OW1.out; rw [hB] at this; exact this, B1.out⟩
  case round =>
    obtain ⟨j, hj, rfl, hO, hW⟩ := hrel
    have OW := Lib.hid hO
    have B2 := Lib.hid hW
    clear hO hW B1 OW1
    by_cases hlt : j < n
    · obtain ⟨hjl, b, off, rfl, hc, hh, hx⟩ := (H.out.below (by rw [hB]; exact B2.out)).one hlt
      clear hh
      by_cases hd : (j : Int) = i
      · subst hd
        have NX : Hid (wr.ownsRow B 57 1 u5 (oth L (j : Int) (j + 1)).length ((oth L (j : Int) (j + 1)).map Sl.v)) := by
          have := OW.out
          rw [← oth_same hjl rfl] at this
          exact this
        clear OW
        go_wp2
        go_roundw
        case rel => exact ⟨j + 1, by omega, by go_num, NX.out, B2.out⟩
        case measure => simp [RowKit.intOf]; omega
      · have NX := Lib.hid (oth_more hjl hd)
        have LE := Lib.hid (oth_len L i j)
        go_wp2_with (at_builtin; refine wpList_append_ln rfl (.tmp 21) (.tmp 23) rfl B u5 (oth L i j).length (oth L i j) rfl (OW.out.alloc _) ⟨wr.heap.size, 0, none⟩ 1 1 [L[j]] rfl (one_row L[j] (At.new #[L[j].v] 57 rfl)) (by have := LE.out; omega) (by have := upx B2.out hB.symm; simp; omega) ?_; intro A2 cap2 w2 hown2 hg2 hf2; have B3 := Lib.hid (own_more hB B2.out OW.out hg2); have OW := Lib.hid hown2; clear hown2 hg2 hf2)
        go_roundw
        case rel => exact ⟨j + 1, by omega, by go_num, by rw [NX.out, List.length_append]; exact OW.out, B3.out⟩
        case measure => simp [RowKit.intOf]; omega
    · obtain rfl : j = n := by omega
      have LE := Lib.hid (oth_len L i j)
      obtain ⟨A3, c3, rfl, hL3⟩ := Ln.of_own OW.out (fun x hx => (H.out.has x (oth_mem hx)).below (by rw [hB]; exact B2.out)) (fun x hx => H.out.cap x (oth_mem hx)) (by have := LE.out; omega)
      have LN := Lib.hid hL3
      clear hL3 OW
      go_wp2_with fail
      refine (of_any A3 _ c3 (oth L i j) wr LN.out).mono ?_
      rintro e w2 ⟨rfl, hA, hb⟩
      have AT := Lib.hid hA
      have B3 := Lib.hid (B2.out.trans (hb.mono (upx B2.out hB.symm)))
      have U := Lib.hid (upx B2.out hB.symm)
      clear hA hb
      go_wp2
      go_ret
      subst hB
      exact ⟨_, rfl, AT.out, U.out, B3.out⟩

end Go.Proofs.YtplmdmchkaacoaaGreat
