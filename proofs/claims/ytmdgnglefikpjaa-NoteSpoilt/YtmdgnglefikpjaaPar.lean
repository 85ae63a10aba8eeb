/-
  THE WALK OF note.parse: the numbers of bytes, and the entries.
-/
import Derived.Test.YtmdgnglefikpjaaMake
import Derived.Test.YtmdgnglefikpjaaEarly
import Derived.Deep.CutRange
import Derived.Deep.CutBlock
import Derived.Deep.DeepCutAuto
namespace Go.Proofs.Ytmdgnglefikpjaa
open Go.RowKit
set_option linter.unusedVariables false
set_option maxRecDepth 100000


theorem take_fld (g : Nat) (A : Option Addr) (c : Nat) (L : List (BitVec 8)) (i s : Nat) (w : World) (h8 : s ≤ 8) (hn : L.length ≤ 1000000) (hs : i + s ≤ L.length) (h : Rd w g A (L.drop i).length c (L.drop i) false) :
    Calls Try.prog 34 #[.pointer (some ⟨g, 0, none⟩), .int .i64 s] w (TakeDone w g A (fld L i s) (L.drop (i + s)) false) := by
  have h1 := take_good g A (L.drop i).length c (L.drop i) false s s w (by rw [List.length_drop]; omega) (by rw [List.length_drop]; omega) (by omega) h
  rw [List.take_take, Nat.min_self, List.drop_drop] at h1
  exact h1

/-- The answer's block B; the reader at g with all behind the first i bytes of L, which lie in block D. -/
structure Psr (w0 w : World) (B g D : Nat) (L : List (BitVec 8)) (i : Nat) : Prop where
  res : At w B #[.int .u64 0, .int .i64 0, .slice none 0 0] 28
  rd : ∃ A c, Rd w g A (L.drop i).length c (L.drop i) false ∧ ∀ x, A = some x → x.block = D
  ne : B < g ∧ B < D ∧ D < w.heap.size
  bel : Below B w0 w
section
variable {w0 w w' : World} {B g D P R : Nat} {L : List (BitVec 8)} {i j : Nat}
theorem Psr.glt (h : Psr w0 w B g D L i) : g < w.heap.size := by
  obtain ⟨A, c, hr, _⟩ := h.rd
  exact hr.lt
theorem Psr.take {A : Option Addr} (h : Psr w0 w B g D L i) (hA : ∀ x, A = some x → x.block = D) (hS : Step w g A (L.drop j) false w') (hB : w0.heap.size = B) : Psr w0 w' B g D L j := by
  obtain ⟨⟨A2, c2, hr, hx⟩, hb⟩ := hS
  obtain ⟨n1, n2, n3⟩ := h.ne
  refine ⟨h.res.but hb (by omega), ⟨A2, c2, hr, fun x e => ?_⟩, ⟨n1, n2, Nat.lt_of_lt_of_le n3 hb.size⟩, h.bel.trans (hb.below (fun k e => by omega) (by have := h.res.lt; omega))⟩
  obtain ⟨y, e2, e3⟩ := hx x e
  rw [e3]
  exact hA y e2
theorem Psr.but (h : Psr w0 w B g D L i) {S : Nat → Prop} (hb : But S w w') (hB : ¬ S B) (hg : ¬ S g) (hD : ¬ S D) (hlo : ∀ k, S k → B ≤ k) : Psr w0 w' B g D L i := by
  obtain ⟨A, c, hr, hA⟩ := h.rd
  obtain ⟨n1, n2, n3⟩ := h.ne
  exact ⟨h.res.but hb hB, ⟨A, c, hr.but hb hg (fun x e => by rw [hA x e]; exact hD), hA⟩, ⟨n1, n2, Nat.lt_of_lt_of_le n3 hb.size⟩, h.bel.trans (hb.below hlo (by have := h.res.lt; omega))⟩
theorem Psr.up (h : Psr w0 w B g D L i) (hb : But (fun _ => False) w w') : Psr w0 w' B g D L i := h.but hb (fun h => h) (fun h => h) (fun h => h) (fun _ h => h.elim)
theorem step_but {A : Option Addr} {l : List (BitVec 8)} {f : Bool} (h : Step w g A l f w') : But (fun k => k = g) w w' := h.2
/-- And the note's block P, whose row R holds the entries X. -/
structure Pst (w0 w : World) (B g D P R : Nat) (L : List (BitVec 8)) (i q : Nat) (z : Int) (n : Nat) (X : List En) : Prop where
  p : Psr w0 w B g D L i
  box : At w P #[.int .u64 (q : Int), .int .i64 z, .slice (some ⟨R, 0, none⟩) n n] 28
  row : At w R (flat X).toArray 48
  ne : B < P ∧ B < R ∧ P ≠ R ∧ g ≠ P ∧ g ≠ R ∧ D ≠ P ∧ D ≠ R
variable {q n : Nat} {z : Int} {X Y : List En}
theorem Pst.take {A : Option Addr} (h : Pst w0 w B g D P R L i q z n X) (hA : ∀ x, A = some x → x.block = D) (hS : Step w g A (L.drop j) false w') (hB : w0.heap.size = B) : Pst w0 w' B g D P R L j q z n X := by
  obtain ⟨n1, n2, n3, n4, n5, n6, n7⟩ := h.ne
  exact ⟨h.p.take hA hS hB, h.box.but hS.2 (by omega), h.row.but hS.2 (by omega), h.ne⟩
theorem Pst.set (h : Pst w0 w B g D P R L i q z n X) (o : Nat) (v : Value) (he : (flat X).toArray.setIfInBounds o v = (flat Y).toArray) : Pst w0 (w.setCell ⟨R, o, none⟩ v) B g D P R L i q z n Y := by
  obtain ⟨n1, n2, n3, n4, n5, n6, n7⟩ := h.ne
  obtain ⟨m1, m2, m3⟩ := h.p.ne
  have hb : But (fun k => k = R) w (w.setCell ⟨R, o, none⟩ v) := (But.refl (fun k => k = R) w).setCell (p := ⟨R, o, none⟩) (fun _ => rfl) v
  refine ⟨h.p.but hb (by omega) (by omega) (by omega) (fun k e => by omega), h.box.but hb (by omega), ?_, h.ne⟩
  rw [← he]
  exact h.row.set o v
theorem Pst.drew (h : Pst w0 w B g D P R L i q z n X) : Pst w0 w.drew B g D P R L i q z n X := ⟨h.p.up (But.refl _ _).drew, h.box, h.row, h.ne⟩
end
theorem flat_zero (n : Nat) : flat (List.replicate n ⟨0, 0⟩) = List.replicate (n * 2) (.int .i64 0) := by
  induction n with
  | zero => rfl
  | succ n ih =>
    rw [List.replicate_succ, flat_cons, ih, show (n + 1) * 2 = n * 2 + 1 + 1 by omega, List.replicate_succ, List.replicate_succ]
    rfl
theorem made_zero (n : Nat) : (madeCells (Value.agg #[.int .i64 0, .int .i64 0]).cells (n * 2)).toList = flat (List.replicate n ⟨0, 0⟩) := by
  rw [flat_zero]
  apply List.ext_getElem
  · simp [madeCells]
  · intro i h1 h2
    simp only [madeCells, Array.toList_map, List.getElem_map, List.getElem_replicate]
    have e : ∀ m, m < 2 → ((Value.agg #[.int .i64 0, .int .i64 0]).cells)[m]! = .int .i64 0 := by
      intro m hm
      match m, hm with
      | 0, _ => rfl
      | 1, _ => rfl
    exact e _ (Nat.mod_lt _ (by show 0 < 2; omega))
theorem flat_set0 : ∀ (X : List En) (k y : Nat) (h : k < X.length), (flat X).set (k * 2) (.int .i64 (y : Int)) = flat (X.set k ⟨y, X[k].b⟩)
  | x :: X, 0, y, h => by simp [flat, En.cs]
  | x :: X, k + 1, y, h => by
    rw [flat_cons, List.set_append_right _ _ (by rw [cs_len]; omega), cs_len, show (k + 1) * 2 - 2 = k * 2 by omega, flat_set0 X k y (by simpa using h), List.set_cons_succ, flat_cons]
    rfl
theorem flat_set1 : ∀ (X : List En) (k y : Nat) (h : k < X.length), (flat X).set (k * 2 + 1) (.int .i64 (y : Int)) = flat (X.set k ⟨X[k].k, y⟩)
  | x :: X, 0, y, h => by simp [flat, En.cs]
  | x :: X, k + 1, y, h => by
    rw [flat_cons, List.set_append_right _ _ (by rw [cs_len]; omega), cs_len, show (k + 1) * 2 + 1 - 2 = k * 2 + 1 by omega, flat_set1 X k y (by simpa using h), List.set_cons_succ, flat_cons]
    rfl
/-- The row when k entries are read. -/
def rowE (L : List (BitVec 8)) (n k : Nat) : List En := enUpto L k ++ List.replicate (n - k) ⟨0, 0⟩
/-- The row in the midst of a round. -/
def rowM (L : List (BitVec 8)) (n k : Nat) : List En := enUpto L k ++ ⟨fld L (11 + 5 * k) 1, 0⟩ :: List.replicate (n - (k + 1)) ⟨0, 0⟩
theorem rowE_zero (L : List (BitVec 8)) (n : Nat) : rowE L n 0 = List.replicate n ⟨0, 0⟩ := by simp [rowE, enUpto]
theorem rowE_all (L : List (BitVec 8)) (n : Nat) : rowE L n n = enUpto L n := by simp [rowE]
theorem rowE_len (L : List (BitVec 8)) (n k : Nat) (h : k ≤ n) : (rowE L n k).length = n := by simp [rowE, enUpto_len]; omega
theorem rowM_len (L : List (BitVec 8)) (n k : Nat) (h : k < n) : (rowM L n k).length = n := by simp [rowM, enUpto_len]; omega
theorem rowE_form (L : List (BitVec 8)) (n k : Nat) (h : k < n) : rowE L n k = enUpto L k ++ ⟨0, 0⟩ :: List.replicate (n - (k + 1)) ⟨0, 0⟩ := by
  unfold rowE
  rw [show n - k = (n - (k + 1)) + 1 by omega, List.replicate_succ]
theorem rowE_set (L : List (BitVec 8)) (n k : Nat) (h : k < n) : (flat (rowE L n k)).toArray.setIfInBounds (k * 2) (.int .i64 ((fld L (11 + 5 * k) 1 : Nat) : Int)) = (flat (rowM L n k)).toArray := by
  rw [List.setIfInBounds_toArray, flat_set0 _ _ _ (by rw [rowE_len L n k (by omega)]; exact h)]
  congr 2
  have e : (rowE L n k)[k]'(by rw [rowE_len L n k (by omega)]; exact h) = ⟨0, 0⟩ := by
    simp only [rowE_form L n k h]
    rw [List.getElem_append_right (by rw [enUpto_len]; omega)]
    simp [enUpto_len]
  rw [e, rowE_form L n k h, List.set_append_right _ _ (by rw [enUpto_len]; omega), enUpto_len, Nat.sub_self]
  rfl
theorem rowM_set (L : List (BitVec 8)) (n k : Nat) (h : k < n) : (flat (rowM L n k)).toArray.setIfInBounds (k * 2 + 1) (.int .i64 ((fld L (12 + 5 * k) 4 : Nat) : Int)) = (flat (rowE L n (k + 1))).toArray := by
  rw [List.setIfInBounds_toArray, flat_set1 _ _ _ (by rw [rowM_len L n k h]; exact h)]
  congr 2
  have e : (rowM L n k)[k]'(by rw [rowM_len L n k h]; exact h) = ⟨fld L (11 + 5 * k) 1, 0⟩ := by
    simp only [rowM]
    rw [List.getElem_append_right (by rw [enUpto_len]; omega)]
    simp [enUpto_len]
  rw [e]
  unfold rowM rowE
  rw [List.set_append_right _ _ (by rw [enUpto_len]; omega), enUpto_len, Nat.sub_self, enUpto_next, List.append_assoc]
  rfl
theorem row_ers {w : World} {R n : Nat} {X : List En} (h : At w R (flat X).toArray 48) (hn : X.length = n) : Ers w (some ⟨R, 0, none⟩) n X := by
  refine ⟨hn, fun _ => ⟨R, 0, rfl, h.lt, fun k hk => ?_⟩⟩
  have e : ∀ j, j < 2 → w.cell? ⟨R, k * 2 + j, none⟩ = X[k].cs[j]? := by
    intro j hj
    rw [h.cell, List.getElem?_toArray, flat_get X k hk j hj]
  rw [Nat.zero_add]
  exact ⟨e 0 (by omega), e 1 (by omega)⟩

/-- 'make([]Entry, n)' as one operation. -/
theorem wp_make_ent {w : World} {o : Oper} {a : Act} {K : Act → World → Prop} {Q : Exit → Act → World → Prop} (l c : Operand) (ho : o.op = .makeSlice 26 l c) (n : Nat) (hl : a.eval l = .int .i64 (n : Int)) (hc : a.eval c = .int .i64 (n : Int)) (hn : n ≤ 1000000)
    (h : ∀ w', At w' w.heap.size (flat (List.replicate n ⟨0, 0⟩)).toArray 48 → Below w.heap.size w w' → K (a.put o.dst (.slice (some ⟨w.heap.size, 0, none⟩) n n)) w') : Oper.wp Try.prog o a w K Q := by
  obtain ⟨i0, hi, hz0, hz1, hz2⟩ := info_parts ent_info
  obtain ⟨w', hrun, r1, r2⟩ := run_make_full (P := Try.prog) w w.heap.size 26 48 i0 _ 2 Try.underlying26 hi hz0 hz1 .i64 .i64 n (by rw [hz2]; omega) (by unfold maxLen; omega) (Nat.le_refl _)
  unfold Oper.wp
  simp [execOp, ho, hl, hc, hrun, Result.andThen]
  refine h w' ?_ ((Below.refl _ _).grown r2 (Nat.le_refl _) (by simp))
  rw [made_zero] at r1
  rcases r1.2 with ⟨e, _⟩ | ⟨g, cap, cur, e, _, hh, _, _, hs, ht⟩
  · cases e
  · injection e with e1 _ e2
    injection e1 with e1
    injection e1 with e1
    subst e1 e2
    unfold At
    rw [hh, ← ht, List.take_of_length_le (by simp [hs]), Array.toArray_toList]
end Go.Proofs.Ytmdgnglefikpjaa
