/-
  WHAT page.parse KEEPS: the reader, the rows that it fills; rows just made.
-/
import Derived.Test.YtlmponcoghfghaaFits
import Derived.Test.YtlmponcoghfghaaOpens
namespace Go.Proofs.Ytlmponcoghfghaa
open Go.RowKit
set_option linter.unusedVariables false
set_option maxRecDepth 100000


theorem made_seg (n : Nat) : (madeCells (Value.agg #[.int .i64 0, .int .u64 0]).cells (n * 2)).toList = flat (List.replicate n ⟨0, 0⟩) := by
  apply List.ext_getElem?
  intro j
  by_cases hj : j < n * 2
  · have e1 : (madeCells (Value.agg #[.int .i64 0, .int .u64 0]).cells (n * 2)).toList[j]? = some ((#[Value.int .i64 0, Value.int .u64 0])[j % 2]!) := by
      simp only [madeCells, Array.toList_map, Array.toList_range, List.getElem?_map, List.getElem?_range hj]
      rfl
    have e2 := flat_get (List.replicate n ⟨0, 0⟩) (j / 2) (by simp; omega) (j % 2) (by omega)
    rw [show j / 2 * 2 + j % 2 = j by omega] at e2
    rw [e1, e2, List.getElem_replicate]
    rcases (show j % 2 = 0 ∨ j % 2 = 1 by omega) with h | h <;> rw [h] <;> rfl
  · rw [List.getElem?_eq_none (by simp [size_madeCells]; omega), List.getElem?_eq_none (by rw [flat_len]; simp; omega)]
theorem made_int (n : Nat) : (madeCells (Value.int .i64 0).cells (n * 1)).toList = ints (List.replicate n 1) := by
  rw [show (Value.int .i64 0).cells = #[.int .i64 0] from rfl, toList_madeCells_one]
  simp [ints]
theorem row_at {w w1 : World} {e : TypeId} {size M : Nat} {xs : List Value} (h : w1.ownsRow w.heap.size e size (.slice (some ⟨w.heap.size, 0, none⟩) M M) M xs) : At w1 w.heap.size xs.toArray e := by
  rcases h.2 with ⟨e, _⟩ | ⟨g, cap, cur, e, _, hh, _, _, hs, ht⟩
  · cases e
  · injection e with e1 _ e2
    injection e1 with e1
    injection e1 with e1
    subst e1 e2
    unfold At
    rw [hh, ← ht, List.take_of_length_le (by simp [hs]), Array.toArray_toList]
theorem wp_make_seg {w : World} {o : Oper} {a : Act} {K : Act → World → Prop} {Q : Exit → Act → World → Prop} (l c : Operand) (ho : o.op = .makeSlice 34 l c) (n : Nat) (hl : a.eval l = .int .i64 (n : Int)) (hc : a.eval c = .int .i64 (n : Int)) (hn : n ≤ 1000000)
    (h : ∀ w', At w' w.heap.size (flat (List.replicate n ⟨0, 0⟩)).toArray 58 → Below w.heap.size w w' → K (a.put o.dst (.slice (some ⟨w.heap.size, 0, none⟩) n n)) w') : Oper.wp Try.prog o a w K Q := by
  obtain ⟨i0, hi, hz0, hz1, hz2⟩ := info_parts seg_info
  obtain ⟨w', hrun, r1, r2⟩ := run_make_full (P := Try.prog) w w.heap.size 34 58 i0 _ 2 Try.underlying34 hi hz0 hz1 .i64 .i64 n (by rw [hz2]; omega) (by unfold maxLen; omega) (Nat.le_refl _)
  unfold Oper.wp
  simp [execOp, ho, hl, hc, hrun, Result.andThen]
  refine h w' ?_ ((Below.refl _ _).grown r2 (Nat.le_refl _) (by simp))
  rw [made_seg] at r1
  exact row_at r1
theorem wp_make_int {w : World} {o : Oper} {a : Act} {K : Act → World → Prop} {Q : Exit → Act → World → Prop} (l c : Operand) (ho : o.op = .makeSlice 35 l c) (n : Nat) (hl : a.eval l = .int .i64 (n : Int)) (hc : a.eval c = .int .i64 (n : Int)) (hn : n ≤ 1000000)
    (h : ∀ w', At w' w.heap.size (ints (List.replicate n 1)).toArray 3 → Below w.heap.size w w' → K (a.put o.dst (.slice (some ⟨w.heap.size, 0, none⟩) n n)) w') : Oper.wp Try.prog o a w K Q := by
  obtain ⟨i0, hi, hz0, hz1, hz2⟩ := info_parts int_info
  obtain ⟨w', hrun, r1, r2⟩ := run_make_full (P := Try.prog) w w.heap.size 35 3 i0 _ 1 Try.underlying35 hi hz0 hz1 .i64 .i64 n (by rw [hz2]; omega) (by unfold maxLen; omega) (Nat.le_refl _)
  unfold Oper.wp
  simp [execOp, ho, hl, hc, hrun, Result.andThen]
  refine h w' ?_ ((Below.refl _ _).grown r2 (Nat.le_refl _) (by simp))
  rw [made_int] at r1
  exact row_at r1

theorem flat_set0 : ∀ (X : List Sg) (k y : Nat) (h : k < X.length), (flat X).set (k * 2) (.int .i64 (y : Int)) = flat (X.set k ⟨y, X[k].bo⟩)
  | x :: X, 0, y, h => by simp [flat, Sg.cs]
  | x :: X, k + 1, y, h => by
    rw [flat_cons, List.set_append_right _ _ (by rw [cs_len]; omega), cs_len, show (k + 1) * 2 - 2 = k * 2 by omega, flat_set0 X k y (by simpa using h), List.set_cons_succ, flat_cons]
    rfl
theorem flat_set1 : ∀ (X : List Sg) (k y : Nat) (h : k < X.length), (flat X).set (k * 2 + 1) (.int .u64 (y : Int)) = flat (X.set k ⟨X[k].st, y⟩)
  | x :: X, 0, y, h => by simp [flat, Sg.cs]
  | x :: X, k + 1, y, h => by
    rw [flat_cons, List.set_append_right _ _ (by rw [cs_len]; omega), cs_len, show (k + 1) * 2 + 1 - 2 = k * 2 + 1 by omega, flat_set1 X k y (by simpa using h), List.set_cons_succ, flat_cons]
    rfl
/-- The row when k segments are read; in the midst of a round. -/
def rowG (D : List (BitVec 8)) (n k : Nat) : List Sg := sgUpto D k ++ List.replicate (n - k) ⟨0, 0⟩
def rowH (D : List (BitVec 8)) (n k : Nat) : List Sg := sgUpto D k ++ ⟨fld D (12 + 9 * k) 1, 0⟩ :: List.replicate (n - (k + 1)) ⟨0, 0⟩
theorem rowG_zero (D : List (BitVec 8)) (n : Nat) : rowG D n 0 = List.replicate n ⟨0, 0⟩ := by simp [rowG, sgUpto]
theorem rowG_all (D : List (BitVec 8)) (n : Nat) : rowG D n n = sgUpto D n := by simp [rowG]
theorem rowG_len (D : List (BitVec 8)) (n k : Nat) (h : k ≤ n) : (rowG D n k).length = n := by simp [rowG, sgUpto_len]; omega
theorem rowH_len (D : List (BitVec 8)) (n k : Nat) (h : k < n) : (rowH D n k).length = n := by simp [rowH, sgUpto_len]; omega
theorem rowG_form (D : List (BitVec 8)) (n k : Nat) (h : k < n) : rowG D n k = sgUpto D k ++ ⟨0, 0⟩ :: List.replicate (n - (k + 1)) ⟨0, 0⟩ := by
  unfold rowG
  rw [show n - k = (n - (k + 1)) + 1 by omega, List.replicate_succ]
theorem rowG_set (D : List (BitVec 8)) (n k : Nat) (h : k < n) : (flat (rowG D n k)).toArray.setIfInBounds (k * 2) (.int .i64 ((fld D (12 + 9 * k) 1 : Nat) : Int)) = (flat (rowH D n k)).toArray := by
  rw [List.setIfInBounds_toArray, flat_set0 _ _ _ (by rw [rowG_len D n k (by omega)]; exact h)]
  congr 2
  have e : (rowG D n k)[k]'(by rw [rowG_len D n k (by omega)]; exact h) = ⟨0, 0⟩ := by
    simp only [rowG_form D n k h]
    rw [List.getElem_append_right (by rw [sgUpto_len]; omega)]
    simp [sgUpto_len]
  rw [e, rowG_form D n k h, List.set_append_right _ _ (by rw [sgUpto_len]; omega), sgUpto_len, Nat.sub_self]
  rfl
theorem rowH_set (D : List (BitVec 8)) (n k : Nat) (h : k < n) : (flat (rowH D n k)).toArray.setIfInBounds (k * 2 + 1) (.int .u64 ((fld D (12 + 9 * k + 1) 8 : Nat) : Int)) = (flat (rowG D n (k + 1))).toArray := by
  rw [List.setIfInBounds_toArray, flat_set1 _ _ _ (by rw [rowH_len D n k h]; exact h)]
  congr 2
  have e : (rowH D n k)[k]'(by rw [rowH_len D n k h]; exact h) = ⟨fld D (12 + 9 * k) 1, 0⟩ := by
    simp only [rowH]
    rw [List.getElem_append_right (by rw [sgUpto_len]; omega)]
    simp [sgUpto_len]
  rw [e]
  unfold rowH rowG
  rw [List.set_append_right _ _ (by rw [sgUpto_len]; omega), sgUpto_len, Nat.sub_self, sgUpto_next, List.append_assoc]
  rfl
/-- The row when k places are read. -/
def rowP (D : List (BitVec 8)) (o n k : Nat) : List Nat := mpUpto D o k ++ List.replicate (n - k) 1
theorem rowP_zero (D : List (BitVec 8)) (o n : Nat) : rowP D o n 0 = List.replicate n 1 := by simp [rowP, mpUpto]
theorem rowP_all (D : List (BitVec 8)) (o n : Nat) : rowP D o n n = mpUpto D o n := by simp [rowP]
theorem rowP_len (D : List (BitVec 8)) (o n k : Nat) (h : k ≤ n) : (rowP D o n k).length = n := by simp [rowP, mpUpto_len]; omega
theorem rowP_set (D : List (BitVec 8)) (o n k : Nat) (h : k < n) : (ints (rowP D o n k)).toArray.setIfInBounds k (.int .i64 (((fld D (o + 4 * k) 4 : Nat) : Int) - 1)) = (ints (rowP D o n (k + 1))).toArray := by
  rw [List.setIfInBounds_toArray]
  congr 1
  unfold rowP
  rw [show n - k = (n - (k + 1)) + 1 by omega, List.replicate_succ, mpUpto_next, List.append_assoc, ints_append, List.set_append_right _ _ (by rw [ints_len, mpUpto_len]; omega), ints_len, mpUpto_len, Nat.sub_self, ints_append]
  rfl
theorem row_sgs {w : World} {R n : Nat} {X : List Sg} (h : At w R (flat X).toArray 58) (hn : X.length = n) : Sgs w (some ⟨R, 0, none⟩) n X := by
  refine ⟨hn, fun _ => ⟨R, 0, rfl, h.lt, fun k hk => ?_⟩⟩
  have e : ∀ j, j < 2 → w.cell? ⟨R, k * 2 + j, none⟩ = X[k].cs[j]? := by
    intro j hj
    rw [h.cell, List.getElem?_toArray, flat_get X k hk j hj]
  rw [Nat.zero_add]
  exact ⟨e 0 (by omega), e 1 (by omega)⟩

/-- The shape's box and the answer's behind it; the reader at R with all behind the first i bytes of D, which lie in block b1. -/
structure Psr (w0 w : World) (sc : Array Value) (R b1 : Nat) (D : List (BitVec 8)) (i : Nat) : Prop where
  shp : At w w0.heap.size sc 32
  res : At w (w0.heap.size + 1) zcs 37
  rd : ∃ A c, Rd w R A (D.drop i).length c (D.drop i) false ∧ ∀ x, A = some x → x.block = b1
  ne : w0.heap.size + 1 < R ∧ w0.heap.size + 1 < b1 ∧ b1 < w.heap.size
  bel : Below w0.heap.size w0 w
section
variable {w0 w w' : World} {sc : Array Value} {R b1 : Nat} {D : List (BitVec 8)} {i j : Nat}
theorem Psr.rlt (h : Psr w0 w sc R b1 D i) : R < w.heap.size := by
  obtain ⟨A, c, hr, _⟩ := h.rd
  exact hr.lt
theorem Psr.take {A : Option Addr} (h : Psr w0 w sc R b1 D i) (hA : ∀ x, A = some x → x.block = b1) (hS : Step w R A (D.drop j) false w') : Psr w0 w' sc R b1 D j := by
  obtain ⟨⟨A2, c2, hr, hx⟩, hb⟩ := hS
  obtain ⟨n1, n2, n3⟩ := h.ne
  refine ⟨h.shp.but hb (by omega), h.res.but hb (by omega), ⟨A2, c2, hr, fun x e => ?_⟩, ⟨n1, n2, Nat.lt_of_lt_of_le n3 hb.size⟩, h.bel.trans (hb.below (fun k e => by omega) h.bel.size)⟩
  obtain ⟨y, hy, e2⟩ := hx x e
  rw [e2]; exact hA y hy
theorem Psr.but {S : Nat → Prop} (h : Psr w0 w sc R b1 D i) (hb : But S w w') (hs : ∀ k, S k → w0.heap.size + 1 < k ∧ k ≠ R ∧ k ≠ b1) : Psr w0 w' sc R b1 D i := by
  obtain ⟨A, c, hr, hA⟩ := h.rd
  obtain ⟨n1, n2, n3⟩ := h.ne
  exact ⟨h.shp.but hb (fun e => by have := (hs _ e).1; omega), h.res.but hb (fun e => by have := (hs _ e).1; omega), ⟨A, c, hr.but hb (fun e => (hs _ e).2.1 rfl) (fun x hx e => (hs _ e).2.2 (hA x hx)), hA⟩, ⟨n1, n2, Nat.lt_of_lt_of_le n3 hb.size⟩, h.bel.trans (hb.below (fun k e => by have := (hs k e).1; omega) h.bel.size)⟩
theorem Psr.up (h : Psr w0 w sc R b1 D i) (hb : Below w.heap.size w w') : Psr w0 w' sc R b1 D i := h.but (S := fun _ => False) (But.of_below hb) (fun _ e => e.elim)
/-- A block that is none of these. -/
def Away (w0 : World) (R b1 r : Nat) : Prop := w0.heap.size + 1 < r ∧ r ≠ R ∧ r ≠ b1
theorem Psr.away (h : Psr w0 w sc R b1 D i) : Away w0 R b1 w.heap.size := by
  have h1 := h.rlt
  have h2 := h.ne
  have h3 := h.res.lt
  exact ⟨h3, by omega, by omega⟩
/-- And what is made beside: rows of segments and of places, the image's block. -/
structure Pq (w0 w : World) (sc : Array Value) (R b1 : Nat) (D : List (BitVec 8)) (g l i : Nat) (o1 o2 o3 : Option Nat) : Prop where
  e : Psr w0 w sc R b1 D i
  a1 : ∀ r, o1 = some r → At w r (flat (List.replicate g ⟨0, 0⟩)).toArray 58 ∧ Away w0 R b1 r
  a2 : ∀ r, o2 = some r → At w r (ints (List.replicate l 1)).toArray 3 ∧ Away w0 R b1 r
  a3 : ∀ r, o3 = some r → At w r zcs 37 ∧ Away w0 R b1 r
  d12 : ∀ r r', o1 = some r → o2 = some r' → r ≠ r'
  d13 : ∀ r r', o1 = some r → o3 = some r' → r ≠ r'
  d23 : ∀ r r', o2 = some r → o3 = some r' → r ≠ r'
variable {g l : Nat} {o1 o2 o3 : Option Nat}
theorem Pq.take {A : Option Addr} (h : Pq w0 w sc R b1 D g l i o1 o2 o3) (hA : ∀ x, A = some x → x.block = b1) (hS : Step w R A (D.drop j) false w') : Pq w0 w' sc R b1 D g l j o1 o2 o3 :=
  ⟨h.e.take hA hS, fun r hr => ⟨(h.a1 r hr).1.but hS.2 (h.a1 r hr).2.2.1, (h.a1 r hr).2⟩, fun r hr => ⟨(h.a2 r hr).1.but hS.2 (h.a2 r hr).2.2.1, (h.a2 r hr).2⟩, fun r hr => ⟨(h.a3 r hr).1.but hS.2 (h.a3 r hr).2.2.1, (h.a3 r hr).2⟩, h.d12, h.d13, h.d23⟩
theorem Pq.up (h : Pq w0 w sc R b1 D g l i o1 o2 o3) (hb : Below w.heap.size w w') : Pq w0 w' sc R b1 D g l i o1 o2 o3 :=
  ⟨h.e.up hb, fun r hr => ⟨(h.a1 r hr).1.below hb (h.a1 r hr).1.lt, (h.a1 r hr).2⟩, fun r hr => ⟨(h.a2 r hr).1.below hb (h.a2 r hr).1.lt, (h.a2 r hr).2⟩, fun r hr => ⟨(h.a3 r hr).1.below hb (h.a3 r hr).1.lt, (h.a3 r hr).2⟩, h.d12, h.d13, h.d23⟩
theorem Pq.make1 (h : Pq w0 w sc R b1 D g l i none o2 o3) (hat : At w' w.heap.size (flat (List.replicate g ⟨0, 0⟩)).toArray 58) (hb : Below w.heap.size w w') : Pq w0 w' sc R b1 D g l i (some w.heap.size) o2 o3 := by
  have h1 := h.up hb
  refine ⟨h1.e, fun r hr => ?_, h1.a2, h1.a3, fun r r' hr hr' => ?_, fun r r' hr hr' => ?_, h1.d23⟩
  · injection hr with hr; subst hr; exact ⟨hat, h.e.away⟩
  · injection hr with hr; subst hr; have := (h.a2 r' hr').1.lt; omega
  · injection hr with hr; subst hr; have := (h.a3 r' hr').1.lt; omega
theorem Pq.make2 (h : Pq w0 w sc R b1 D g l i o1 none o3) (hat : At w' w.heap.size (ints (List.replicate l 1)).toArray 3) (hb : Below w.heap.size w w') : Pq w0 w' sc R b1 D g l i o1 (some w.heap.size) o3 := by
  have h1 := h.up hb
  refine ⟨h1.e, h1.a1, fun r hr => ?_, h1.a3, fun r r' hr hr' => ?_, h1.d13, fun r r' hr hr' => ?_⟩
  · injection hr with hr; subst hr; exact ⟨hat, h.e.away⟩
  · injection hr' with hr'; subst hr'; have := (h.a1 r hr).1.lt; omega
  · injection hr with hr; subst hr; have := (h.a3 r' hr').1.lt; omega
theorem Pq.make3 (h : Pq w0 w sc R b1 D g l i o1 o2 none) (hat : At w' w.heap.size zcs 37) (hb : Below w.heap.size w w') : Pq w0 w' sc R b1 D g l i o1 o2 (some w.heap.size) := by
  have h1 := h.up hb
  refine ⟨h1.e, h1.a1, h1.a2, fun r hr => ?_, h1.d12, fun r r' hr hr' => ?_, fun r r' hr hr' => ?_⟩
  · injection hr with hr; subst hr; exact ⟨hat, h.e.away⟩
  · injection hr' with hr'; subst hr'; have := (h.a1 r hr).1.lt; omega
  · injection hr' with hr'; subst hr'; have := (h.a2 r hr).1.lt; omega
/-- The image's block P with its rows X at R1, Y at R2. -/
structure Pst (w0 w : World) (sc : Array Value) (R b1 : Nat) (D : List (BitVec 8)) (i : Nat) (P R1 R2 q z ix g l : Nat) (X : List Sg) (Y : List Nat) : Prop where
  e : Psr w0 w sc R b1 D i
  box : At w P (ics q z ix (some ⟨R1, 0, none⟩) g g (some ⟨R2, 0, none⟩) l l) 37
  r1 : At w R1 (flat X).toArray 58
  r2 : At w R2 (ints Y).toArray 3
  w1 : Away w0 R b1 R1
  w2 : Away w0 R b1 R2
  w3 : Away w0 R b1 P
  d : R1 ≠ R2 ∧ R1 ≠ P ∧ R2 ≠ P
variable {P R1 R2 q z ix : Nat} {X : List Sg} {Y : List Nat}
theorem Pq.store {p r1 r2 : Nat} (h : Pq w0 w sc R b1 D g l i (some r1) (some r2) (some p)) (hat : At w' p (ics q z ix (some ⟨r1, 0, none⟩) g g (some ⟨r2, 0, none⟩) l l) 37) (hb : But (fun k => k = p) w w') :
    Pst w0 w' sc R b1 D i p r1 r2 q z ix g l (List.replicate g ⟨0, 0⟩) (List.replicate l 1) :=
  ⟨h.e.but hb (fun k e => by subst e; exact (h.a3 _ rfl).2), hat, (h.a1 _ rfl).1.but hb (h.d13 _ _ rfl rfl), (h.a2 _ rfl).1.but hb (h.d23 _ _ rfl rfl), (h.a1 _ rfl).2, (h.a2 _ rfl).2, (h.a3 _ rfl).2, h.d12 _ _ rfl rfl, h.d13 _ _ rfl rfl, h.d23 _ _ rfl rfl⟩
theorem Pst.take {A : Option Addr} (h : Pst w0 w sc R b1 D i P R1 R2 q z ix g l X Y) (hA : ∀ x, A = some x → x.block = b1) (hS : Step w R A (D.drop j) false w') : Pst w0 w' sc R b1 D j P R1 R2 q z ix g l X Y :=
  ⟨h.e.take hA hS, h.box.but hS.2 h.w3.2.1, h.r1.but hS.2 h.w1.2.1, h.r2.but hS.2 h.w2.2.1, h.w1, h.w2, h.w3, h.d⟩
theorem Pst.up (h : Pst w0 w sc R b1 D i P R1 R2 q z ix g l X Y) (hb : Below w.heap.size w w') : Pst w0 w' sc R b1 D i P R1 R2 q z ix g l X Y :=
  ⟨h.e.up hb, h.box.below hb h.box.lt, h.r1.below hb h.r1.lt, h.r2.below hb h.r2.lt, h.w1, h.w2, h.w3, h.d⟩
theorem Pst.set1 {X' : List Sg} {k : Nat} {v : Value} (h : Pst w0 w sc R b1 D i P R1 R2 q z ix g l X Y) (e : (flat X).toArray.setIfInBounds k v = (flat X').toArray) : Pst w0 (w.setCell ⟨R1, k, none⟩ v) sc R b1 D i P R1 R2 q z ix g l X' Y := by
  have bs : But (fun x => x = R1) w (w.setCell ⟨R1, k, none⟩ v) := (But.refl (fun x => x = R1) w).setCell (p := ⟨R1, k, none⟩) (fun _ => rfl) _
  have h9 := h.r1.set k v
  rw [e] at h9
  exact ⟨h.e.but bs (fun x e => by subst e; exact h.w1), h.box.but bs (fun e => h.d.2.1 e.symm), h9, h.r2.but bs (fun e => h.d.1 e.symm), h.w1, h.w2, h.w3, h.d⟩
theorem Pst.set2 {Y' : List Nat} {k : Nat} {v : Value} (h : Pst w0 w sc R b1 D i P R1 R2 q z ix g l X Y) (e : (ints Y).toArray.setIfInBounds k v = (ints Y').toArray) : Pst w0 (w.setCell ⟨R2, k, none⟩ v) sc R b1 D i P R1 R2 q z ix g l X Y' := by
  have bs : But (fun x => x = R2) w (w.setCell ⟨R2, k, none⟩ v) := (But.refl (fun x => x = R2) w).setCell (p := ⟨R2, k, none⟩) (fun _ => rfl) _
  have h9 := h.r2.set k v
  rw [e] at h9
  exact ⟨h.e.but bs (fun x e => by subst e; exact h.w2), h.box.but bs (fun e => h.d.2.2 e.symm), h.r1.but bs (fun e => h.d.1 e), h9, h.w1, h.w2, h.w3, h.d⟩
end
end Go.Proofs.Ytlmponcoghfghaa
