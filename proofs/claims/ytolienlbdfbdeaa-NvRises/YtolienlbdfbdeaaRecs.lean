/-
  RECORDS, AND ROWS OF THEM: their cells; a row of the call's own that holds records; parts of a block loaded and stored.
-/
import Derived.Test.YtolienlbdfbdeaaRun
import Derived.Deep.MidRow
import Derived.Deep.WholeRow
import Derived.Laws.ResultCell
namespace Go.Proofs.Ytolienlbdfbdeaa
open Go.RowKit
set_option linter.unusedVariables false
set_option maxRecDepth 100000

/-- A record as it lies in memory: its number, its kind, its block, where its bytes lie, and the bytes. -/
structure Rc where
  seq : Nat
  kind : Int
  lba : Int
  A : Option Addr
  n : Nat
  c : Nat
  l : List (BitVec 8)
/-- What a record says. -/
structure Rr where
  seq : Nat
  kind : Int
  lba : Int
  l : List (BitVec 8)
def Rc.abs (x : Rc) : Rr := ⟨x.seq, x.kind, x.lba, x.l⟩
def Rc.cs (x : Rc) : List Value := [.int .u64 (x.seq : Int), .int .i64 x.kind, .int .i64 x.lba, .slice x.A x.n x.c]
def flat (L : List Rc) : List Value := L.flatMap Rc.cs

theorem flat_nil : flat [] = [] := rfl
theorem flat_cons (x : Rc) (L : List Rc) : flat (x :: L) = x.cs ++ flat L := by simp [flat]
theorem flat_append (L M : List Rc) : flat (L ++ M) = flat L ++ flat M := by simp [flat]
theorem cs_len (x : Rc) : x.cs.length = 4 := rfl
theorem flat_len : ∀ L : List Rc, (flat L).length = L.length * 4
  | [] => rfl
  | x :: L => by rw [flat_cons, List.length_append, flat_len L, cs_len, List.length_cons]; omega
theorem flat_get : ∀ (L : List Rc) (i : Nat) (h : i < L.length) (j : Nat), j < 4 → (flat L)[i * 4 + j]? = L[i].cs[j]?
  | x :: L, 0, _, j, hj => by
    rw [flat_cons, List.getElem?_append_left (by rw [cs_len]; omega)]
    simp
  | x :: L, i + 1, h, j, hj => by
    rw [flat_cons, List.getElem?_append_right (by rw [cs_len]; omega), cs_len, show (i + 1) * 4 + j - 4 = i * 4 + j by omega]
    exact flat_get L i (by simpa using h) j hj
theorem flat_take (L : List Rc) (i : Nat) (h : i ≤ L.length) : (flat L).take (i * 4) = flat (L.take i) := by
  have e : flat L = flat (L.take i) ++ flat (L.drop i) := by rw [← flat_append, List.take_append_drop]
  rw [e]
  exact List.take_left' (by rw [flat_len, List.length_take]; congr 1; omega)
theorem flat_drop (L : List Rc) (i : Nat) (h : i ≤ L.length) : (flat L).drop (i * 4) = flat (L.drop i) := by
  have e : flat L = flat (L.take i) ++ flat (L.drop i) := by rw [← flat_append, List.take_append_drop]
  rw [e]
  exact List.drop_left' (by rw [flat_len, List.length_take]; congr 1; omega)
theorem flat_set (L : List Rc) (i : Nat) (x : Rc) (h : i < L.length) : (flat L).take (i * 4) ++ x.cs ++ (flat L).drop (i * 4 + 4) = flat (L.set i x) := by
  rw [flat_take L i (by omega), show i * 4 + 4 = (i + 1) * 4 by omega, flat_drop L (i + 1) (by omega), List.set_eq_take_append_cons_drop, if_pos h, flat_append, flat_cons, List.append_assoc]
theorem cs_one (x : Rc) : ∀ u ∈ x.cs, u.oneCell' = true := by
  intro u hu
  simp [Rc.cs] at hu
  rcases hu with rfl | rfl | rfl | rfl <;> rfl
theorem flat_one (L : List Rc) : ∀ u ∈ flat L, u.oneCell' = true := by
  intro u hu
  obtain ⟨x, _, hx⟩ := List.mem_flatMap.mp hu
  exact cs_one x u hx

theorem setRow_but (w : World) (g : Nat) (c : Array Value) : But (fun k => k = g) w (w.setRow g c) := by
  refine ⟨rfl, rfl, rfl, by simp [World.setRow], fun k hk hn => ?_⟩
  simp only [World.setRow]
  rw [Array.getElem?_modify]
  rw [if_neg (fun e => hn e.symm)]

/-- What a block holds when some of its cells are stored anew. -/
def part (c : Array Value) (o : Nat) (cells : Array Value) : Array Value := (c.toList.take o ++ cells.toList ++ c.toList.drop (o + cells.size)).toArray
/-- A struct stored into a block that is known whole. -/
theorem wpList_store_part {w : World} {ops : Array Oper} {rest : List Oper} {op : Oper} {a : Act} {Q : Exit → Act → World → Prop} (hgd : op.guard = none) (ty : TypeId) (x y : Operand) (ho : op.op = .store ty x y) (g o : Nat) (t : TypeId) (c cells : Array Value)
    (hx : a.eval x = .pointer (some ⟨g, o, none⟩)) (hy : a.eval y = .agg cells) (hat : At w g c t) (hi : (Try.prog.info? ty).map (·.size) = some cells.size) (hfit : o + cells.size ≤ c.size) (h1 : cells.all (·.oneCell') = true)
    (h : ∀ w', At w' g (part c o cells) t → But (fun k => k = g) w w' → wpList Try.prog ops Q rest (a.put op.dst undef) w') : wpList Try.prog ops Q (op :: rest) a w := by
  refine wpList_plain hgd fun K hK => ?_
  have hst := run_storeCells_at Try.prog g o t cells.toList 0 c w hat (by simpa using hfit) (fun v hv => (Array.all_eq_true_iff_forall_mem.1 h1) v (by simpa using hv))
  have hrun : (storeVar ty ⟨g, o, none⟩ (.agg cells)).run Try.prog w = .ok () (w.setRow g (part c o cells)) := by
    cases hq : Try.prog.info? ty with
    | none => simp [hq] at hi
    | some i =>
      have hs : cells.size = i.size := by simp [hq] at hi; omega
      simp only [Nat.add_zero, Array.length_toList] at hst
      simp [storeVar, sizeOf, typeInfo, hq, Value.cells, hs, hst, part]
  unfold Oper.wp execOp
  simp only [ho, hx, hy, Instr.storeAt, Instr.sureAddr, Sem.run_bind, Sem.run_pure, Result.andThen_ok, hrun]
  exact hK _ _ (h _ (setRow_heap w g _ _ t _ hat) (setRow_but w g _))
/-- A struct loaded out of a block that is known whole. -/
theorem wpList_load_part {w : World} {ops : Array Oper} {rest : List Oper} {op : Oper} {a : Act} {Q : Exit → Act → World → Prop} (hgd : op.guard = none) (ty : TypeId) (x : Operand) (ho : op.op = .load ty x) (g o : Nat) (cells : Array Value) (d : TypeDesc)
    (hx : a.eval x = .pointer (some ⟨g, o, none⟩)) (hc : ∀ j, j < cells.size → w.cell? ⟨g, o + j, none⟩ = cells[j]?) (hu : Try.prog.underlying ty = some d) (hd : d.isRow = true) (hi : (Try.prog.info? ty).map (·.size) = some cells.size)
    (h : wpList Try.prog ops Q rest (a.put op.dst (.agg cells)) w) : wpList Try.prog ops Q (op :: rest) a w := by
  have := wpList_load_mid (P := Try.prog) (ops := ops) (rest := rest) (Q := Q) hgd ty x ho g o hx cells.toList d (fun j v hv => by
    have hj : j < cells.size := by have := (List.getElem?_eq_some_iff.1 hv).1; simpa using this
    rw [hc j hj]
    simpa using hv) hu hd (by simpa using hi)
  exact this (by simpa using h)

/-- A row of the call's own holds the records L; none of their bytes lies in the row's own block. -/
structure Rw (w : World) (B : Nat) (v : Value) (L : List Rc) : Prop where
  own : w.ownsRow B 40 4 v L.length (flat L)
  has : ∀ x ∈ L, Has w x.A x.n x.l
  len : ∀ x ∈ L, x.n ≤ 100
  off : ∀ x ∈ L, 0 < x.n → ∀ a, x.A = some a → v.ownBlock ≠ some a.block

section
variable {w w' : World} {B : Nat} {v : Value} {L : List Rc} {S : Nat → Prop}
theorem Rw.nil (w : World) (B : Nat) : Rw w B (.slice none 0 0) [] :=
  ⟨World.ownsRow_nil _ _ _ _, fun x hx => (by cases hx), fun x hx => (by cases hx), fun x hx => (by cases hx)⟩
theorem Rw.slice (h : Rw w B v L) : ∃ A c, v = .slice A L.length c := by
  rcases h.own.2 with ⟨rfl, e⟩ | ⟨g, cap, cur, rfl, _⟩
  · exact ⟨none, 0, by rw [e]⟩
  · exact ⟨_, cap, rfl⟩
theorem Rw.form (h : Rw w B v L) (hn : 0 < L.length) : ∃ g cap tail, v = .slice (some ⟨g, 0, none⟩) L.length cap ∧ B ≤ g ∧ At w g (flat L ++ tail).toArray 40 ∧ (flat L ++ tail).length = cap * 4 ∧ L.length ≤ cap ∧ cap ≤ maxLen := by
  rcases h.own.2 with ⟨rfl, e⟩ | ⟨g, cap, cur, rfl, hB, hh, hnc, hcm, hcs, htk⟩
  · omega
  · have e : flat L ++ cur.toList.drop (L.length * 4) = cur.toList := by rw [← htk, List.take_append_drop]
    refine ⟨g, cap, cur.toList.drop (L.length * 4), rfl, hB, ?_, ?_, hnc, hcm⟩
    · unfold At
      rw [e, Array.toArray_toList]
      exact hh
    · rw [e, Array.length_toList, hcs]
theorem Rw.of_at {g cap : Nat} {tail : List Value} (hat : At w g (flat L ++ tail).toArray 40) (hs : (flat L ++ tail).length = cap * 4) (hnc : L.length ≤ cap) (hcm : cap ≤ maxLen) (hB : B ≤ g)
    (hh : ∀ x ∈ L, Has w x.A x.n x.l) (hl : ∀ x ∈ L, x.n ≤ 100) (ho : ∀ x ∈ L, 0 < x.n → ∀ a, x.A = some a → g ≠ a.block) : Rw w B (.slice (some ⟨g, 0, none⟩) L.length cap) L :=
  ⟨⟨flat_len L, .inr ⟨g, cap, _, rfl, hB, hat, hnc, hcm, by simpa using hs, by rw [List.take_left' (flat_len L)]⟩⟩, hh, hl, fun x hx h0 a ha e => ho x hx h0 a ha (by simpa [Value.ownBlock] using e)⟩
/-- One of the records: its cells. -/
theorem row_cells {g : Nat} {tail : List Value} (hat : At w g (flat L ++ tail).toArray 40) {i : Nat} (hi : i < L.length) : ∀ j, j < 4 → w.cell? ⟨g, i * 4 + j, none⟩ = L[i].cs[j]? := by
  intro j hj
  rw [hat.cell]
  simp only [List.getElem?_toArray]
  rw [List.getElem?_append_left (by rw [flat_len]; omega), flat_get L i hi j hj]
theorem Rw.low (h : Rw w B v L) : ∀ x ∈ L, 0 < x.n → ∀ a, x.A = some a → a.block < w.heap.size := by
  intro x hx h0 a ha
  obtain ⟨b, o, e, hb, _⟩ := (h.has x hx).2 h0
  rw [ha] at e
  injection e with e
  subst e
  exact hb
theorem Has.apart {A : Option Addr} {n : Nat} {l : List (BitVec 8)} (h : Has w A n l) (hb : But S w w') (hn : 0 < n → ∀ x, A = some x → ¬ S x.block) : Has w' A n l :=
  ⟨h.1, fun h0 => by
    obtain ⟨b, off, e, hlt, hc⟩ := h.2 h0
    exact ⟨b, off, e, Nat.lt_of_lt_of_le hlt hb.size, fun k hk => (hb.cell (p := ⟨b, off + k, none⟩) hlt (hn h0 ⟨b, off, none⟩ e)).trans (hc k hk)⟩⟩
theorem Rw.but (h : Rw w B v L) (hb : But S w w') (hv : ∀ k, v.ownBlock = some k → ¬ S k) (hd : ∀ x ∈ L, 0 < x.n → ∀ a, x.A = some a → ¬ S a.block) : Rw w' B v L :=
  ⟨own_but h.own hb hv, fun x hx => (h.has x hx).apart hb (hd x hx), h.len, h.off⟩
theorem Rw.up (h : Rw w B v L) (hb : Below w.heap.size w w') : Rw w' B v L :=
  h.but (S := fun _ => False) (But.of_below hb) (fun _ _ h => h) (fun _ _ _ _ _ h => h)
theorem Rw.base {B' : Nat} (h : Rw w B v L) (hb : ∀ k, v.ownBlock = some k → B' ≤ k) : Rw w B' v L := ⟨own_base h.own hb, h.has, h.len, h.off⟩
/-- One more at the end. -/
theorem Rw.push {w1 : World} {A : Option Addr} {m c : Nat} {x : Rc} (h : Rw w B v L) (hown : w1.ownsRow B 40 4 (.slice A m c) m (flat (L ++ [x]))) (hg : w.grownBy w1 v.ownBlock)
    (hf : ∀ g, (Value.slice A m c).ownBlock = some g → v.ownBlock = some g ∨ w.heap.size ≤ g) (hx : Has w x.A x.n x.l) (hl : x.n ≤ 100) (ho : 0 < x.n → ∀ a, x.A = some a → v.ownBlock ≠ some a.block) : Rw w1 B (.slice A m c) (L ++ [x]) := by
  have bt : But (fun k => v.ownBlock = some k) w w1 := (But.refl _ _).grown hg (fun k hk _ => hk)
  have hm : m = (L ++ [x]).length := by have := hown.1; rw [flat_len] at this; omega
  have low : ∀ y : Rc, Has w y.A y.n y.l → 0 < y.n → ∀ a, y.A = some a → a.block < w.heap.size := by
    intro y hy h0 a ha
    obtain ⟨b, o, e, hb, _⟩ := hy.2 h0
    rw [ha] at e
    injection e with e
    subst e
    exact hb
  refine ⟨by rw [← hm]; exact hown, fun y hy => ?_, fun y hy => ?_, fun y hy h0 a ha e => ?_⟩
  · rcases List.mem_append.1 hy with hy | hy
    · exact (h.has y hy).apart bt (fun h0 a ha => h.off y hy h0 a ha)
    · simp at hy; subst hy
      exact hx.apart bt (fun h0 a ha => ho h0 a ha)
  · rcases List.mem_append.1 hy with hy | hy
    · exact h.len y hy
    · simp at hy; subst hy; exact hl
  · rcases List.mem_append.1 hy with hy | hy
    · rcases hf _ e with e | e
      · exact h.off y hy h0 a ha e
      · have := low y (h.has y hy) h0 a ha; omega
    · simp at hy; subst hy
      rcases hf _ e with e | e
      · exact ho h0 a ha e
      · have := low y hx h0 a ha; omega
end

theorem rec_info : (Try.prog.info? 40).map (fun i => (i.zero, i.size, i.bytes)) = some (some (.agg #[.int .u64 0, .int .i64 0, .int .i64 0, .slice none 0 0]), 4, 48) := by kernel_rfl
theorem rec_size : (Try.prog.info? 40).map (·.size) = some 4 := by kernel_rfl
theorem root_size : (Try.prog.info? 32).map (·.size) = some 9 := by kernel_rfl
theorem act_size : (Try.prog.info? 36).map (·.size) = some 15 := by kernel_rfl

end Go.Proofs.Ytolienlbdfbdeaa
