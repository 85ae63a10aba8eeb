/-
  RECORDS, AND ROWS OF THEM: their cells; slices of records anywhere; rows of a call's own; 'append' of records.
-/
import Derived.Test.YtclbiidgggdniaaWalkA
import Derived.Test.YtclbiidgggdniaaView
import Derived.Deep.MidRow
import Derived.Deep.WholeRow
import Derived.Laws.ResultCell
import Derived.Deep.RegionLaw
namespace Go.Proofs.Ytclbiidgggdniaa
open Go.RowKit
set_option linter.unusedVariables false
set_option maxRecDepth 100000

/-- A record as it lies in memory: its number, its kind, its block, where its bytes lie, and the bytes. -/
structure Rc where
  seq : Nat
  kind : Int
  lba : Int
  A : Option Addr
  n : Nat
  c : Nat
  l : List (BitVec 8)
/-- What a record says. -/
structure Rr where
  seq : Nat
  kind : Int
  lba : Int
  l : List (BitVec 8)
def Rc.abs (x : Rc) : Rr := ⟨x.seq, x.kind, x.lba, x.l⟩
def Rc.cs (x : Rc) : List Value := [.int .u64 (x.seq : Int), .int .i64 x.kind, .int .i64 x.lba, .slice x.A x.n x.c]
def flat (L : List Rc) : List Value := L.flatMap Rc.cs

theorem flat_nil : flat [] = [] := rfl
theorem flat_cons (x : Rc) (L : List Rc) : flat (x :: L) = x.cs ++ flat L := by simp [flat]
theorem flat_append (L M : List Rc) : flat (L ++ M) = flat L ++ flat M := by simp [flat]
theorem cs_len (x : Rc) : x.cs.length = 4 := rfl
theorem flat_len : ∀ L : List Rc, (flat L).length = L.length * 4
  | [] => rfl
  | x :: L => by rw [flat_cons, List.length_append, flat_len L, cs_len, List.length_cons]; omega
theorem flat_get : ∀ (L : List Rc) (i : Nat) (h : i < L.length) (j : Nat), j < 4 → (flat L)[i * 4 + j]? = L[i].cs[j]?
  | x :: L, 0, _, j, hj => by
    rw [flat_cons, List.getElem?_append_left (by rw [cs_len]; omega)]
    simp
  | x :: L, i + 1, h, j, hj => by
    rw [flat_cons, List.getElem?_append_right (by rw [cs_len]; omega), cs_len, show (i + 1) * 4 + j - 4 = i * 4 + j by omega]
    exact flat_get L i (by simpa using h) j hj
theorem flat_take (L : List Rc) (i : Nat) (h : i ≤ L.length) : (flat L).take (i * 4) = flat (L.take i) := by
  have e : flat L = flat (L.take i) ++ flat (L.drop i) := by rw [← flat_append, List.take_append_drop]
  rw [e]
  exact List.take_left' (by rw [flat_len, List.length_take]; congr 1; omega)
theorem flat_drop (L : List Rc) (i : Nat) (h : i ≤ L.length) : (flat L).drop (i * 4) = flat (L.drop i) := by
  have e : flat L = flat (L.take i) ++ flat (L.drop i) := by rw [← flat_append, List.take_append_drop]
  rw [e]
  exact List.drop_left' (by rw [flat_len, List.length_take]; congr 1; omega)
theorem flat_set (L : List Rc) (i : Nat) (x : Rc) (h : i < L.length) : (flat L).take (i * 4) ++ x.cs ++ (flat L).drop (i * 4 + 4) = flat (L.set i x) := by
  rw [flat_take L i (by omega), show i * 4 + 4 = (i + 1) * 4 by omega, flat_drop L (i + 1) (by omega), List.set_eq_take_append_cons_drop, if_pos h, flat_append, flat_cons, List.append_assoc]
theorem cs_one (x : Rc) : ∀ u ∈ x.cs, u.oneCell' = true := by
  intro u hu
  simp [Rc.cs] at hu
  rcases hu with rfl | rfl | rfl | rfl <;> rfl
theorem flat_one (L : List Rc) : ∀ u ∈ flat L, u.oneCell' = true := by
  intro u hu
  obtain ⟨x, _, hx⟩ := List.mem_flatMap.mp hu
  exact cs_one x u hx

theorem setRow_but (w : World) (g : Nat) (c : Array Value) : But (fun k => k = g) w (w.setRow g c) := by
  refine ⟨rfl, rfl, rfl, by simp [World.setRow], fun k hk hn => ?_⟩
  simp only [World.setRow]
  rw [Array.getElem?_modify]
  rw [if_neg (fun e => hn e.symm)]

/-- What a block holds when some of its cells are stored anew. -/
def part (c : Array Value) (o : Nat) (cells : Array Value) : Array Value := (c.toList.take o ++ cells.toList ++ c.toList.drop (o + cells.size)).toArray
/-- A struct stored into a block that is known whole. -/
theorem wpList_store_part {w : World} {ops : Array Oper} {rest : List Oper} {op : Oper} {a : Act} {Q : Exit → Act → World → Prop} (hgd : op.guard = none) (ty : TypeId) (x y : Operand) (ho : op.op = .store ty x y) (g o : Nat) (t : TypeId) (c cells : Array Value)
    (hx : a.eval x = .pointer (some ⟨g, o, none⟩)) (hy : a.eval y = .agg cells) (hat : At w g c t) (hi : (Try.prog.info? ty).map (·.size) = some cells.size) (hfit : o + cells.size ≤ c.size) (h1 : cells.all (·.oneCell') = true)
    (h : ∀ w', At w' g (part c o cells) t → But (fun k => k = g) w w' → wpList Try.prog ops Q rest (a.put op.dst undef) w') : wpList Try.prog ops Q (op :: rest) a w := by
  refine wpList_plain hgd fun K hK => ?_
  have hst := run_storeCells_at Try.prog g o t cells.toList 0 c w hat (by simpa using hfit) (fun v hv => (Array.all_eq_true_iff_forall_mem.1 h1) v (by simpa using hv))
  have hrun : (storeVar ty ⟨g, o, none⟩ (.agg cells)).run Try.prog w = .ok () (w.setRow g (part c o cells)) := by
    cases hq : Try.prog.info? ty with
    | none => simp [hq] at hi
    | some i =>
      have hs : cells.size = i.size := by simp [hq] at hi; omega
      simp only [Nat.add_zero, Array.length_toList] at hst
      simp [storeVar, sizeOf, typeInfo, hq, Value.cells, hs, hst, part]
  unfold Oper.wp execOp
  simp only [ho, hx, hy, Instr.storeAt, Instr.sureAddr, Sem.run_bind, Sem.run_pure, Result.andThen_ok, hrun]
  exact hK _ _ (h _ (setRow_heap w g _ _ t _ hat) (setRow_but w g _))
/-- A struct loaded out of a block that is known whole. -/
theorem wpList_load_part {w : World} {ops : Array Oper} {rest : List Oper} {op : Oper} {a : Act} {Q : Exit → Act → World → Prop} (hgd : op.guard = none) (ty : TypeId) (x : Operand) (ho : op.op = .load ty x) (g o : Nat) (cells : Array Value) (d : TypeDesc)
    (hx : a.eval x = .pointer (some ⟨g, o, none⟩)) (hc : ∀ j, j < cells.size → w.cell? ⟨g, o + j, none⟩ = cells[j]?) (hu : Try.prog.underlying ty = some d) (hd : d.isRow = true) (hi : (Try.prog.info? ty).map (·.size) = some cells.size)
    (h : wpList Try.prog ops Q rest (a.put op.dst (.agg cells)) w) : wpList Try.prog ops Q (op :: rest) a w := by
  have := wpList_load_mid (P := Try.prog) (ops := ops) (rest := rest) (Q := Q) hgd ty x ho g o hx cells.toList d (fun j v hv => by
    have hj : j < cells.size := by have := (List.getElem?_eq_some_iff.1 hv).1; simpa using this
    rw [hc j hj]
    simpa using hv) hu hd (by simpa using hi)
  exact this (by simpa using h)

theorem rec_info : (Try.prog.info? 35).map (fun i => (i.zero, i.size, i.bytes)) = some (some (.agg #[.int .u64 0, .int .i64 0, .int .i64 0, .slice none 0 0]), 4, 48) := by kernel_rfl
theorem rec_size : (Try.prog.info? 35).map (·.size) = some 4 := by kernel_rfl
/-- Where a source of records lies. -/
def Src (w : World) (S : Addr) (m : Nat) (M : List Rc) : Prop := M.length = m ∧ ∀ j u, (flat M)[j]? = some u → w.cell? (S.add j) = some u
theorem Src.one {w : World} {g : Nat} (x : Rc) (h : At w g #[.int .u64 (x.seq : Int), .int .i64 x.kind, .int .i64 x.lba, .slice x.A x.n x.c] 35) : Src w ⟨g, 0, none⟩ 1 [x] := by
  refine ⟨rfl, fun j u hu => ?_⟩
  rw [Addr.add_mid, Nat.zero_add, h.cell]
  rw [show flat [x] = x.cs by simp [flat]] at hu
  rw [← hu]
  simp [Rc.cs]

theorem run_append_rec {w : World} {ty : TypeId} (base : Nat) (v : Value) (n : Nat) (L : List Rc) (hown : w.ownsRow base 35 4 v n (flat L)) (S : Addr) (m c : Nat) (M : List Rc) (hk : Src w S m M) (hm : n + m ≤ 1000000) (hbase : base ≤ w.heap.size) :
    ∃ A cap w', (Builtin.append_ #[25, 25] ty #[v, .slice (some S) m c]).run Try.prog w = .ok (.slice A (n + m) cap) w' ∧ w'.ownsRow base 35 4 (.slice A (n + m) cap) (n + m) (flat (L ++ M)) ∧ w.grownBy w' v.ownBlock ∧
      (∀ g, (Value.slice A (n + m) cap).ownBlock = some g → v.ownBlock = some g ∨ w.heap.size ≤ g) := by
  obtain ⟨i0, hi, hz0, hz1, hz2⟩ := info_parts rec_info
  obtain ⟨v', w', hr, h2, h3, h4, h5⟩ := run_append_own_at (P := Try.prog) w base 25 ty 35 i0 _ 4 48 Try.underlying25 hi hz0 hz1 hz2 rfl (by decide) v n (flat L) hown S m c (flat M) (by rw [flat_len, hk.1]) hk.2 (flat_one M) (by unfold maxLen; omega) (by omega) hbase
  obtain ⟨A, cap, rfl⟩ : ∃ A cap, v' = .slice A (n + m) cap := by
    rcases h2.2 with ⟨rfl, e⟩ | ⟨g, cap, cur, rfl, _⟩
    · exact ⟨none, 0, by rw [e]⟩
    · exact ⟨_, cap, rfl⟩
  refine ⟨A, cap, w', hr, by rw [flat_append]; exact h2, h3, fun g hg => ?_⟩
  rcases h5 with e | e
  · exact .inl (by rw [← e]; exact hg)
  · rw [e] at hg
    injection hg with hg
    exact .inr (by omega)
theorem step_append_rec {w : World} {ops : Array Oper} {o : Oper} {a : Act} {K : Act → World → Prop} {Q : Exit → Act → World → Prop} {E : Prop} (hgd : o.guard = none) (s x : Operand)
    (ho : o.op = .call { callee := .builtin .append, args := #[s, x], argTypes := #[25, 25] }) (base : Nat) (v : Value) (n : Nat) (L : List Rc) (hs : a.eval s = v) (hown : w.ownsRow base 35 4 v n (flat L))
    (S : Addr) (m c : Nat) (M : List Rc) (hx : a.eval x = .slice (some S) m c) (hk : Src w S m M) (hm : n + m ≤ 1000000) (hbase : base ≤ w.heap.size)
    (h : ∀ A cap w', w'.ownsRow base 35 4 (.slice A (n + m) cap) (n + m) (flat (L ++ M)) → w.grownBy w' v.ownBlock → (∀ g, (Value.slice A (n + m) cap).ownBlock = some g → v.ownBlock = some g ∨ w.heap.size ≤ g) → K (a.put o.dst (.slice A (n + m) cap)) w') :
    if Region.wanted o (yielded ops a.tmps) = true then Oper.wp Try.prog o a w K Q else E := by
  have hw : Region.wanted o (yielded ops a.tmps) = true := by simp [Region.wanted, hgd]
  rw [if_pos hw]
  obtain ⟨A, cap, w', hr, h2, h3, h4⟩ := run_append_rec (ty := o.type) base v n L hown S m c M hk hm hbase
  unfold Oper.wp execOp
  simp only [ho, resolve, invoke, builtin, Sem.run_bind, Sem.run_pure, Result.andThen_ok, List.map_toArray, List.map_cons, List.map_nil, hs, hx, hr]
  exact h A cap w' h2 h3 h4
theorem wpList_append_rec {w : World} {ops : Array Oper} {rest : List Oper} {o : Oper} {a : Act} {Q : Exit → Act → World → Prop} (hgd : o.guard = none) (s x : Operand)
    (ho : o.op = .call { callee := .builtin .append, args := #[s, x], argTypes := #[25, 25] }) (base : Nat) (v : Value) (n : Nat) (L : List Rc) (hs : a.eval s = v) (hown : w.ownsRow base 35 4 v n (flat L))
    (S : Addr) (m c : Nat) (M : List Rc) (hx : a.eval x = .slice (some S) m c) (hk : Src w S m M) (hm : n + m ≤ 1000000) (hbase : base ≤ w.heap.size)
    (h : ∀ A cap w', w'.ownsRow base 35 4 (.slice A (n + m) cap) (n + m) (flat (L ++ M)) → w.grownBy w' v.ownBlock → (∀ g, (Value.slice A (n + m) cap).ownBlock = some g → v.ownBlock = some g ∨ w.heap.size ≤ g) →
      wpList Try.prog ops Q rest (a.put o.dst (.slice A (n + m) cap)) w') : wpList Try.prog ops Q (o :: rest) a w := by
  refine wpList_plain hgd fun K hK => ?_
  obtain ⟨A, cap, w', hr, h2, h3, h4⟩ := run_append_rec (ty := o.type) base v n L hown S m c M hk hm hbase
  unfold Oper.wp execOp
  simp only [ho, resolve, invoke, builtin, Sem.run_bind, Sem.run_pure, Result.andThen_ok, List.map_toArray, List.map_cons, List.map_nil, hs, hx, hr]
  exact hK _ _ (h A cap w' h2 h3 h4)


theorem Has.apart {S : Nat → Prop} {w w' : World} {A : Option Addr} {n : Nat} {l : List (BitVec 8)} (h : Has w A n l) (hb : But S w w') (hn : 0 < n → ∀ x, A = some x → ¬ S x.block) : Has w' A n l :=
  ⟨h.1, fun h0 => by
    obtain ⟨b, off, e, hlt, hc⟩ := h.2 h0
    exact ⟨b, off, e, Nat.lt_of_lt_of_le hlt hb.size, fun k hk => (hb.cell (p := ⟨b, off + k, none⟩) hlt (hn h0 ⟨b, off, none⟩ e)).trans (hc k hk)⟩⟩
theorem Has.low {w : World} {A : Option Addr} {n : Nat} {l : List (BitVec 8)} (h : Has w A n l) (h0 : 0 < n) (a : Addr) (ha : A = some a) : a.block < w.heap.size := by
  obtain ⟨b, o, e, hb, _⟩ := h.2 h0
  rw [ha] at e
  injection e with e
  subst e
  exact hb

/-- A record whose bytes lie in memory, and whose numbers are such as its types hold. -/
structure Ok (w : World) (x : Rc) : Prop where
  has : Has w x.A x.n x.l
  len : x.n ≤ 100
  lba : -9223372036854775808 ≤ x.lba ∧ x.lba ≤ 9223372036854775807
  seq : x.seq ≤ 18446744073709551615
theorem Ok.apart {S : Nat → Prop} {w w' : World} {x : Rc} (h : Ok w x) (hb : But S w w') (hn : 0 < x.n → ∀ a, x.A = some a → ¬ S a.block) : Ok w' x := ⟨h.has.apart hb hn, h.len, h.lba, h.seq⟩
theorem Ok.below {w w' : World} {x : Rc} (h : Ok w x) (hb : Below w.heap.size w w') : Ok w' x := h.apart (S := fun _ => False) (But.of_below hb) (fun _ _ _ h => h)

/-- The slice (A, n) holds the records L. -/
structure Rs (w : World) (A : Option Addr) (n : Nat) (L : List Rc) : Prop where
  len : L.length = n
  cells : 0 < n → ∃ b off, A = some ⟨b, off, none⟩ ∧ b < w.heap.size ∧ ∀ k (h : k < L.length), ∀ j, j < 4 → w.cell? ⟨b, off + k * 4 + j, none⟩ = L[k].cs[j]?
  ok : ∀ x ∈ L, Ok w x
section
variable {w w' : World} {A : Option Addr} {n : Nat} {L : List Rc}
theorem Rs.but {S : Nat → Prop} (h : Rs w A n L) (hb : But S w w') (hn : 0 < n → ∀ x, A = some x → ¬ S x.block) (hx : ∀ x ∈ L, 0 < x.n → ∀ a, x.A = some a → ¬ S a.block) : Rs w' A n L :=
  ⟨h.len, fun h0 => by
    obtain ⟨b, off, e, hlt, hc⟩ := h.cells h0
    exact ⟨b, off, e, Nat.lt_of_lt_of_le hlt hb.size, fun k hk j hj => (hb.cell (p := ⟨b, off + k * 4 + j, none⟩) hlt (hn h0 ⟨b, off, none⟩ e)).trans (hc k hk j hj)⟩, fun x hx' => (h.ok x hx').apart hb (hx x hx')⟩
theorem Rs.below (h : Rs w A n L) (hb : Below w.heap.size w w') : Rs w' A n L := h.but (S := fun _ => False) (But.of_below hb) (fun _ _ _ h => h) (fun _ _ _ _ _ h => h)
theorem Rs.drewN (h : Rs w A n L) (q : Nat) : Rs (w.drewN q) A n L := h.below ⟨rfl, rfl, rfl, Nat.le_refl _, fun _ _ => rfl⟩
theorem Rs.nil (w : World) (A : Option Addr) : Rs w A 0 [] := ⟨rfl, fun h => absurd h (by omega), fun x hx => (by cases hx)⟩
/-- One of the records: its cells. -/
theorem Rs.one (h : Rs w A n L) {k : Nat} (hk : k < n) : ∃ b off, A = some ⟨b, off, none⟩ ∧ b < w.heap.size ∧ ∃ (hl : k < L.length) (x : Rc), L[k] = x ∧ Ok w x ∧ w.cell? ⟨b, off + k * 4, none⟩ = some (.int .u64 (x.seq : Int)) ∧ w.cell? ⟨b, off + k * 4 + 1, none⟩ = some (.int .i64 x.kind) ∧ w.cell? ⟨b, off + k * 4 + 2, none⟩ = some (.int .i64 x.lba) ∧ w.cell? ⟨b, off + k * 4 + 3, none⟩ = some (.slice x.A x.n x.c) := by
  obtain ⟨b, off, e, hlt, hc⟩ := h.cells (by omega)
  have hl : k < L.length := by rw [h.len]; exact hk
  have hc := hc k hl
  exact ⟨b, off, e, hlt, hl, L[k], rfl, h.ok _ (List.getElem_mem hl), hc 0 (by omega), hc 1 (by omega), hc 2 (by omega), hc 3 (by omega)⟩
theorem Rs.take (h : Rs w A n L) (m : Nat) (hm : m ≤ n) : Rs w A m (L.take m) :=
  ⟨by rw [List.length_take, h.len]; omega, fun h0 => by
    obtain ⟨b, off, e, hlt, hc⟩ := h.cells (by omega)
    refine ⟨b, off, e, hlt, fun k hk j hj => ?_⟩
    rw [List.length_take] at hk
    rw [List.getElem_take]
    exact hc k (by omega) j hj, fun x hx => h.ok x (List.mem_of_mem_take hx)⟩
theorem Rs.drop {b off : Nat} (h : Rs w (some ⟨b, off, none⟩) n L) (m : Nat) (hm : m ≤ n) {o2 : Nat} (ho : m < n → o2 = off + m * 4) : Rs w (some ⟨b, o2, none⟩) (n - m) (L.drop m) :=
  ⟨by rw [List.length_drop, h.len], fun h0 => by
    obtain ⟨b', off', e, hlt, hc⟩ := h.cells (by omega)
    injection e with e
    injection e with e1 e2
    subst e1 e2
    have ho := ho (by omega)
    subst ho
    refine ⟨b, off + m * 4, rfl, hlt, fun k hk j hj => ?_⟩
    rw [List.length_drop] at hk
    rw [List.getElem_drop, show off + m * 4 + k * 4 + j = off + (m + k) * 4 + j by omega]
    exact hc (m + k) (by omega) j hj, fun x hx => h.ok x (List.mem_of_mem_drop hx)⟩
theorem Rs.single {w : World} {g : Nat} {x : Rc} (h : At w g #[.int .u64 (x.seq : Int), .int .i64 x.kind, .int .i64 x.lba, .slice x.A x.n x.c] 35) (hx : Ok w x) : Rs w (some ⟨g, 0, none⟩) 1 [x] :=
  ⟨rfl, fun _ => ⟨g, 0, rfl, h.lt, fun k hk j hj => by
    obtain rfl : k = 0 := by simpa using hk
    rw [show 0 + 0 * 4 + j = j by omega, h.cell]
    simp [Rc.cs]⟩, fun y hy => by
    obtain rfl : y = x := by simpa using hy
    exact hx⟩
theorem Rs.src {b off : Nat} (h : Rs w (some ⟨b, off, none⟩) n L) : Src w ⟨b, off, none⟩ n L := by
  refine ⟨h.len, fun j u hu => ?_⟩
  have hj : j < L.length * 4 := by rw [← flat_len]; exact (List.getElem?_eq_some_iff.1 hu).1
  have hl := h.len
  obtain ⟨b', off', e, hlt, hc⟩ := h.cells (by omega)
  injection e with e
  injection e with e1 e2
  subst e1 e2
  have hk : j / 4 < L.length := by omega
  have h1 := hc (j / 4) hk (j % 4) (by omega)
  rw [Addr.add_mid, ← hu, show off + j = off + j / 4 * 4 + j % 4 by omega, h1, ← flat_get L (j / 4) hk (j % 4) (by omega)]
  congr 1
  omega
end

/-- A row of the call's own holds the records L; none of their bytes lies in the row's own block. -/
structure Rw (w : World) (B : Nat) (v : Value) (L : List Rc) : Prop where
  own : w.ownsRow B 35 4 v L.length (flat L)
  ok : ∀ x ∈ L, Ok w x
  off : ∀ x ∈ L, 0 < x.n → ∀ a, x.A = some a → v.ownBlock ≠ some a.block
section
variable {w w' : World} {B : Nat} {v : Value} {L : List Rc} {S : Nat → Prop}
theorem Rw.nil (w : World) (B : Nat) : Rw w B (.slice none 0 0) [] :=
  ⟨World.ownsRow_nil _ _ _ _, fun x hx => (by cases hx), fun x hx => (by cases hx)⟩
theorem Rw.form (h : Rw w B v L) : ∃ A c, v = .slice A L.length c ∧ L.length ≤ c ∧ c ≤ maxLen ∧ Rs w A L.length L ∧ (∀ a, A = some a → B ≤ a.block ∧ a.off = 0 ∧ a.spot = none ∧ a.block < w.heap.size) ∧ (A = none → c = 0) := by
  rcases h.own.2 with ⟨rfl, e⟩ | ⟨g, cap, cur, rfl, hg, hh, hnc, hcm, hcs, htk⟩
  · rw [e]
    exact ⟨none, 0, rfl, Nat.le_refl _, by unfold maxLen; omega, ⟨e, fun h => absurd h (by omega), h.ok⟩, fun a h => (by cases h), fun _ => rfl⟩
  · have hlt := (h.own.lt g rfl).2
    refine ⟨_, cap, rfl, hnc, hcm, ⟨rfl, fun h0 => ⟨g, 0, rfl, hlt, fun k hk j hj => ?_⟩, h.ok⟩, fun a e => ?_, fun h => by cases h⟩
    · rw [Nat.zero_add, h.own.cellAt (k * 4 + j) (by omega), flat_get L k hk j hj]
    · injection e with e
      subst e
      exact ⟨hg, rfl, rfl, hlt⟩
theorem Rw.but (h : Rw w B v L) (hb : But S w w') (hv : ∀ k, v.ownBlock = some k → ¬ S k) (hd : ∀ x ∈ L, 0 < x.n → ∀ a, x.A = some a → ¬ S a.block) : Rw w' B v L :=
  ⟨own_but h.own hb hv, fun x hx => (h.ok x hx).apart hb (hd x hx), h.off⟩
theorem Rw.up (h : Rw w B v L) (hb : Below w.heap.size w w') : Rw w' B v L :=
  h.but (S := fun _ => False) (But.of_below hb) (fun _ _ h => h) (fun _ _ _ _ _ h => h)
theorem Rw.base {B' : Nat} (h : Rw w B v L) (hb : B' ≤ B) : Rw w B' v L := ⟨own_base h.own (fun k hk => Nat.le_trans hb (h.own.lt k hk).1), h.ok, h.off⟩
/-- Others at the end. -/
theorem Rw.push {w1 : World} {A : Option Addr} {m c : Nat} {M : List Rc} (h : Rw w B v L) (hown : w1.ownsRow B 35 4 (.slice A m c) m (flat (L ++ M))) (hg : w.grownBy w1 v.ownBlock)
    (hf : ∀ g, (Value.slice A m c).ownBlock = some g → v.ownBlock = some g ∨ w.heap.size ≤ g) (hx : ∀ x ∈ M, Ok w x) (ho : ∀ x ∈ M, 0 < x.n → ∀ a, x.A = some a → v.ownBlock ≠ some a.block) : Rw w1 B (.slice A m c) (L ++ M) := by
  have bt : But (fun k => v.ownBlock = some k) w w1 := (But.refl _ _).grown hg (fun k hk _ => hk)
  have hm : m = (L ++ M).length := by have := hown.1; rw [flat_len] at this; omega
  have hall : ∀ y ∈ L ++ M, Ok w y ∧ (0 < y.n → ∀ a, y.A = some a → v.ownBlock ≠ some a.block) := by
    intro y hy
    rcases List.mem_append.1 hy with hy | hy
    · exact ⟨h.ok y hy, h.off y hy⟩
    · exact ⟨hx y hy, ho y hy⟩
  refine ⟨by rw [← hm]; exact hown, fun y hy => (hall y hy).1.apart bt (fun h0 a ha => (hall y hy).2 h0 a ha), fun y hy h0 a ha e => ?_⟩
  rcases hf _ e with e | e
  · exact (hall y hy).2 h0 a ha e
  · have := (hall y hy).1.has.low h0 a ha; omega
end

end Go.Proofs.Ytclbiidgggdniaa
