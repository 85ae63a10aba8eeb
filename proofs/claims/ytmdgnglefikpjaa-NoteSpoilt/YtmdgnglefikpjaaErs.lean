/-
  ENTRIES IN MEMORY: rows of them, what is loaded out of a row, what is appended to one.
-/
import Derived.Test.YtmdgnglefikpjaaNotes
import Derived.Test.YtmdgnglefikpjaaEnds
import Derived.Laws.StructEq
namespace Go.Proofs.Ytmdgnglefikpjaa
open Go.RowKit
set_option linter.unusedVariables false
set_option maxRecDepth 100000


theorem size28 : (Try.prog.info? 28).map (·.size) = some 3 := by kernel_rfl
theorem size45 : (Try.prog.info? 45).map (·.size) = some 2 := by kernel_rfl
theorem size48 : (Try.prog.info? 48).map (·.size) = some 2 := by kernel_rfl
theorem ent_info : (Try.prog.info? 48).map (fun i => (i.zero, i.size, i.bytes)) = some (some (.agg #[.int .i64 0, .int .i64 0]), 2, 16) := by kernel_rfl

def flat (L : List En) : List Value := L.flatMap En.cs
theorem flat_nil : flat [] = [] := rfl
theorem flat_cons (x : En) (L : List En) : flat (x :: L) = x.cs ++ flat L := by simp [flat]
theorem flat_append (L M : List En) : flat (L ++ M) = flat L ++ flat M := by simp [flat]
theorem cs_len (x : En) : x.cs.length = 2 := rfl
theorem flat_len : ∀ L : List En, (flat L).length = L.length * 2
  | [] => rfl
  | x :: L => by rw [flat_cons, List.length_append, flat_len L, cs_len, List.length_cons]; omega
theorem flat_get : ∀ (L : List En) (i : Nat) (h : i < L.length) (j : Nat), j < 2 → (flat L)[i * 2 + j]? = L[i].cs[j]?
  | x :: L, 0, _, j, hj => by
    rw [flat_cons, List.getElem?_append_left (by rw [cs_len]; omega)]
    simp
  | x :: L, i + 1, h, j, hj => by
    rw [flat_cons, List.getElem?_append_right (by rw [cs_len]; omega), cs_len, show (i + 1) * 2 + j - 2 = i * 2 + j by omega]
    exact flat_get L i (by simpa using h) j hj
theorem cs_one (x : En) : ∀ u ∈ x.cs, u.oneCell' = true := by
  intro u hu
  simp [En.cs] at hu
  rcases hu with rfl | rfl <;> rfl
theorem flat_one (L : List En) : ∀ u ∈ flat L, u.oneCell' = true := by
  intro u hu
  obtain ⟨x, _, hx⟩ := List.mem_flatMap.mp hu
  exact cs_one x u hx

/-- The slice (A, n) holds the entries es. -/
def Ers (w : World) (A : Option Addr) (n : Nat) (es : List En) : Prop :=
  es.length = n ∧ (0 < n → ∃ b off, A = some ⟨b, off, none⟩ ∧ b < w.heap.size ∧ ∀ k (h : k < es.length), w.cell? ⟨b, off + k * 2, none⟩ = some (.int .i64 (es[k].k : Int)) ∧ w.cell? ⟨b, off + k * 2 + 1, none⟩ = some (.int .i64 (es[k].b : Int)))
section
variable {w w' : World} {A : Option Addr} {n : Nat} {es : List En} {S : Nat → Prop}
theorem Ers.nil (w : World) (A : Option Addr) : Ers w A 0 [] := ⟨rfl, fun h => absurd h (by omega)⟩
theorem Ers.some_ (h : Ers w A n es) (hn : 0 < n) : ∃ b off, A = some ⟨b, off, none⟩ := by
  obtain ⟨b, off, e, _⟩ := h.2 hn
  exact ⟨b, off, e⟩
theorem Ers.cell {b off : Nat} (h : Ers w (some ⟨b, off, none⟩) n es) (k : Nat) (hk : k < n) : w.cell? ⟨b, off + k * 2, none⟩ = some (.int .i64 ((es[k]'(by rw [h.1]; exact hk)).k : Int)) ∧ w.cell? ⟨b, off + k * 2 + 1, none⟩ = some (.int .i64 ((es[k]'(by rw [h.1]; exact hk)).b : Int)) := by
  obtain ⟨b', off', e, hb, hc⟩ := h.2 (by omega)
  injection e with e
  injection e with e1 e2
  subst e1 e2
  exact hc k (by rw [h.1]; exact hk)
theorem Ers.but (h : Ers w A n es) (hb : But S w w') (hn : 0 < n → ∀ x, A = some x → ¬ S x.block) : Ers w' A n es :=
  ⟨h.1, fun h0 => by
    obtain ⟨b, off, e, hlt, hc⟩ := h.2 h0
    exact ⟨b, off, e, Nat.lt_of_lt_of_le hlt hb.size, fun k hk => ⟨(hb.cell (p := ⟨b, off + k * 2, none⟩) hlt (hn h0 ⟨b, off, none⟩ e)).trans (hc k hk).1, (hb.cell (p := ⟨b, off + k * 2 + 1, none⟩) hlt (hn h0 ⟨b, off, none⟩ e)).trans (hc k hk).2⟩⟩⟩
theorem Ers.below (h : Ers w A n es) (hb : Below w.heap.size w w') : Ers w' A n es := h.but (S := fun _ => False) (But.of_below hb) (fun _ _ _ h => h)
theorem Ers.alloc (h : Ers w A n es) (o : Obj) : Ers (w.alloc o) A n es := h.below ((Below.refl _ _).alloc (Nat.le_refl _) o)
theorem Ers.heap (h : Ers w A n es) (e : w'.heap = w.heap) : Ers w' A n es :=
  ⟨h.1, fun h0 => by
    obtain ⟨b, off, e1, hlt, hc⟩ := h.2 h0
    exact ⟨b, off, e1, by rw [e]; exact hlt, fun k hk => ⟨(World.cell?_of_block (by rw [e])).trans (hc k hk).1, (World.cell?_of_block (by rw [e])).trans (hc k hk).2⟩⟩⟩
theorem Ers.of_own {B : Nat} {v : Value} (h : w.ownsRow B 48 2 v n (flat es)) : ∃ A c, v = .slice A n c ∧ Ers w A n es ∧ (∀ x, A = some x → B ≤ x.block) := by
  have hl : es.length = n := by have := h.1; rw [flat_len] at this; omega
  rcases h.2 with ⟨rfl, hn0⟩ | ⟨g, cap, cur, rfl, hg, hh, hnc, hcm, hcs, htk⟩
  · subst hn0
    exact ⟨none, 0, rfl, ⟨hl, fun h => absurd h (by omega)⟩, fun x e => by cases e⟩
  · refine ⟨_, _, rfl, ⟨hl, fun _ => ⟨g, 0, rfl, (h.lt g rfl).2, fun k hk => ?_⟩⟩, fun x e => by injection e with e; subst e; exact hg⟩
    have e : ∀ j, j < 2 → w.cell? ⟨g, k * 2 + j, none⟩ = es[k].cs[j]? := by
      intro j hj
      rw [cell_of_row w g _ _ _ _ hh, ← flat_get es k hk j hj, ← htk, List.getElem?_take, if_pos (by omega)]
      simp
    rw [Nat.zero_add]
    exact ⟨e 0 (by omega), e 1 (by omega)⟩
end

/-- Where a source of entries lies. -/
def Src (w : World) (S : Addr) (m : Nat) (M : List En) : Prop := M.length = m ∧ ∀ j u, (flat M)[j]? = some u → w.cell? (S.add j) = some u
theorem Src.one {w : World} {g : Nat} (x : En) (h : At w g #[.int .i64 (x.k : Int), .int .i64 (x.b : Int)] 48) : Src w ⟨g, 0, none⟩ 1 [x] := by
  refine ⟨rfl, fun j u hu => ?_⟩
  rw [Addr.add_mid, Nat.zero_add, h.cell]
  rw [show flat [x] = x.cs by simp [flat]] at hu
  rw [← hu]
  simp [En.cs]
theorem run_append_ent {w : World} {ty : TypeId} (base : Nat) (v : Value) (n : Nat) (L : List En) (hown : w.ownsRow base 48 2 v n (flat L)) (S : Addr) (m c : Nat) (M : List En) (hk : Src w S m M) (hm : n + m ≤ 1000000) (hbase : base ≤ w.heap.size) :
    ∃ A cap w', (Builtin.append_ #[26, 26] ty #[v, .slice (some S) m c]).run Try.prog w = .ok (.slice A (n + m) cap) w' ∧ w'.ownsRow base 48 2 (.slice A (n + m) cap) (n + m) (flat (L ++ M)) ∧ w.grownBy w' v.ownBlock := by
  obtain ⟨i0, hi, hz0, hz1, hz2⟩ := info_parts ent_info
  obtain ⟨v', w', hr, h2, h3, h4, h5⟩ := run_append_own_at (P := Try.prog) w base 26 ty 48 i0 _ 2 16 Try.underlying26 hi hz0 hz1 hz2 rfl (by decide) v n (flat L) hown S m c (flat M) (by rw [flat_len, hk.1]) hk.2 (flat_one M) (by unfold maxLen; omega) (by omega) hbase
  obtain ⟨A, cap, rfl⟩ : ∃ A cap, v' = .slice A (n + m) cap := by
    rcases h2.2 with ⟨rfl, e⟩ | ⟨g, cap, cur, rfl, _⟩
    · exact ⟨none, 0, by rw [e]⟩
    · exact ⟨_, cap, rfl⟩
  exact ⟨A, cap, w', hr, by rw [flat_append]; exact h2, h3⟩
theorem wpList_append_ent {w : World} {ops : Array Oper} {rest : List Oper} {o : Oper} {a : Act} {Q : Exit → Act → World → Prop} (hgd : o.guard = none) (s x : Operand)
    (ho : o.op = .call { callee := .builtin .append, args := #[s, x], argTypes := #[26, 26] }) (base : Nat) (v : Value) (n : Nat) (L : List En) (hs : a.eval s = v) (hown : w.ownsRow base 48 2 v n (flat L))
    (S : Addr) (m c : Nat) (M : List En) (hx : a.eval x = .slice (some S) m c) (hk : Src w S m M) (hm : n + m ≤ 1000000) (hbase : base ≤ w.heap.size)
    (h : ∀ A cap w', w'.ownsRow base 48 2 (.slice A (n + m) cap) (n + m) (flat (L ++ M)) → w.grownBy w' v.ownBlock →
      wpList Try.prog ops Q rest (a.put o.dst (.slice A (n + m) cap)) w') : wpList Try.prog ops Q (o :: rest) a w := by
  refine wpList_plain hgd fun K hK => ?_
  obtain ⟨A, cap, w', hr, h2, h3⟩ := run_append_ent (ty := o.type) base v n L hown S m c M hk hm hbase
  unfold Oper.wp execOp
  simp only [ho, resolve, invoke, builtin, Sem.run_bind, Sem.run_pure, Result.andThen_ok, List.map_toArray, List.map_cons, List.map_nil, hs, hx, hr]
  exact hK _ _ (h A cap w' h2 h3)

/-- '!=' of entries. -/
theorem ent_neq_no (k b : Int) (w : World) : (binOp .neq 48 (.agg #[.int .i64 k, .int .i64 b]) (.agg #[.int .i64 k, .int .i64 b])).run Try.prog w = .ok (.bool false) w := by
  simp [go_sem, Try.underlying48, Try.underlying46]
theorem ent_neq_yes {k b k' b' : Int} (h : ¬ (k = k' ∧ b = b')) (w : World) : (binOp .neq 48 (.agg #[.int .i64 k, .int .i64 b]) (.agg #[.int .i64 k', .int .i64 b'])).run Try.prog w = .ok (.bool true) w := by
  simp [go_sem, Try.underlying48, Try.underlying46]
  intro h1 h2
  exact h ⟨h1, h2⟩
end Go.Proofs.Ytmdgnglefikpjaa
