/-
  IMAGES AND PAGES IN MEMORY: rows of one-cell values, of segments, of slices of bytes; what is appended to a row.
-/
import Derived.Test.YtlmponcoghfghaaImgs
import Derived.Test.YtlmponcoghfghaaShp
import Derived.Test.YtlmponcoghfghaaPart
import Derived.Test.YtlmponcoghfghaaLawA
import Derived.Laws.StructEq
namespace Go.Proofs.Ytlmponcoghfghaa
open Go.RowKit
set_option linter.unusedVariables false
set_option maxRecDepth 100000


/-- A slice of bytes: where it lies, its length, its capacity, its bytes. -/
structure Sl where
  A : Option Addr
  n : Nat
  c : Nat
  l : List (BitVec 8)
def Sl.v (x : Sl) : Value := .slice x.A x.n x.c
theorem line_one (L : List Sl) : ∀ u ∈ L.map Sl.v, u.oneCell' = true := by
  intro u hu
  obtain ⟨x, _, rfl⟩ := List.mem_map.mp hu
  rfl
/-- The slice (A, n) holds these values, a cell each. -/
def Row (w : World) (A : Option Addr) (n : Nat) (vs : List Value) : Prop :=
  vs.length = n ∧ (0 < n → ∃ b off, A = some ⟨b, off, none⟩ ∧ b < w.heap.size ∧ ∀ k (h : k < vs.length), w.cell? ⟨b, off + k, none⟩ = some vs[k])
section
variable {w w' : World} {A : Option Addr} {n : Nat} {vs : List Value} {L : List Sl}
theorem Row.keep (h : Row w A n vs) (hs : w.heap.size ≤ w'.heap.size) (hk : ∀ b off, A = some ⟨b, off, none⟩ → b < w.heap.size → ∀ k, w'.cell? ⟨b, k, none⟩ = w.cell? ⟨b, k, none⟩) : Row w' A n vs :=
  ⟨h.1, fun hn => by
    obtain ⟨b, off, e, hb, hc⟩ := h.2 hn
    exact ⟨b, off, e, by omega, fun k hk' => (hk b off e hb _).trans (hc k hk')⟩⟩
theorem Row.below (h : Row w A n vs) (hb : Below w.heap.size w w') : Row w' A n vs := h.keep hb.size fun b off _ hlt k => hb.cell (p := ⟨b, k, none⟩) hlt
theorem Row.some_ (h : Row w A n vs) (hn : 0 < n) : ∃ b off, A = some ⟨b, off, none⟩ := by
  obtain ⟨b, off, e, _⟩ := h.2 hn
  exact ⟨b, off, e⟩
theorem Row.cell {b off : Nat} (h : Row w (some ⟨b, off, none⟩) n vs) (k : Nat) (hk : k < n) : w.cell? ⟨b, off + k, none⟩ = some (vs[k]'(by rw [h.1]; exact hk)) := by
  obtain ⟨b', off', e, hb, hc⟩ := h.2 (by omega)
  injection e with e
  injection e with e1 e2
  subst e1 e2
  exact hc k _
theorem Row.cells {x : Addr} (h : Row w (some x) n vs) : ∀ j u, vs[j]? = some u → w.cell? (x.add j) = some u := by
  intro j u hu
  obtain ⟨hj, rfl⟩ := List.getElem?_eq_some_iff.mp hu
  obtain ⟨b, off, e, hb, hc⟩ := h.2 (by rw [← h.1]; omega)
  injection e with e
  subst e
  have e1 : (⟨b, off, none⟩ : Addr).add j = ⟨b, off + j, none⟩ := by
    unfold Addr.add
    by_cases h : j = 0 <;> simp [h]
  rw [e1]
  exact hc j hj
theorem Row.of_own {base : Nat} {e : TypeId} {v : Value} (h : w.ownsRow base e 1 v n vs) : ∃ A c, v = .slice A n c ∧ n ≤ c ∧ c ≤ maxLen ∧ Row w A n vs ∧ (A = none → c = 0) := by
  have hl : vs.length = n := by have := h.1; simpa using this
  rcases h.2 with ⟨rfl, hn0⟩ | ⟨g, cap, cur, rfl, hg, hh, hnc, hcm, hcs, htk⟩
  · subst hn0
    exact ⟨none, 0, rfl, Nat.le_refl _, by unfold maxLen; omega, ⟨hl, fun h => absurd h (by omega)⟩, fun _ => rfl⟩
  · refine ⟨some ⟨g, 0, none⟩, cap, rfl, hnc, hcm, ⟨hl, fun h0 => ⟨g, 0, rfl, (h.lt g rfl).2, fun k hk => ?_⟩⟩, fun e => by cases e⟩
    have := h.cellAt (g := g) (cap := cap) k (by omega)
    rw [Nat.zero_add, this, List.getElem?_eq_getElem hk]
theorem Row.take (h : Row w A n vs) (m : Nat) (hm : m ≤ n) : Row w A m (vs.take m) :=
  ⟨by rw [List.length_take, h.1]; omega, fun h0 => by
    obtain ⟨b, off, e, hb, hc⟩ := h.2 (by omega)
    refine ⟨b, off, e, hb, fun k hk => ?_⟩
    rw [List.length_take] at hk
    rw [List.getElem_take]
    exact hc k (by omega)⟩
theorem Row.drop {b off : Nat} (h : Row w (some ⟨b, off, none⟩) n vs) (m : Nat) (hm : m ≤ n) : Row w (some ⟨b, off + m, none⟩) (n - m) (vs.drop m) :=
  ⟨by rw [List.length_drop, h.1], fun h0 => by
    obtain ⟨b', off', e, hb, hc⟩ := h.2 (by omega)
    injection e with e
    injection e with e1 e2
    subst e1 e2
    refine ⟨b, off + m, rfl, hb, fun k hk => ?_⟩
    rw [List.length_drop] at hk
    rw [List.getElem_drop, Nat.add_assoc]
    exact hc (m + k) (by omega)⟩
theorem Row.but {S : Nat → Prop} (h : Row w A n vs) (hb : But S w w') (hn : 0 < n → ∀ x, A = some x → ¬ S x.block) : Row w' A n vs :=
  ⟨h.1, fun h0 => by
    obtain ⟨b, off, e, hlt, hc⟩ := h.2 h0
    exact ⟨b, off, e, Nat.lt_of_lt_of_le hlt hb.size, fun k hk => (hb.cell (p := ⟨b, off + k, none⟩) hlt (hn h0 ⟨b, off, none⟩ e)).trans (hc k hk)⟩⟩
theorem Row.heap (h : Row w A n vs) (e : w'.heap = w.heap) : Row w' A n vs := h.keep (by rw [e]; exact Nat.le_refl _) fun b off _ hlt k => World.cell?_of_block (by rw [e])
theorem Row.nil (w : World) (A : Option Addr) : Row w A 0 [] := ⟨rfl, fun h => absurd h (by omega)⟩
theorem Row.of_at {g : Nat} {cs : Array Value} {t : TypeId} (h : At w g cs t) (hv : cs.toList = vs) (hn : vs.length = n) : Row w (some ⟨g, 0, none⟩) n vs := by
  refine ⟨hn, fun _ => ⟨g, 0, rfl, h.lt, fun k hk => ?_⟩⟩
  rw [Nat.zero_add, h.cell, ← List.getElem?_eq_getElem hk, ← hv]
  simp
end
/-- Places, as the model holds them. -/
def ints (L : List Nat) : List Value := L.map fun (p : Nat) => Value.int .i64 ((p : Int) - 1)
theorem ints_len (L : List Nat) : (ints L).length = L.length := by simp [ints]
theorem ints_get (L : List Nat) (k : Nat) (h : k < L.length) : (ints L)[k]'(by rw [ints_len]; exact h) = .int .i64 ((L[k] : Int) - 1) := by simp [ints]
theorem ints_append (L M : List Nat) : ints (L ++ M) = ints L ++ ints M := by simp [ints]
theorem ints_one (L : List Nat) : ∀ u ∈ ints L, u.oneCell' = true := by
  intro u hu
  obtain ⟨x, _, rfl⟩ := List.mem_map.mp hu
  rfl

theorem size58 : (Try.prog.info? 58).map (·.size) = some 2 := by kernel_rfl
theorem size37 : (Try.prog.info? 37).map (·.size) = some 5 := by kernel_rfl
theorem seg_info : (Try.prog.info? 58).map (fun i => (i.zero, i.size, i.bytes)) = some (some (.agg #[.int .i64 0, .int .u64 0]), 2, 16) := by kernel_rfl
theorem int_info : (Try.prog.info? 3).map (fun i => (i.zero, i.size, i.bytes)) = some (some (.int .i64 0), 1, 8) := by kernel_rfl
theorem line_info : (Try.prog.info? 42).map (fun i => (i.zero, i.size, i.bytes)) = some (some (.slice none 0 0), 1, 24) := by kernel_rfl
def flat (L : List Sg) : List Value := L.flatMap Sg.cs
theorem flat_nil : flat [] = [] := rfl
theorem flat_cons (x : Sg) (L : List Sg) : flat (x :: L) = x.cs ++ flat L := by simp [flat]
theorem flat_append (L M : List Sg) : flat (L ++ M) = flat L ++ flat M := by simp [flat]
theorem cs_len (x : Sg) : x.cs.length = 2 := rfl
theorem flat_len : ∀ L : List Sg, (flat L).length = L.length * 2
  | [] => rfl
  | x :: L => by rw [flat_cons, List.length_append, flat_len L, cs_len, List.length_cons]; omega
theorem flat_get : ∀ (L : List Sg) (i : Nat) (h : i < L.length) (j : Nat), j < 2 → (flat L)[i * 2 + j]? = L[i].cs[j]?
  | x :: L, 0, _, j, hj => by
    rw [flat_cons, List.getElem?_append_left (by rw [cs_len]; omega)]
    simp
  | x :: L, i + 1, h, j, hj => by
    rw [flat_cons, List.getElem?_append_right (by rw [cs_len]; omega), cs_len, show (i + 1) * 2 + j - 2 = i * 2 + j by omega]
    exact flat_get L i (by simpa using h) j hj
theorem cs_one (x : Sg) : ∀ u ∈ x.cs, u.oneCell' = true := by
  intro u hu
  simp [Sg.cs] at hu
  rcases hu with rfl | rfl <;> rfl
theorem flat_one (L : List Sg) : ∀ u ∈ flat L, u.oneCell' = true := by
  intro u hu
  obtain ⟨x, _, hx⟩ := List.mem_flatMap.mp hu
  exact cs_one x u hx

/-- The slice (A, n) holds the segments es. -/
def Sgs (w : World) (A : Option Addr) (n : Nat) (es : List Sg) : Prop :=
  es.length = n ∧ (0 < n → ∃ b off, A = some ⟨b, off, none⟩ ∧ b < w.heap.size ∧ ∀ k (h : k < es.length), w.cell? ⟨b, off + k * 2, none⟩ = some (.int .i64 (es[k].st : Int)) ∧ w.cell? ⟨b, off + k * 2 + 1, none⟩ = some (.int .u64 (es[k].bo : Int)))
section
variable {w w' : World} {A : Option Addr} {n : Nat} {es : List Sg} {S : Nat → Prop}
theorem Sgs.nil (w : World) (A : Option Addr) : Sgs w A 0 [] := ⟨rfl, fun h => absurd h (by omega)⟩
theorem Sgs.some_ (h : Sgs w A n es) (hn : 0 < n) : ∃ b off, A = some ⟨b, off, none⟩ := by
  obtain ⟨b, off, e, _⟩ := h.2 hn
  exact ⟨b, off, e⟩
theorem Sgs.cell {b off : Nat} (h : Sgs w (some ⟨b, off, none⟩) n es) (k : Nat) (hk : k < n) : w.cell? ⟨b, off + k * 2, none⟩ = some (.int .i64 ((es[k]'(by rw [h.1]; exact hk)).st : Int)) ∧ w.cell? ⟨b, off + k * 2 + 1, none⟩ = some (.int .u64 ((es[k]'(by rw [h.1]; exact hk)).bo : Int)) := by
  obtain ⟨b', off', e, hb, hc⟩ := h.2 (by omega)
  injection e with e
  injection e with e1 e2
  subst e1 e2
  exact hc k (by rw [h.1]; exact hk)
theorem Sgs.but (h : Sgs w A n es) (hb : But S w w') (hn : 0 < n → ∀ x, A = some x → ¬ S x.block) : Sgs w' A n es :=
  ⟨h.1, fun h0 => by
    obtain ⟨b, off, e, hlt, hc⟩ := h.2 h0
    exact ⟨b, off, e, Nat.lt_of_lt_of_le hlt hb.size, fun k hk => ⟨(hb.cell (p := ⟨b, off + k * 2, none⟩) hlt (hn h0 ⟨b, off, none⟩ e)).trans (hc k hk).1, (hb.cell (p := ⟨b, off + k * 2 + 1, none⟩) hlt (hn h0 ⟨b, off, none⟩ e)).trans (hc k hk).2⟩⟩⟩
theorem Sgs.below (h : Sgs w A n es) (hb : Below w.heap.size w w') : Sgs w' A n es := h.but (S := fun _ => False) (But.of_below hb) (fun _ _ _ h => h)
theorem Sgs.alloc (h : Sgs w A n es) (o : Obj) : Sgs (w.alloc o) A n es := h.below ((Below.refl _ _).alloc (Nat.le_refl _) o)
theorem Sgs.heap (h : Sgs w A n es) (e : w'.heap = w.heap) : Sgs w' A n es :=
  ⟨h.1, fun h0 => by
    obtain ⟨b, off, e1, hlt, hc⟩ := h.2 h0
    exact ⟨b, off, e1, by rw [e]; exact hlt, fun k hk => ⟨(World.cell?_of_block (by rw [e])).trans (hc k hk).1, (World.cell?_of_block (by rw [e])).trans (hc k hk).2⟩⟩⟩
theorem Sgs.of_own {B : Nat} {v : Value} (h : w.ownsRow B 58 2 v n (flat es)) : ∃ A c, v = .slice A n c ∧ Sgs w A n es ∧ (∀ x, A = some x → B ≤ x.block) := by
  have hl : es.length = n := by have := h.1; rw [flat_len] at this; omega
  rcases h.2 with ⟨rfl, hn0⟩ | ⟨g, cap, cur, rfl, hg, hh, hnc, hcm, hcs, htk⟩
  · subst hn0
    exact ⟨none, 0, rfl, ⟨hl, fun h => absurd h (by omega)⟩, fun x e => by cases e⟩
  · refine ⟨_, _, rfl, ⟨hl, fun _ => ⟨g, 0, rfl, (h.lt g rfl).2, fun k hk => ?_⟩⟩, fun x e => by injection e with e; subst e; exact hg⟩
    have e : ∀ j, j < 2 → w.cell? ⟨g, k * 2 + j, none⟩ = es[k].cs[j]? := by
      intro j hj
      rw [cell_of_row w g _ _ _ _ hh, ← flat_get es k hk j hj, ← htk, List.getElem?_take, if_pos (by omega)]
      simp
    rw [Nat.zero_add]
    exact ⟨e 0 (by omega), e 1 (by omega)⟩
end


/-- The image's cells. -/
abbrev ics (q s i : Nat) (A : Option Addr) (n c : Nat) (B : Option Addr) (m d : Nat) : Array Value := #[.int .u64 (q : Int), .int .i64 ((s : Int) - 1), .int .i64 (i : Int), .slice A n c, .slice B m d]
theorem ics_one (q s i : Nat) (A : Option Addr) (n c : Nat) (B : Option Addr) (m d : Nat) : (ics q s i A n c B m d).all (·.oneCell') = true := by simp [Value.oneCell']
abbrev zcs : Array Value := #[.int .u64 0, .int .i64 0, .int .i64 0, .slice none 0 0, .slice none 0 0]
/-- What lies behind an image's slices. -/
structure Img (w : World) (A : Option Addr) (n : Nat) (B : Option Addr) (m : Nat) (x : Im) : Prop where
  gs : Sgs w A n x.gs
  mp : Row w B m (ints x.mp)
theorem Img.lg {w : World} {A : Option Addr} {n : Nat} {B : Option Addr} {m : Nat} {x : Im} (h : Img w A n B m x) : x.gs.length = n := h.gs.1
theorem Img.lm {w : World} {A : Option Addr} {n : Nat} {B : Option Addr} {m : Nat} {x : Im} (h : Img w A n B m x) : x.mp.length = m := by have := h.mp.1; rw [ints_len] at this; exact this
theorem Img.below {w w' : World} {A : Option Addr} {n : Nat} {B : Option Addr} {m : Nat} {x : Im} (h : Img w A n B m x) (hb : Below w.heap.size w w') : Img w' A n B m x := ⟨h.gs.below hb, h.mp.below hb⟩
theorem Img.but {w w' : World} {S : Nat → Prop} {A : Option Addr} {n : Nat} {B : Option Addr} {m : Nat} {x : Im} (h : Img w A n B m x) (hb : But S w w') (h1 : 0 < n → ∀ x, A = some x → ¬ S x.block) (h2 : 0 < m → ∀ x, B = some x → ¬ S x.block) : Img w' A n B m x := ⟨h.gs.but hb h1, h.mp.but hb h2⟩
theorem Img.heap {w w' : World} {A : Option Addr} {n : Nat} {B : Option Addr} {m : Nat} {x : Im} (h : Img w A n B m x) (e : w'.heap = w.heap) : Img w' A n B m x := ⟨h.gs.heap e, h.mp.heap e⟩
theorem Img.zero (w : World) : Img w none 0 none 0 Im.zero := ⟨Sgs.nil _ _, Row.nil _ _⟩

/-- The slice (A, n) of slices of bytes. -/
structure Lns (w : World) (A : Option Addr) (n : Nat) (L : List Sl) : Prop where
  row : Row w A n (L.map Sl.v)
  has : ∀ x ∈ L, Has w x.A x.n x.l
  cap : ∀ x ∈ L, x.n ≤ 1000000 ∧ x.n ≤ x.c ∧ x.c ≤ maxLen
section
variable {w w' : World} {A : Option Addr} {n : Nat} {L : List Sl}
theorem Lns.len (h : Lns w A n L) : L.length = n := by have := h.row.1; simpa using this
theorem Lns.below (h : Lns w A n L) (hb : Below w.heap.size w w') : Lns w' A n L := ⟨h.row.below hb, fun x hx => (h.has x hx).below hb, h.cap⟩
theorem Lns.but {S : Nat → Prop} (h : Lns w A n L) (hb : But S w w') (hn : 0 < n → ∀ x, A = some x → ¬ S x.block) (hx : ∀ y ∈ L, ∀ x, y.A = some x → ¬ S x.block) : Lns w' A n L := ⟨h.row.but hb hn, fun y hy => (h.has y hy).but hb (hx y hy), h.cap⟩
theorem Lns.heap (h : Lns w A n L) (e : w'.heap = w.heap) : Lns w' A n L := ⟨h.row.heap e, fun x hx => ⟨(h.has x hx).1, fun h0 => by
    obtain ⟨b, off, e1, hlt, hc⟩ := (h.has x hx).2 h0
    exact ⟨b, off, e1, by rw [e]; exact hlt, fun k hk => (World.cell?_of_block (by rw [e])).trans (hc k hk)⟩⟩, h.cap⟩
/-- One of the slices: its cell, its bytes. -/
theorem Lns.one (h : Lns w A n L) {j : Nat} (hj : j < n) : ∃ (hl : j < L.length) (b off : Nat), A = some ⟨b, off, none⟩ ∧ w.cell? ⟨b, off + j, none⟩ = some (.slice L[j].A L[j].n L[j].c) ∧ Has w L[j].A L[j].n L[j].l ∧ L[j].n ≤ 1000000 ∧ L[j].n ≤ L[j].c ∧ L[j].c ≤ maxLen := by
  have hl : j < L.length := by rw [h.len]; exact hj
  obtain ⟨b, off, e⟩ := h.row.some_ (by rw [← h.len]; omega)
  subst e
  refine ⟨hl, b, off, rfl, ?_, h.has _ (List.getElem_mem hl), h.cap _ (List.getElem_mem hl)⟩
  rw [h.row.cell j hj, List.getElem_map]
  rfl
end
/-- The bytes of the slices. -/
def byts (L : List Sl) : List (List (BitVec 8)) := L.map Sl.l
theorem byts_len (L : List Sl) : (byts L).length = L.length := by simp [byts]
theorem byts_get (L : List Sl) (k : Nat) (h : k < L.length) : (byts L)[k]'(by rw [byts_len]; exact h) = L[k].l := by simp [byts]

/-- What is appended, and where it lies. -/
theorem grown_at {w : World} {v : Value} {A : Option Addr} {n cap : Nat} (h : (Value.slice A n cap).ownBlock = v.ownBlock ∨ (Value.slice A n cap).ownBlock = some w.heap.size) : ∀ g, (Value.slice A n cap).ownBlock = some g → v.ownBlock = some g ∨ w.heap.size ≤ g := by
  intro g hg
  rcases h with e | e
  · exact .inl (by rw [← e]; exact hg)
  · rw [e] at hg
    injection hg with hg
    exact .inr (by omega)

theorem run_append_seg {w : World} {ty : TypeId} (base : Nat) (v : Value) (n : Nat) (L : List Sg) (hown : w.ownsRow base 58 2 v n (flat L)) (S : Addr) (m c : Nat) (M : List Sg) (hl : M.length = m) (hk : ∀ j u, (flat M)[j]? = some u → w.cell? (S.add j) = some u) (hm : n + m ≤ 1000000) (hbase : base ≤ w.heap.size) :
    ∃ A cap w', (Builtin.append_ #[34, 34] ty #[v, .slice (some S) m c]).run Try.prog w = .ok (.slice A (n + m) cap) w' ∧ w'.ownsRow base 58 2 (.slice A (n + m) cap) (n + m) (flat (L ++ M)) ∧ w.grownBy w' v.ownBlock ∧
      (∀ g, (Value.slice A (n + m) cap).ownBlock = some g → v.ownBlock = some g ∨ w.heap.size ≤ g) := by
  obtain ⟨i0, hi, hz0, hz1, hz2⟩ := info_parts seg_info
  obtain ⟨v', w', hr, h2, h3, h4, h5⟩ := run_append_own_at (P := Try.prog) w base 34 ty 58 i0 _ 2 16 Try.underlying34 hi hz0 hz1 hz2 rfl (by decide) v n (flat L) hown S m c (flat M) (by rw [flat_len, hl]) hk (flat_one M) (by unfold maxLen; omega) (by omega) hbase
  obtain ⟨A, cap, rfl⟩ : ∃ A cap, v' = .slice A (n + m) cap := by
    rcases h2.2 with ⟨rfl, e⟩ | ⟨g, cap, cur, rfl, _⟩
    · exact ⟨none, 0, by rw [e]⟩
    · exact ⟨_, cap, rfl⟩
  exact ⟨A, cap, w', hr, by rw [flat_append]; exact h2, h3, grown_at h5⟩
theorem wpList_append_seg {w : World} {ops : Array Oper} {rest : List Oper} {o : Oper} {a : Act} {Q : Exit → Act → World → Prop} (hgd : o.guard = none) (s x : Operand)
    (ho : o.op = .call { callee := .builtin .append, args := #[s, x], argTypes := #[34, 34] }) (base : Nat) (v : Value) (n : Nat) (L : List Sg) (hs : a.eval s = v) (hown : w.ownsRow base 58 2 v n (flat L))
    (S : Addr) (m c : Nat) (M : List Sg) (hx : a.eval x = .slice (some S) m c) (hl : M.length = m) (hk : ∀ j u, (flat M)[j]? = some u → w.cell? (S.add j) = some u) (hm : n + m ≤ 1000000) (hbase : base ≤ w.heap.size)
    (h : ∀ A cap w', w'.ownsRow base 58 2 (.slice A (n + m) cap) (n + m) (flat (L ++ M)) → w.grownBy w' v.ownBlock → (∀ g, (Value.slice A (n + m) cap).ownBlock = some g → v.ownBlock = some g ∨ w.heap.size ≤ g) →
      wpList Try.prog ops Q rest (a.put o.dst (.slice A (n + m) cap)) w') : wpList Try.prog ops Q (o :: rest) a w := by
  refine wpList_plain hgd fun K hK => ?_
  obtain ⟨A, cap, w', hr, h2, h3, h4⟩ := run_append_seg (ty := o.type) base v n L hown S m c M hl hk hm hbase
  unfold Oper.wp execOp
  simp only [ho, resolve, invoke, builtin, Sem.run_bind, Sem.run_pure, Result.andThen_ok, List.map_toArray, List.map_cons, List.map_nil, hs, hx, hr]
  exact hK _ _ (h A cap w' h2 h3 h4)
/-- The same, as one operation of a drawn region. -/
theorem wp_append_seg {w : World} {o : Oper} {a : Act} {K : Act → World → Prop} {Q : Exit → Act → World → Prop} (s x : Operand)
    (ho : o.op = .call { callee := .builtin .append, args := #[s, x], argTypes := #[34, 34] }) (base : Nat) (v : Value) (n : Nat) (L : List Sg) (hs : a.eval s = v) (hown : w.ownsRow base 58 2 v n (flat L))
    (S : Addr) (m c : Nat) (M : List Sg) (hx : a.eval x = .slice (some S) m c) (hl : M.length = m) (hk : ∀ j u, (flat M)[j]? = some u → w.cell? (S.add j) = some u) (hm : n + m ≤ 1000000) (hbase : base ≤ w.heap.size)
    (h : ∀ A cap w', w'.ownsRow base 58 2 (.slice A (n + m) cap) (n + m) (flat (L ++ M)) → w.grownBy w' v.ownBlock → (∀ g, (Value.slice A (n + m) cap).ownBlock = some g → v.ownBlock = some g ∨ w.heap.size ≤ g) →
      K (a.put o.dst (.slice A (n + m) cap)) w') : o.wp Try.prog a w K Q := by
  obtain ⟨A, cap, w', hr, h2, h3, h4⟩ := run_append_seg (ty := o.type) base v n L hown S m c M hl hk hm hbase
  unfold Oper.wp execOp
  simp only [ho, resolve, invoke, builtin, Sem.run_bind, Sem.run_pure, Result.andThen_ok, List.map_toArray, List.map_cons, List.map_nil, hs, hx, hr]
  exact h A cap w' h2 h3 h4

theorem run_append_int {w : World} {ty : TypeId} (base : Nat) (v : Value) (n : Nat) (L : List Nat) (hown : w.ownsRow base 3 1 v n (ints L)) (S : Addr) (m c : Nat) (M : List Nat) (hl : M.length = m) (hk : ∀ j u, (ints M)[j]? = some u → w.cell? (S.add j) = some u) (hm : n + m ≤ 1000000) (hbase : base ≤ w.heap.size) :
    ∃ A cap w', (Builtin.append_ #[35, 35] ty #[v, .slice (some S) m c]).run Try.prog w = .ok (.slice A (n + m) cap) w' ∧ w'.ownsRow base 3 1 (.slice A (n + m) cap) (n + m) (ints (L ++ M)) ∧ w.grownBy w' v.ownBlock ∧
      (∀ g, (Value.slice A (n + m) cap).ownBlock = some g → v.ownBlock = some g ∨ w.heap.size ≤ g) := by
  obtain ⟨i0, hi, hz0, hz1, hz2⟩ := info_parts int_info
  obtain ⟨v', w', hr, h2, h3, h4, h5⟩ := run_append_own_at (P := Try.prog) w base 35 ty 3 i0 _ 1 8 Try.underlying35 hi hz0 hz1 hz2 rfl (by decide) v n (ints L) hown S m c (ints M) (by rw [ints_len, hl, Nat.mul_one]) hk (ints_one M) (by unfold maxLen; omega) (by omega) hbase
  obtain ⟨A, cap, rfl⟩ : ∃ A cap, v' = .slice A (n + m) cap := by
    rcases h2.2 with ⟨rfl, e⟩ | ⟨g, cap, cur, rfl, _⟩
    · exact ⟨none, 0, by rw [e]⟩
    · exact ⟨_, cap, rfl⟩
  exact ⟨A, cap, w', hr, by rw [ints_append]; exact h2, h3, grown_at h5⟩
theorem wpList_append_int {w : World} {ops : Array Oper} {rest : List Oper} {o : Oper} {a : Act} {Q : Exit → Act → World → Prop} (hgd : o.guard = none) (s x : Operand)
    (ho : o.op = .call { callee := .builtin .append, args := #[s, x], argTypes := #[35, 35] }) (base : Nat) (v : Value) (n : Nat) (L : List Nat) (hs : a.eval s = v) (hown : w.ownsRow base 3 1 v n (ints L))
    (S : Addr) (m c : Nat) (M : List Nat) (hx : a.eval x = .slice (some S) m c) (hl : M.length = m) (hk : ∀ j u, (ints M)[j]? = some u → w.cell? (S.add j) = some u) (hm : n + m ≤ 1000000) (hbase : base ≤ w.heap.size)
    (h : ∀ A cap w', w'.ownsRow base 3 1 (.slice A (n + m) cap) (n + m) (ints (L ++ M)) → w.grownBy w' v.ownBlock → (∀ g, (Value.slice A (n + m) cap).ownBlock = some g → v.ownBlock = some g ∨ w.heap.size ≤ g) →
      wpList Try.prog ops Q rest (a.put o.dst (.slice A (n + m) cap)) w') : wpList Try.prog ops Q (o :: rest) a w := by
  refine wpList_plain hgd fun K hK => ?_
  obtain ⟨A, cap, w', hr, h2, h3, h4⟩ := run_append_int (ty := o.type) base v n L hown S m c M hl hk hm hbase
  unfold Oper.wp execOp
  simp only [ho, resolve, invoke, builtin, Sem.run_bind, Sem.run_pure, Result.andThen_ok, List.map_toArray, List.map_cons, List.map_nil, hs, hx, hr]
  exact hK _ _ (h A cap w' h2 h3 h4)
/-- The same, as one operation of a drawn region. -/
theorem wp_append_int {w : World} {o : Oper} {a : Act} {K : Act → World → Prop} {Q : Exit → Act → World → Prop} (s x : Operand)
    (ho : o.op = .call { callee := .builtin .append, args := #[s, x], argTypes := #[35, 35] }) (base : Nat) (v : Value) (n : Nat) (L : List Nat) (hs : a.eval s = v) (hown : w.ownsRow base 3 1 v n (ints L))
    (S : Addr) (m c : Nat) (M : List Nat) (hx : a.eval x = .slice (some S) m c) (hl : M.length = m) (hk : ∀ j u, (ints M)[j]? = some u → w.cell? (S.add j) = some u) (hm : n + m ≤ 1000000) (hbase : base ≤ w.heap.size)
    (h : ∀ A cap w', w'.ownsRow base 3 1 (.slice A (n + m) cap) (n + m) (ints (L ++ M)) → w.grownBy w' v.ownBlock → (∀ g, (Value.slice A (n + m) cap).ownBlock = some g → v.ownBlock = some g ∨ w.heap.size ≤ g) →
      K (a.put o.dst (.slice A (n + m) cap)) w') : o.wp Try.prog a w K Q := by
  obtain ⟨A, cap, w', hr, h2, h3, h4⟩ := run_append_int (ty := o.type) base v n L hown S m c M hl hk hm hbase
  unfold Oper.wp execOp
  simp only [ho, resolve, invoke, builtin, Sem.run_bind, Sem.run_pure, Result.andThen_ok, List.map_toArray, List.map_cons, List.map_nil, hs, hx, hr]
  exact h A cap w' h2 h3 h4

theorem run_append_ln {w : World} {ty : TypeId} (base : Nat) (v : Value) (n : Nat) (L : List Sl) (hown : w.ownsRow base 42 1 v n (L.map Sl.v)) (S : Addr) (m c : Nat) (M : List Sl) (hl : M.length = m) (hk : ∀ j u, (M.map Sl.v)[j]? = some u → w.cell? (S.add j) = some u) (hm : n + m ≤ 1000000) (hbase : base ≤ w.heap.size) :
    ∃ A cap w', (Builtin.append_ #[39, 39] ty #[v, .slice (some S) m c]).run Try.prog w = .ok (.slice A (n + m) cap) w' ∧ w'.ownsRow base 42 1 (.slice A (n + m) cap) (n + m) ((L ++ M).map Sl.v) ∧ w.grownBy w' v.ownBlock ∧
      (∀ g, (Value.slice A (n + m) cap).ownBlock = some g → v.ownBlock = some g ∨ w.heap.size ≤ g) := by
  obtain ⟨i0, hi, hz0, hz1, hz2⟩ := info_parts line_info
  obtain ⟨v', w', hr, h2, h3, h4, h5⟩ := run_append_own_at (P := Try.prog) w base 39 ty 42 i0 _ 1 24 Try.underlying39 hi hz0 hz1 hz2 rfl (by decide) v n (L.map Sl.v) hown S m c (M.map Sl.v) (by rw [List.length_map, hl, Nat.mul_one]) hk (line_one M) (by unfold maxLen; omega) (by omega) hbase
  obtain ⟨A, cap, rfl⟩ : ∃ A cap, v' = .slice A (n + m) cap := by
    rcases h2.2 with ⟨rfl, e⟩ | ⟨g, cap, cur, rfl, _⟩
    · exact ⟨none, 0, by rw [e]⟩
    · exact ⟨_, cap, rfl⟩
  exact ⟨A, cap, w', hr, by rw [List.map_append]; exact h2, h3, grown_at h5⟩
theorem wpList_append_ln {w : World} {ops : Array Oper} {rest : List Oper} {o : Oper} {a : Act} {Q : Exit → Act → World → Prop} (hgd : o.guard = none) (s x : Operand)
    (ho : o.op = .call { callee := .builtin .append, args := #[s, x], argTypes := #[39, 39] }) (base : Nat) (v : Value) (n : Nat) (L : List Sl) (hs : a.eval s = v) (hown : w.ownsRow base 42 1 v n (L.map Sl.v))
    (S : Addr) (m c : Nat) (M : List Sl) (hx : a.eval x = .slice (some S) m c) (hl : M.length = m) (hk : ∀ j u, (M.map Sl.v)[j]? = some u → w.cell? (S.add j) = some u) (hm : n + m ≤ 1000000) (hbase : base ≤ w.heap.size)
    (h : ∀ A cap w', w'.ownsRow base 42 1 (.slice A (n + m) cap) (n + m) ((L ++ M).map Sl.v) → w.grownBy w' v.ownBlock → (∀ g, (Value.slice A (n + m) cap).ownBlock = some g → v.ownBlock = some g ∨ w.heap.size ≤ g) →
      wpList Try.prog ops Q rest (a.put o.dst (.slice A (n + m) cap)) w') : wpList Try.prog ops Q (o :: rest) a w := by
  refine wpList_plain hgd fun K hK => ?_
  obtain ⟨A, cap, w', hr, h2, h3, h4⟩ := run_append_ln (ty := o.type) base v n L hown S m c M hl hk hm hbase
  unfold Oper.wp execOp
  simp only [ho, resolve, invoke, builtin, Sem.run_bind, Sem.run_pure, Result.andThen_ok, List.map_toArray, List.map_cons, List.map_nil, hs, hx, hr]
  exact hK _ _ (h A cap w' h2 h3 h4)
/-- The same, as one operation of a drawn region. -/
theorem wp_append_ln {w : World} {o : Oper} {a : Act} {K : Act → World → Prop} {Q : Exit → Act → World → Prop} (s x : Operand)
    (ho : o.op = .call { callee := .builtin .append, args := #[s, x], argTypes := #[39, 39] }) (base : Nat) (v : Value) (n : Nat) (L : List Sl) (hs : a.eval s = v) (hown : w.ownsRow base 42 1 v n (L.map Sl.v))
    (S : Addr) (m c : Nat) (M : List Sl) (hx : a.eval x = .slice (some S) m c) (hl : M.length = m) (hk : ∀ j u, (M.map Sl.v)[j]? = some u → w.cell? (S.add j) = some u) (hm : n + m ≤ 1000000) (hbase : base ≤ w.heap.size)
    (h : ∀ A cap w', w'.ownsRow base 42 1 (.slice A (n + m) cap) (n + m) ((L ++ M).map Sl.v) → w.grownBy w' v.ownBlock → (∀ g, (Value.slice A (n + m) cap).ownBlock = some g → v.ownBlock = some g ∨ w.heap.size ≤ g) →
      K (a.put o.dst (.slice A (n + m) cap)) w') : o.wp Try.prog a w K Q := by
  obtain ⟨A, cap, w', hr, h2, h3, h4⟩ := run_append_ln (ty := o.type) base v n L hown S m c M hl hk hm hbase
  unfold Oper.wp execOp
  simp only [ho, resolve, invoke, builtin, Sem.run_bind, Sem.run_pure, Result.andThen_ok, List.map_toArray, List.map_cons, List.map_nil, hs, hx, hr]
  exact h A cap w' h2 h3 h4

theorem seg_src {w : World} {g : Nat} (x : Sg) (h : At w g #[.int .i64 (x.st : Int), .int .u64 (x.bo : Int)] 58) : ∀ j u, (flat [x])[j]? = some u → w.cell? ((⟨g, 0, none⟩ : Addr).add j) = some u := by
  intro j u hu
  rw [Addr.add_mid, Nat.zero_add, h.cell]
  rw [show flat [x] = x.cs by simp [flat]] at hu
  rw [← hu]
  simp [Sg.cs]
theorem int_src {w : World} {g : Nat} {z : Int} (p : Nat) (h : At w g #[.int .i64 z] 3) (hz : z = (p : Int) - 1) : ∀ j u, (ints [p])[j]? = some u → w.cell? ((⟨g, 0, none⟩ : Addr).add j) = some u := by
  subst hz
  intro j u hu
  rw [Addr.add_mid, Nat.zero_add, h.cell, ← hu]
  simp [ints]
theorem ln_src {w : World} {g : Nat} (x : Sl) (h : At w g #[.slice x.A x.n x.c] 42) : ∀ j u, (([x] : List Sl).map Sl.v)[j]? = some u → w.cell? ((⟨g, 0, none⟩ : Addr).add j) = some u := by
  intro j u hu
  rw [Addr.add_mid, Nat.zero_add, h.cell, ← hu]
  simp [Sl.v]
theorem Row.src {w : World} {A : Addr} {n : Nat} {vs : List Value} (h : Row w (some A) n vs) : ∀ j u, vs[j]? = some u → w.cell? (A.add j) = some u := h.cells
/-- '!=' of segments. -/
theorem seg_neq_no (k b : Int) (w : World) : (binOp .neq 58 (.agg #[.int .i64 k, .int .u64 b]) (.agg #[.int .i64 k, .int .u64 b])).run Try.prog w = .ok (.bool false) w := by
  simp [go_sem, Try.underlying58, Try.underlying24]
theorem seg_neq_yes {k b k' b' : Int} (h : ¬ (k = k' ∧ b = b')) (w : World) : (binOp .neq 58 (.agg #[.int .i64 k, .int .u64 b]) (.agg #[.int .i64 k', .int .u64 b'])).run Try.prog w = .ok (.bool true) w := by
  simp [go_sem, Try.underlying58, Try.underlying24]
  intro h1 h2
  exact h ⟨h1, h2⟩
end Go.Proofs.Ytlmponcoghfghaa
