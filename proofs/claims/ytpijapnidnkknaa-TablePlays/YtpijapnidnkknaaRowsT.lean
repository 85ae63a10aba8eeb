/-
  ROWS OF SEGMENTS AND OF PLACES; THE WALKS OF Dead, Clear, All AND OF slices.Equal.
-/
import Derived.Test.YtpijapnidnkknaaLoops
import Derived.Deep.CutRange
import Derived.ChangeSame
namespace Go.Proofs.Ytpijapnidnkknaa
open Go.RowKit
set_option linter.unusedVariables false
set_option maxRecDepth 100000


/-- Places, as the model holds them. -/
def ints (L : List Int) : List Value := L.map fun p => Value.int .i64 p
theorem ints_len (L : List Int) : (ints L).length = L.length := by simp [ints]
theorem ints_append (L M : List Int) : ints (L ++ M) = ints L ++ ints M := by simp [ints]
theorem ints_one (L : List Int) : ∀ u ∈ ints L, u.oneCell' = true := by
  intro u hu
  obtain ⟨x, _, rfl⟩ := List.mem_map.mp hu
  rfl
/-- The slice (A, n) holds the ints l. -/
def HasI (w : World) (A : Option Addr) (n : Nat) (l : List Int) : Prop :=
  l.length = n ∧ (0 < n → ∃ b off, A = some ⟨b, off, none⟩ ∧ b < w.heap.size ∧ ∀ k (h : k < l.length), w.cell? ⟨b, off + k, none⟩ = some (.int .i64 l[k]))
theorem HasI.but {S : Nat → Prop} {w w' : World} {A : Option Addr} {n : Nat} {l : List Int} (h : HasI w A n l) (hb : But S w w') (hn : 0 < n → ∀ x, A = some x → ¬ S x.block) : HasI w' A n l :=
  ⟨h.1, fun h0 => by
    obtain ⟨b, off, e, hlt, hc⟩ := h.2 h0
    exact ⟨b, off, e, Nat.lt_of_lt_of_le hlt hb.size, fun k hk => (hb.cell (p := ⟨b, off + k, none⟩) hlt (hn h0 ⟨b, off, none⟩ e)).trans (hc k hk)⟩⟩
theorem HasI.below {w w' : World} {A : Option Addr} {n : Nat} {l : List Int} (h : HasI w A n l) (hb : Below w.heap.size w w') : HasI w' A n l := h.but (S := fun _ => False) (But.of_below hb) (fun _ _ _ h => h)
theorem HasI.of_own {w : World} {base n : Nat} {v : Value} {l : List Int} (h : w.ownsRow base 3 1 v n (ints l)) : ∃ A c, v = .slice A n c ∧ HasI w A n l ∧ (∀ x, A = some x → base ≤ x.block) := by
  have hl : l.length = n := by have := h.1; rw [ints_len] at this; omega
  rcases h.2 with ⟨rfl, hn0⟩ | ⟨g, cap, cur, rfl, hg, hh, hnc, hcm, hcs, htk⟩
  · subst hn0
    exact ⟨none, 0, rfl, ⟨hl, fun h => absurd h (by omega)⟩, fun x e => by cases e⟩
  · refine ⟨some ⟨g, 0, none⟩, cap, rfl, ⟨hl, fun h0 => ⟨g, 0, rfl, (h.lt g rfl).2, fun k hk => ?_⟩⟩, fun x e => by injection e with e; subst e; exact hg⟩
    have := h.cellAt (g := g) (cap := cap) k (by omega)
    rw [Nat.zero_add, this]
    unfold ints
    rw [List.getElem?_map, List.getElem?_eq_getElem hk]
    rfl
theorem HasI.one {w : World} {g : Nat} {i : Int} (h : At w g #[.int .i64 i] 3) : HasI w (some ⟨g, 0, none⟩) 1 [i] :=
  ⟨rfl, fun _ => ⟨g, 0, rfl, h.lt, fun k hk => by
    obtain rfl : k = 0 := by simpa using hk
    exact h.cell 0⟩⟩
theorem HasI.nil (w : World) (A : Option Addr) : HasI w A 0 [] := ⟨rfl, fun h => absurd h (by omega)⟩

/-- The slice (A, n) holds the segments L. -/
def Sgs (w : World) (A : Option Addr) (n : Nat) (L : List Sg) : Prop :=
  L.length = n ∧ (0 < n → ∃ b off, A = some ⟨b, off, none⟩ ∧ b < w.heap.size ∧ ∀ k (h : k < L.length), ∀ j, j < 3 → w.cell? ⟨b, off + k * 3 + j, none⟩ = L[k].ag[j]?)
theorem Sgs.but {S : Nat → Prop} {w w' : World} {A : Option Addr} {n : Nat} {L : List Sg} (h : Sgs w A n L) (hb : But S w w') (hn : 0 < n → ∀ x, A = some x → ¬ S x.block) : Sgs w' A n L :=
  ⟨h.1, fun h0 => by
    obtain ⟨b, off, e, hlt, hc⟩ := h.2 h0
    exact ⟨b, off, e, Nat.lt_of_lt_of_le hlt hb.size, fun k hk j hj => (hb.cell (p := ⟨b, off + k * 3 + j, none⟩) hlt (hn h0 ⟨b, off, none⟩ e)).trans (hc k hk j hj)⟩⟩
theorem Sgs.below {w w' : World} {A : Option Addr} {n : Nat} {L : List Sg} (h : Sgs w A n L) (hb : Below w.heap.size w w') : Sgs w' A n L := h.but (S := fun _ => False) (But.of_below hb) (fun _ _ _ h => h)
theorem Sgs.of_rg {w : World} {r : Nat} {T : List Sg} (h : Rg w r T) : Sgs w (some ⟨r, 0, none⟩) T.length T :=
  ⟨rfl, fun _ => ⟨r, 0, rfl, At.lt h, fun k hk j hj => by rw [Nat.zero_add]; exact h.cell hk j hj⟩⟩
theorem Sgs.of_own {w : World} {B n : Nat} {v : Value} {L : List Sg} (h : w.ownsRow B 33 3 v n (flat L)) : ∃ A c, v = .slice A n c ∧ Sgs w A n L ∧ (∀ x, A = some x → B ≤ x.block) := by
  have hl : L.length = n := by have := h.1; rw [flat_len] at this; omega
  rcases h.2 with ⟨rfl, hn0⟩ | ⟨g, cap, cur, rfl, hg, hh, hnc, hcm, hcs, htk⟩
  · subst hn0
    exact ⟨none, 0, rfl, ⟨hl, fun h => absurd h (by omega)⟩, fun x e => by cases e⟩
  · refine ⟨_, _, rfl, ⟨hl, fun _ => ⟨g, 0, rfl, (h.lt g rfl).2, fun k hk j hj => ?_⟩⟩, fun x e => by injection e with e; subst e; exact hg⟩
    rw [Nat.zero_add, cell_of_row w g _ _ _ _ hh]
    have h1 : (flat L)[k * 3 + j]? = L[k].ag[j]? := by rw [flat_get L k hk j hj, ← ag_list]; simp
    rw [← h1, ← htk, List.getElem?_take, if_pos (by omega)]
    simp
theorem seg_src {w : World} {r : Nat} {T : List Sg} (h : Rg w r T) : ∀ j u, (flat T)[j]? = some u → w.cell? ((⟨r, 0, none⟩ : Addr).add j) = some u := by
  intro j u hu
  rw [Addr.add_mid, Nat.zero_add, At.cell h, List.getElem?_toArray]
  exact hu
theorem int_src {w : World} {g : Nat} {i : Int} (h : At w g #[.int .i64 i] 3) : ∀ j u, (ints [i])[j]? = some u → w.cell? ((⟨g, 0, none⟩ : Addr).add j) = some u := by
  intro j u hu
  rw [Addr.add_mid, Nat.zero_add, h.cell, ← hu]
  simp [ints]
theorem grown_at {w : World} {v : Value} {A : Option Addr} {n cap : Nat} (h : (Value.slice A n cap).ownBlock = v.ownBlock ∨ (Value.slice A n cap).ownBlock = some w.heap.size) : ∀ g, (Value.slice A n cap).ownBlock = some g → v.ownBlock = some g ∨ w.heap.size ≤ g := by
  intro g hg
  rcases h with e | e
  · exact .inl (by rw [← e]; exact hg)
  · rw [e] at hg
    injection hg with hg
    exact .inr (by omega)

theorem run_append_seg {w : World} {ty : TypeId} (base : Nat) (v : Value) (n : Nat) (L : List Sg) (hown : w.ownsRow base 33 3 v n (flat L)) (S : Addr) (m c : Nat) (M : List Sg) (hl : M.length = m) (hk : ∀ j u, (flat M)[j]? = some u → w.cell? (S.add j) = some u) (hm : n + m ≤ 1000000) (hbase : base ≤ w.heap.size) :
    ∃ A cap w', (Builtin.append_ #[26, 26] ty #[v, .slice (some S) m c]).run Try.prog w = .ok (.slice A (n + m) cap) w' ∧ w'.ownsRow base 33 3 (.slice A (n + m) cap) (n + m) (flat (L ++ M)) ∧ w.grownBy w' v.ownBlock ∧
      (∀ g, (Value.slice A (n + m) cap).ownBlock = some g → v.ownBlock = some g ∨ w.heap.size ≤ g) := by
  obtain ⟨i0, hi, hz0, hz1, hz2⟩ := info_parts seg_info
  obtain ⟨v', w', hr, h2, h3, h4, h5⟩ := run_append_own_at (P := Try.prog) w base 26 ty 33 i0 _ 3 24 Try.underlying26 hi hz0 hz1 hz2 rfl (by decide) v n (flat L) hown S m c (flat M) (by rw [flat_len, hl]) hk (flat_one M) (by unfold maxLen; omega) (by omega) hbase
  obtain ⟨A, cap, rfl⟩ : ∃ A cap, v' = .slice A (n + m) cap := by
    rcases h2.2 with ⟨rfl, e⟩ | ⟨g, cap, cur, rfl, _⟩
    · exact ⟨none, 0, by rw [e]⟩
    · exact ⟨_, cap, rfl⟩
  exact ⟨A, cap, w', hr, by rw [flat_append]; exact h2, h3, grown_at h5⟩
theorem wpList_append_seg {w : World} {ops : Array Oper} {rest : List Oper} {o : Oper} {a : Act} {Q : Exit → Act → World → Prop} (hgd : o.guard = none) (s x : Operand)
    (ho : o.op = .call { callee := .builtin .append, args := #[s, x], argTypes := #[26, 26] }) (base : Nat) (v : Value) (n : Nat) (L : List Sg) (hs : a.eval s = v) (hown : w.ownsRow base 33 3 v n (flat L))
    (S : Addr) (m c : Nat) (M : List Sg) (hx : a.eval x = .slice (some S) m c) (hl : M.length = m) (hk : ∀ j u, (flat M)[j]? = some u → w.cell? (S.add j) = some u) (hm : n + m ≤ 1000000) (hbase : base ≤ w.heap.size)
    (h : ∀ A cap w', w'.ownsRow base 33 3 (.slice A (n + m) cap) (n + m) (flat (L ++ M)) → w.grownBy w' v.ownBlock → (∀ g, (Value.slice A (n + m) cap).ownBlock = some g → v.ownBlock = some g ∨ w.heap.size ≤ g) →
      wpList Try.prog ops Q rest (a.put o.dst (.slice A (n + m) cap)) w') : wpList Try.prog ops Q (o :: rest) a w := by
  refine wpList_plain hgd fun K hK => ?_
  obtain ⟨A, cap, w', hr, h2, h3, h4⟩ := run_append_seg (ty := o.type) base v n L hown S m c M hl hk hm hbase
  unfold Oper.wp execOp
  simp only [ho, resolve, invoke, builtin, Sem.run_bind, Sem.run_pure, Result.andThen_ok, List.map_toArray, List.map_cons, List.map_nil, hs, hx, hr]
  exact hK _ _ (h A cap w' h2 h3 h4)
/-- The same, as one operation of a drawn region. -/
theorem wp_append_seg {w : World} {o : Oper} {a : Act} {K : Act → World → Prop} {Q : Exit → Act → World → Prop} (s x : Operand)
    (ho : o.op = .call { callee := .builtin .append, args := #[s, x], argTypes := #[26, 26] }) (base : Nat) (v : Value) (n : Nat) (L : List Sg) (hs : a.eval s = v) (hown : w.ownsRow base 33 3 v n (flat L))
    (S : Addr) (m c : Nat) (M : List Sg) (hx : a.eval x = .slice (some S) m c) (hl : M.length = m) (hk : ∀ j u, (flat M)[j]? = some u → w.cell? (S.add j) = some u) (hm : n + m ≤ 1000000) (hbase : base ≤ w.heap.size)
    (h : ∀ A cap w', w'.ownsRow base 33 3 (.slice A (n + m) cap) (n + m) (flat (L ++ M)) → w.grownBy w' v.ownBlock → (∀ g, (Value.slice A (n + m) cap).ownBlock = some g → v.ownBlock = some g ∨ w.heap.size ≤ g) →
      K (a.put o.dst (.slice A (n + m) cap)) w') : o.wp Try.prog a w K Q := by
  obtain ⟨A, cap, w', hr, h2, h3, h4⟩ := run_append_seg (ty := o.type) base v n L hown S m c M hl hk hm hbase
  unfold Oper.wp execOp
  simp only [ho, resolve, invoke, builtin, Sem.run_bind, Sem.run_pure, Result.andThen_ok, List.map_toArray, List.map_cons, List.map_nil, hs, hx, hr]
  exact h A cap w' h2 h3 h4

theorem run_append_int {w : World} {ty : TypeId} (base : Nat) (v : Value) (n : Nat) (L : List Int) (hown : w.ownsRow base 3 1 v n (ints L)) (S : Addr) (m c : Nat) (M : List Int) (hl : M.length = m) (hk : ∀ j u, (ints M)[j]? = some u → w.cell? (S.add j) = some u) (hm : n + m ≤ 1000000) (hbase : base ≤ w.heap.size) :
    ∃ A cap w', (Builtin.append_ #[46, 46] ty #[v, .slice (some S) m c]).run Try.prog w = .ok (.slice A (n + m) cap) w' ∧ w'.ownsRow base 3 1 (.slice A (n + m) cap) (n + m) (ints (L ++ M)) ∧ w.grownBy w' v.ownBlock ∧
      (∀ g, (Value.slice A (n + m) cap).ownBlock = some g → v.ownBlock = some g ∨ w.heap.size ≤ g) := by
  obtain ⟨i0, hi, hz0, hz1, hz2⟩ := info_parts int_info
  obtain ⟨v', w', hr, h2, h3, h4, h5⟩ := run_append_own_at (P := Try.prog) w base 46 ty 3 i0 _ 1 8 Try.underlying46 hi hz0 hz1 hz2 rfl (by decide) v n (ints L) hown S m c (ints M) (by rw [ints_len, hl, Nat.mul_one]) hk (ints_one M) (by unfold maxLen; omega) (by omega) hbase
  obtain ⟨A, cap, rfl⟩ : ∃ A cap, v' = .slice A (n + m) cap := by
    rcases h2.2 with ⟨rfl, e⟩ | ⟨g, cap, cur, rfl, _⟩
    · exact ⟨none, 0, by rw [e]⟩
    · exact ⟨_, cap, rfl⟩
  exact ⟨A, cap, w', hr, by rw [ints_append]; exact h2, h3, grown_at h5⟩
theorem wpList_append_int {w : World} {ops : Array Oper} {rest : List Oper} {o : Oper} {a : Act} {Q : Exit → Act → World → Prop} (hgd : o.guard = none) (s x : Operand)
    (ho : o.op = .call { callee := .builtin .append, args := #[s, x], argTypes := #[46, 46] }) (base : Nat) (v : Value) (n : Nat) (L : List Int) (hs : a.eval s = v) (hown : w.ownsRow base 3 1 v n (ints L))
    (S : Addr) (m c : Nat) (M : List Int) (hx : a.eval x = .slice (some S) m c) (hl : M.length = m) (hk : ∀ j u, (ints M)[j]? = some u → w.cell? (S.add j) = some u) (hm : n + m ≤ 1000000) (hbase : base ≤ w.heap.size)
    (h : ∀ A cap w', w'.ownsRow base 3 1 (.slice A (n + m) cap) (n + m) (ints (L ++ M)) → w.grownBy w' v.ownBlock → (∀ g, (Value.slice A (n + m) cap).ownBlock = some g → v.ownBlock = some g ∨ w.heap.size ≤ g) →
      wpList Try.prog ops Q rest (a.put o.dst (.slice A (n + m) cap)) w') : wpList Try.prog ops Q (o :: rest) a w := by
  refine wpList_plain hgd fun K hK => ?_
  obtain ⟨A, cap, w', hr, h2, h3, h4⟩ := run_append_int (ty := o.type) base v n L hown S m c M hl hk hm hbase
  unfold Oper.wp execOp
  simp only [ho, resolve, invoke, builtin, Sem.run_bind, Sem.run_pure, Result.andThen_ok, List.map_toArray, List.map_cons, List.map_nil, hs, hx, hr]
  exact hK _ _ (h A cap w' h2 h3 h4)
/-- The same, as one operation of a drawn region. -/
theorem wp_append_int {w : World} {o : Oper} {a : Act} {K : Act → World → Prop} {Q : Exit → Act → World → Prop} (s x : Operand)
    (ho : o.op = .call { callee := .builtin .append, args := #[s, x], argTypes := #[46, 46] }) (base : Nat) (v : Value) (n : Nat) (L : List Int) (hs : a.eval s = v) (hown : w.ownsRow base 3 1 v n (ints L))
    (S : Addr) (m c : Nat) (M : List Int) (hx : a.eval x = .slice (some S) m c) (hl : M.length = m) (hk : ∀ j u, (ints M)[j]? = some u → w.cell? (S.add j) = some u) (hm : n + m ≤ 1000000) (hbase : base ≤ w.heap.size)
    (h : ∀ A cap w', w'.ownsRow base 3 1 (.slice A (n + m) cap) (n + m) (ints (L ++ M)) → w.grownBy w' v.ownBlock → (∀ g, (Value.slice A (n + m) cap).ownBlock = some g → v.ownBlock = some g ∨ w.heap.size ≤ g) →
      K (a.put o.dst (.slice A (n + m) cap)) w') : o.wp Try.prog a w K Q := by
  obtain ⟨A, cap, w', hr, h2, h3, h4⟩ := run_append_int (ty := o.type) base v n L hown S m c M hl hk hm hbase
  unfold Oper.wp execOp
  simp only [ho, resolve, invoke, builtin, Sem.run_bind, Sem.run_pure, Result.andThen_ok, List.map_toArray, List.map_cons, List.map_nil, hs, hx, hr]
  exact h A cap w' h2 h3 h4

/-- '!=' and '==' of segments. -/
theorem seg_neq_no (a b c : Int) (w : World) : (binOp .neq 33 (.agg #[.int .i64 a, .int .i64 b, .int .u64 c]) (.agg #[.int .i64 a, .int .i64 b, .int .u64 c])).run Try.prog w = .ok (.bool false) w := by
  simp [go_sem, Try.underlying33, Try.underlying31, Try.underlying3, Try.underlying28]
theorem seg_eql_yes (a b c : Int) (w : World) : (binOp .eql 33 (.agg #[.int .i64 a, .int .i64 b, .int .u64 c]) (.agg #[.int .i64 a, .int .i64 b, .int .u64 c])).run Try.prog w = .ok (.bool true) w := by
  simp [go_sem, Try.underlying33, Try.underlying31, Try.underlying3, Try.underlying28]

set_option maxHeartbeats 400000 in
theorem equalS_yes (A B : Option Addr) (n c d : Nat) (L : List Sg) (w : World) (hn : n ≤ 1000000) (h : Sgs w A n L) (g : Sgs w B n L) :
    Calls Try.prog 21 #[.slice A n c, .slice B n d] w (Quiet (.bool true) w) := by
  have H := Lib.hid h
  have G := Lib.hid g
  clear h g
  go_enter Try.func21, Try.ntmps21
  go_wp2
  go_loopw [13] (fun i wr => ∃ j q : Nat, j ≤ n ∧ i = .int .i64 j ∧ wr = w.drewN q) (fun i _ => n - (RowKit.intOf i).toNat)
  case atStart => exact ⟨0, 0, Nat.zero_le _, rfl, rfl⟩
  case round =>
    obtain ⟨j, q, hj, rfl, rfl⟩ := hrel
    by_cases hlt : j < n
    · obtain ⟨b, off, rfl, _, hc⟩ := H.out.2 (by omega)
      obtain ⟨b2, off2, rfl, _, hd⟩ := G.out.2 (by omega)
      have hjl : j < L.length := by rw [H.out.1]; exact hlt
      have hc := hc j hjl
      have hd := hd j hjl
      generalize L[j] = x at hc hd
      obtain ⟨xs, xl, xb⟩ := x
      have c0 : w.cell? ⟨b, off + j * 3, none⟩ = some (.int .i64 xs) := hc 0 (by omega)
      have c1 : w.cell? ⟨b, off + j * 3 + 1, none⟩ = some (.int .i64 xl) := hc 1 (by omega)
      have c2 : w.cell? ⟨b, off + j * 3 + 2, none⟩ = some (.int .u64 xb) := hc 2 (by omega)
      have d0 : w.cell? ⟨b2, off2 + j * 3, none⟩ = some (.int .i64 xs) := hd 0 (by omega)
      have d1 : w.cell? ⟨b2, off2 + j * 3 + 1, none⟩ = some (.int .i64 xl) := hd 1 (by omega)
      have d2 : w.cell? ⟨b2, off2 + j * 3 + 2, none⟩ = some (.int .u64 xb) := hd 2 (by omega)
      clear hc hd
      have hq := fun w => seg_neq_no xs xl xb w
      go_wp2
      go_quiet (fail)
      go_wp2
      go_roundw
      case rel => exact ⟨j + 1, _, by omega, by go_num, rfl⟩
      case measure => simp [RowKit.intOf]; omega
    · have e : j = n := by omega
      subst e
      go_wp2
      go_ret
      exact ⟨rfl, _, rfl⟩
set_option maxHeartbeats 400000 in
theorem equalI_yes (A B : Option Addr) (n c d : Nat) (l : List Int) (w : World) (hn : n ≤ 1000000) (h : HasI w A n l) (g : HasI w B n l) :
    Calls Try.prog 22 #[.slice A n c, .slice B n d] w (Quiet (.bool true) w) := by
  have H := Lib.hid h
  have G := Lib.hid g
  clear h g
  go_enter Try.func22, Try.ntmps22
  go_wp2
  go_loopw [13] (fun i wr => ∃ j q : Nat, j ≤ n ∧ i = .int .i64 j ∧ wr = w.drewN q) (fun i _ => n - (RowKit.intOf i).toNat)
  case atStart => exact ⟨0, 0, Nat.zero_le _, rfl, rfl⟩
  case round =>
    obtain ⟨j, q, hj, rfl, rfl⟩ := hrel
    by_cases hlt : j < n
    · obtain ⟨b, off, rfl, _, hc⟩ := H.out.2 (by omega)
      obtain ⟨b2, off2, rfl, _, hc2⟩ := G.out.2 (by omega)
      have hjl : j < l.length := by rw [H.out.1]; omega
      have hc := hc j hjl
      have hc2 := hc2 j hjl
      generalize l[j] = X at hc hc2
      go_wp2
      go_quiet (fail)
      go_wp2
      go_roundw
      case rel => exact ⟨j + 1, _, by omega, by go_num, rfl⟩
      case measure => simp [RowKit.intOf]; omega
    · have e : j = n := by omega
      subst e
      go_wp2
      go_ret
      exact ⟨rfl, _, rfl⟩
end Go.Proofs.Ytpijapnidnkknaa
