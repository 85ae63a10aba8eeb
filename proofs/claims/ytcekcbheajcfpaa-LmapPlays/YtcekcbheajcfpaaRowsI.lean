/-
  ROWS OF PLACES; append of one; THE WALKS OF slices.Equal, All, Within.
-/
import Derived.Test.YtcekcbheajcfpaaNew
import Derived.Deep.CutRange
import Derived.ChangeSame
namespace Go.Proofs.Ytcekcbheajcfpaa
open Go.RowKit
set_option linter.unusedVariables false
set_option maxRecDepth 100000

/-- The slice (A, n) holds the ints l. -/
def HasI (w : World) (A : Option Addr) (n : Nat) (l : List Int) : Prop :=
  l.length = n ∧ (0 < n → ∃ b off, A = some ⟨b, off, none⟩ ∧ b < w.heap.size ∧ ∀ k (h : k < l.length), w.cell? ⟨b, off + k, none⟩ = some (.int .i64 l[k]))
theorem HasI.but {S : Nat → Prop} {w w' : World} {A : Option Addr} {n : Nat} {l : List Int} (h : HasI w A n l) (hb : But S w w') (hn : 0 < n → ∀ x, A = some x → ¬ S x.block) : HasI w' A n l :=
  ⟨h.1, fun h0 => by
    obtain ⟨b, off, e, hlt, hc⟩ := h.2 h0
    exact ⟨b, off, e, Nat.lt_of_lt_of_le hlt hb.size, fun k hk => (hb.cell (p := ⟨b, off + k, none⟩) hlt (hn h0 ⟨b, off, none⟩ e)).trans (hc k hk)⟩⟩
theorem HasI.below {w w' : World} {A : Option Addr} {n : Nat} {l : List Int} (h : HasI w A n l) (hb : Below w.heap.size w w') : HasI w' A n l := h.but (S := fun _ => False) (But.of_below hb) (fun _ _ _ h => h)
theorem HasI.of_own {w : World} {base n : Nat} {v : Value} {l : List Int} (h : w.ownsRow base 3 1 v n (ints l)) : ∃ A c, v = .slice A n c ∧ HasI w A n l ∧ (∀ x, A = some x → base ≤ x.block) := by
  have hl : l.length = n := by have := h.1; rw [ints_len] at this; omega
  rcases h.2 with ⟨rfl, hn0⟩ | ⟨g, cap, cur, rfl, hg, hh, hnc, hcm, hcs, htk⟩
  · subst hn0
    exact ⟨none, 0, rfl, ⟨hl, fun h => absurd h (by omega)⟩, fun x e => by cases e⟩
  · refine ⟨some ⟨g, 0, none⟩, cap, rfl, ⟨hl, fun h0 => ⟨g, 0, rfl, (h.lt g rfl).2, fun k hk => ?_⟩⟩, fun x e => by injection e with e; subst e; exact hg⟩
    have := h.cellAt (g := g) (cap := cap) k (by omega)
    rw [Nat.zero_add, this]
    unfold ints
    rw [List.getElem?_map, List.getElem?_eq_getElem hk]
    rfl
theorem HasI.one {w : World} {g : Nat} {i : Int} (h : At w g #[.int .i64 i] 3) : HasI w (some ⟨g, 0, none⟩) 1 [i] :=
  ⟨rfl, fun _ => ⟨g, 0, rfl, h.lt, fun k hk => by
    obtain rfl : k = 0 := by simpa using hk
    exact h.cell 0⟩⟩
theorem HasI.nil (w : World) (A : Option Addr) : HasI w A 0 [] := ⟨rfl, fun h => absurd h (by omega)⟩

theorem int_src {w : World} {g : Nat} {i : Int} (h : At w g #[.int .i64 i] 3) : ∀ j u, (ints [i])[j]? = some u → w.cell? ((⟨g, 0, none⟩ : Addr).add j) = some u := by
  intro j u hu
  rw [Addr.add_mid, Nat.zero_add, h.cell, ← hu]
  simp [ints]
theorem grown_at {w : World} {v : Value} {A : Option Addr} {n cap : Nat} (h : (Value.slice A n cap).ownBlock = v.ownBlock ∨ (Value.slice A n cap).ownBlock = some w.heap.size) : ∀ g, (Value.slice A n cap).ownBlock = some g → v.ownBlock = some g ∨ w.heap.size ≤ g := by
  intro g hg
  rcases h with e | e
  · exact .inl (by rw [← e]; exact hg)
  · rw [e] at hg
    injection hg with hg
    exact .inr (by omega)

theorem run_append_int {w : World} {ty : TypeId} (base : Nat) (v : Value) (n : Nat) (L : List Int) (hown : w.ownsRow base 3 1 v n (ints L)) (S : Addr) (m c : Nat) (M : List Int) (hl : M.length = m) (hk : ∀ j u, (ints M)[j]? = some u → w.cell? (S.add j) = some u) (hm : n + m ≤ 2000000) (hbase : base ≤ w.heap.size) :
    ∃ A cap w', (Builtin.append_ #[26, 26] ty #[v, .slice (some S) m c]).run Try.prog w = .ok (.slice A (n + m) cap) w' ∧ w'.ownsRow base 3 1 (.slice A (n + m) cap) (n + m) (ints (L ++ M)) ∧ w.grownBy w' v.ownBlock ∧
      (∀ g, (Value.slice A (n + m) cap).ownBlock = some g → v.ownBlock = some g ∨ w.heap.size ≤ g) := by
  obtain ⟨i0, hi, hz0, hz1, hz2⟩ := info_parts int_info
  obtain ⟨v', w', hr, h2, h3, h4, h5⟩ := run_append_own_at (P := Try.prog) w base 26 ty 3 i0 _ 1 8 Try.underlying26 hi hz0 hz1 hz2 rfl (by decide) v n (ints L) hown S m c (ints M) (by rw [ints_len, hl, Nat.mul_one]) hk (ints_one M) (by unfold maxLen; omega) (by omega) hbase
  obtain ⟨A, cap, rfl⟩ : ∃ A cap, v' = .slice A (n + m) cap := by
    rcases h2.2 with ⟨rfl, e⟩ | ⟨g, cap, cur, rfl, _⟩
    · exact ⟨none, 0, by rw [e]⟩
    · exact ⟨_, cap, rfl⟩
  exact ⟨A, cap, w', hr, by rw [ints_append]; exact h2, h3, grown_at h5⟩
theorem wpList_append_int {w : World} {ops : Array Oper} {rest : List Oper} {o : Oper} {a : Act} {Q : Exit → Act → World → Prop} (hgd : o.guard = none) (s x : Operand)
    (ho : o.op = .call { callee := .builtin .append, args := #[s, x], argTypes := #[26, 26] }) (base : Nat) (v : Value) (n : Nat) (L : List Int) (hs : a.eval s = v) (hown : w.ownsRow base 3 1 v n (ints L))
    (S : Addr) (m c : Nat) (M : List Int) (hx : a.eval x = .slice (some S) m c) (hl : M.length = m) (hk : ∀ j u, (ints M)[j]? = some u → w.cell? (S.add j) = some u) (hm : n + m ≤ 2000000) (hbase : base ≤ w.heap.size)
    (h : ∀ A cap w', w'.ownsRow base 3 1 (.slice A (n + m) cap) (n + m) (ints (L ++ M)) → w.grownBy w' v.ownBlock → (∀ g, (Value.slice A (n + m) cap).ownBlock = some g → v.ownBlock = some g ∨ w.heap.size ≤ g) →
      wpList Try.prog ops Q rest (a.put o.dst (.slice A (n + m) cap)) w') : wpList Try.prog ops Q (o :: rest) a w := by
  refine wpList_plain hgd fun K hK => ?_
  obtain ⟨A, cap, w', hr, h2, h3, h4⟩ := run_append_int (ty := o.type) base v n L hown S m c M hl hk hm hbase
  unfold Oper.wp execOp
  simp only [ho, resolve, invoke, builtin, Sem.run_bind, Sem.run_pure, Result.andThen_ok, List.map_toArray, List.map_cons, List.map_nil, hs, hx, hr]
  exact hK _ _ (h A cap w' h2 h3 h4)
set_option maxHeartbeats 400000 in
theorem equalI_yes (A B : Option Addr) (n c d : Nat) (l : List Int) (w : World) (hn : n ≤ 2000000) (h : HasI w A n l) (g : HasI w B n l) :
    Calls Try.prog 16 #[.slice A n c, .slice B n d] w (Quiet (.bool true) w) := by
  have H := Lib.hid h
  have G := Lib.hid g
  clear h g
  go_enter Try.func16, Try.ntmps16
  go_wp2
  go_loopw [13] (fun i wr => ∃ j q : Nat, j ≤ n ∧ i = .int .i64 j ∧ wr = w.drewN q) (fun i _ => n - (RowKit.intOf i).toNat)
  case atStart => exact ⟨0, 0, Nat.zero_le _, rfl, rfl⟩
  case round =>
    obtain ⟨j, q, hj, rfl, rfl⟩ := hrel
    by_cases hlt : j < n
    · obtain ⟨b, off, rfl, _, hc⟩ := H.out.2 (by omega)
      obtain ⟨b2, off2, rfl, _, hc2⟩ := G.out.2 (by omega)
      have hjl : j < l.length := by rw [H.out.1]; omega
      have hc := hc j hjl
      have hc2 := hc2 j hjl
      generalize l[j] = X at hc hc2
      go_wp2
      go_quiet (fail)
      go_wp2
      go_roundw
      case rel => exact ⟨j + 1, _, by omega, by go_num, rfl⟩
      case measure => simp [RowKit.intOf]; omega
    · have e : j = n := by omega
      subst e
      go_wp2
      go_ret
      exact ⟨rfl, _, rfl⟩

theorem HasI.of_at {w : World} {g : Nat} {l : List Int} (h : At w g (ints l).toArray 3) : HasI w (some ⟨g, 0, none⟩) l.length l :=
  ⟨rfl, fun _ => ⟨g, 0, rfl, h.lt, fun k hk => by rw [Nat.zero_add, h.cell, List.getElem?_toArray, ints_get hk]⟩⟩
theorem own_below {w w' : World} {base n : Nat} {e : TypeId} {size : Nat} {v : Value} {xs : List Value} (h : w.ownsRow base e size v n xs) (hb : Below w.heap.size w w') : w'.ownsRow base e size v n xs := own_but (S := fun _ => False) h (But.of_below hb) (fun _ _ h => h)
end Go.Proofs.Ytcekcbheajcfpaa
