/-
  TEXTS JOINED: L13New, L13RowsI, L13Lists, L7Mem, L7Foot, L7Tick, L7Run.
-/
import Derived.Test.YtplmdmchkaacoaaGreatJ25
import Derived.Test.YtplmdmchkaacoaaGreatJ20
import Derived.Test.YtplmdmchkaacoaaGreatJ22
import Derived.Deep.CutRange
import Derived.ChangeSame
import Derived.Test.YtplmdmchkaacoaaGreatRows
import Derived.WalkKit
import Derived.ProofKit
import Derived.Laws.OwnMore
import Derived.Deep.Draws
import Derived.Laws.Rows
import Derived.Lib.Hide
import Derived.Lib.SliceRun
import Derived.BigQuiet
import Derived.Deep.QuietTactic
import Derived.Deep.AppendLies
import Derived.Maps.AppendAt
import Derived.Laws.AppendOwnNone
import Derived.Laws.CopyOwn
import Derived.Defers
import Derived.Recover
import Derived.WalkLawsBesides

/-
  THE WALKS OF New, Pages, Many.
-/
namespace Go.Proofs.YtplmdmchkaacoaaGreat.L13
open Go.RowKit
set_option linter.unusedVariables false
set_option maxRecDepth 100000


theorem ptr_info : (Tryz.prog.info? 154).map (fun i => (i.zero, i.size, i.bytes)) = some (some (.pointer none), 1, 8) := by kernel_rfl
theorem int_info : (Tryz.prog.info? 3).map (fun i => (i.zero, i.size, i.bytes)) = some (some (.int .i64 0), 1, 8) := by kernel_rfl
theorem ptrs_none (m : Nat) : (madeCells (Value.pointer none).cells (m * 1)).toList = (List.replicate m (none : Option Nat)).map ptr := by
  apply List.ext_getElem?
  intro k
  rw [List.getElem?_map, List.getElem?_replicate]
  rcases Nat.lt_or_ge k m with h | h
  · rw [if_pos h]
    simp [madeCells, h, Value.cells, ptr, Nat.mod_one]
  · rw [if_neg (by omega), List.getElem?_eq_none (by rw [Array.length_toList, size_madeCells]; omega)]
    rfl
/-- A row that is made full. -/
theorem made_ptrs {w w1 : World} {n : Nat} (h : w1.ownsRow w.heap.size 154 1 (.slice (some ⟨w.heap.size, 0, none⟩) n n) n (madeCells (Value.pointer none).cells (n * 1)).toList) : At w1 w.heap.size ((List.replicate n (none : Option Nat)).map ptr).toArray 154 := by
  rcases h.2 with ⟨e, _⟩ | ⟨g, cap, cur, e, _, hh, _, _, hs, ht⟩
  · cases e
  · injection e with e1 _ e2
    injection e1 with e1
    injection e1 with e1
    subst e1 e2
    unfold At
    rw [hh]
    congr 2
    apply Array.ext'
    rw [List.take_of_length_le (by simp [hs])] at ht
    rw [ht, ptrs_none]

set_option maxHeartbeats 800000 in
theorem new_any (z : Int) (n : Nat) (w : World) (hn : (n : Int) = min (max z 0) 1048576) : Calls Tryz.prog 105 #[.int .i64 z] w fun e w' => ∃ g, e = .returned (.pointer (some ⟨g, 0, none⟩)) ∧ Lm w' (fun k => w.heap.size ≤ k) g n (fun _ => -1) (fun _ => false) ∧ Below w.heap.size w w' := by
  obtain ⟨i0, hi, hz0, hz1, hz2⟩ := info_parts ptr_info
  obtain ⟨M, hM⟩ : ∃ M, M = max z 0 := ⟨_, rfl⟩
  have hmax := fun (w : World) => run_max2 (P := Tryz.prog) w #[3, 3] 3 z 0 M hM
  have hmin := fun (w : World) => run_min2 (P := Tryz.prog) w #[3, 3] 3 M 1048576 n (by omega)
  have hn2 : n ≤ 1048576 := by omega
  obtain ⟨m, hm⟩ : ∃ m, m = (n + 15) / 16 := ⟨_, rfl⟩
  have HM := Lib.hid hm
  have hml : ((n : Int) + 16 - 1) / 16 = (m : Int) := by omega
  have hm2 : m ≤ 65536 := by omega
  clear hn hM hm
  go_enter Tryz.func105, Tryz.ntmps105
  go_wp2_with (at_make; refine wpList_make_full _ rfl (.tmp 11) (.tmp 11) 155 rfl w.heap.size 154 i0 (.pointer none) 1 Tryz.underlying155 hi hz0 hz1 .i64 .i64 m m m (by simp [Act.eval, hml]) (by simp [Act.eval, hml]) rfl rfl (by rw [hz2]; omega) (by unfold maxLen; omega) (Nat.le_refl _) ?_; intro w1 hown1 hg1)
  have R := made_ptrs hown1
  have B := (Below.refl w.heap.size w).grown hg1 (Nat.le_refl _) (by simp)
  go_ret
  have none_some : ∀ (i p : Nat), ¬ (List.replicate m (none : Option Nat))[i]? = some (some p) := by
    intro i p h
    rw [List.getElem?_replicate] at h
    split at h <;> simp at h
  refine ⟨w1.heap.size, rfl, ⟨w.heap.size, List.replicate m none, ⟨?_, At.alloc R _, by rw [List.length_replicate]; exact HM.out, hn2, fun i p h => absurd h (none_some i p), fun _ _ _ _ => rfl, fun i j p h => absurd h (none_some i p), fun _ _ => rfl, fun _ => by omega⟩, ?_, ?_⟩, B.alloc B.size _⟩
  · rw [List.length_replicate]
    exact At.new _ _ rfl
  · rintro k (rfl | rfl | ⟨i, h⟩)
    · exact B.size
    · exact Nat.le_refl _
    · exact absurd h (none_some i k)
  · funext j
    unfold made
    rw [List.getElem?_replicate]
    split <;> rename_i h
    · split at h <;> simp at h
    · rfl

/-- How many of the first m pages are made. -/
def pages (A : Nat → Bool) (m : Nat) : Nat := ((List.range m).filter A).length
theorem pages_le (A : Nat → Bool) (m : Nat) : pages A m ≤ m := Nat.le_trans (List.length_filter_le _ _) (by simp)
theorem pages_yes {A : Nat → Bool} {m : Nat} (h : A m = true) : pages A (m + 1) = pages A m + 1 := by
  unfold pages
  rw [List.range_succ, List.filter_append, List.length_append]
  simp [h]
theorem pages_no {A : Nat → Bool} {m : Nat} (h : A m = false) : pages A (m + 1) = pages A m := by
  unfold pages
  rw [List.range_succ, List.filter_append, List.length_append]
  simp [h]

section
variable {w : World} {g r n : Nat} {Q : List (Option Nat)} {V : Nat → Int}
end
section
variable {w : World} {T : Nat → Prop} {g n : Nat} {V : Nat → Int} {A : Nat → Bool}
end

/-- How many of the first k blocks lie somewhere. -/
def many (V : Nat → Int) (k : Nat) : Nat := ((List.range k).filter fun j => V j != -1).length
theorem many_le (V : Nat → Int) (k : Nat) : many V k ≤ k := Nat.le_trans (List.length_filter_le _ _) (by simp)
theorem many_yes {V : Nat → Int} {k : Nat} (h : ¬ V k = -1) : many V (k + 1) = many V k + 1 := by
  unfold many
  rw [List.range_succ, List.filter_append, List.length_append]
  simp [h]
theorem many_no {V : Nat → Int} {k : Nat} (h : V k = -1) : many V (k + 1) = many V k := by
  unfold many
  rw [List.range_succ, List.filter_append, List.length_append]
  simp [h]
theorem many_same {V : Nat → Int} {k : Nat} : ∀ m, (∀ j, k ≤ j → j < k + m → V j = -1) → many V (k + m) = many V k
  | 0, _ => rfl
  | m + 1, h => by
    rw [← Nat.add_assoc, many_no (h (k + m) (by omega) (by omega))]
    exact many_same m (fun j h1 h2 => h j h1 (by omega))

section
variable {w : World} {g r n : Nat} {Q : List (Option Nat)} {V : Nat → Int}
end
section
variable {w : World} {T : Nat → Prop} {g n : Nat} {V : Nat → Int} {A : Nat → Bool}
end
end Go.Proofs.YtplmdmchkaacoaaGreat.L13

/-
  ROWS OF PLACES; append of one; THE WALKS OF slices.Equal, All, Within.
-/
namespace Go.Proofs.YtplmdmchkaacoaaGreat.L13
open Go.RowKit
set_option linter.unusedVariables false
set_option maxRecDepth 100000

/-- The slice (A, n) holds the ints l. -/
def HasI (w : World) (A : Option Addr) (n : Nat) (l : List Int) : Prop :=
  l.length = n ∧ (0 < n → ∃ b off, A = some ⟨b, off, none⟩ ∧ b < w.heap.size ∧ ∀ k (h : k < l.length), w.cell? ⟨b, off + k, none⟩ = some (.int .i64 l[k]))
theorem HasI.but {S : Nat → Prop} {w w' : World} {A : Option Addr} {n : Nat} {l : List Int} (h : HasI w A n l) (hb : But S w w') (hn : 0 < n → ∀ x, A = some x → ¬ S x.block) : HasI w' A n l :=
  ⟨h.1, fun h0 => by
    obtain ⟨b, off, e, hlt, hc⟩ := h.2 h0
    exact ⟨b, off, e, Nat.lt_of_lt_of_le hlt hb.size, fun k hk => (hb.cell (p := ⟨b, off + k, none⟩) hlt (hn h0 ⟨b, off, none⟩ e)).trans (hc k hk)⟩⟩
theorem HasI.below {w w' : World} {A : Option Addr} {n : Nat} {l : List Int} (h : HasI w A n l) (hb : Below w.heap.size w w') : HasI w' A n l := h.but (S := fun _ => False) (But.of_below hb) (fun _ _ _ h => h)
theorem HasI.of_own {w : World} {base n : Nat} {v : Value} {l : List Int} (h : w.ownsRow base 3 1 v n (ints l)) : ∃ A c, v = .slice A n c ∧ HasI w A n l ∧ (∀ x, A = some x → base ≤ x.block) := by
  have hl : l.length = n := by have := h.1; rw [ints_len] at this; omega
  rcases h.2 with ⟨rfl, hn0⟩ | ⟨g, cap, cur, rfl, hg, hh, hnc, hcm, hcs, htk⟩
  · subst hn0
    exact ⟨none, 0, rfl, ⟨hl, fun h => absurd h (by omega)⟩, fun x e => by cases e⟩
  · refine ⟨some ⟨g, 0, none⟩, cap, rfl, ⟨hl, fun h0 => ⟨g, 0, rfl, (h.lt g rfl).2, fun k hk => ?_⟩⟩, fun x e => by injection e with e; subst e; exact hg⟩
    have := h.cellAt (g := g) (cap := cap) k (by omega)
    rw [Nat.zero_add, this]
    unfold ints
    rw [List.getElem?_map, List.getElem?_eq_getElem hk]
    rfl
theorem HasI.one {w : World} {g : Nat} {i : Int} (h : At w g #[.int .i64 i] 3) : HasI w (some ⟨g, 0, none⟩) 1 [i] :=
  ⟨rfl, fun _ => ⟨g, 0, rfl, h.lt, fun k hk => by
    obtain rfl : k = 0 := by simpa using hk
    exact h.cell 0⟩⟩
theorem HasI.nil (w : World) (A : Option Addr) : HasI w A 0 [] := ⟨rfl, fun h => absurd h (by omega)⟩

theorem int_src {w : World} {g : Nat} {i : Int} (h : At w g #[.int .i64 i] 3) : ∀ j u, (ints [i])[j]? = some u → w.cell? ((⟨g, 0, none⟩ : Addr).add j) = some u := by
  intro j u hu
  rw [Addr.add_mid, Nat.zero_add, h.cell, ← hu]
  simp [ints]
theorem grown_at {w : World} {v : Value} {A : Option Addr} {n cap : Nat} (h : (Value.slice A n cap).ownBlock = v.ownBlock ∨ (Value.slice A n cap).ownBlock = some w.heap.size) : ∀ g, (Value.slice A n cap).ownBlock = some g → v.ownBlock = some g ∨ w.heap.size ≤ g := by
  intro g hg
  rcases h with e | e
  · exact .inl (by rw [← e]; exact hg)
  · rw [e] at hg
    injection hg with hg
    exact .inr (by omega)

theorem run_append_int {w : World} {ty : TypeId} (base : Nat) (v : Value) (n : Nat) (L : List Int) (hown : w.ownsRow base 3 1 v n (ints L)) (S : Addr) (m c : Nat) (M : List Int) (hl : M.length = m) (hk : ∀ j u, (ints M)[j]? = some u → w.cell? (S.add j) = some u) (hm : n + m ≤ 2000000) (hbase : base ≤ w.heap.size) :
    ∃ A cap w', (Builtin.append_ #[51, 51] ty #[v, .slice (some S) m c]).run Tryz.prog w = .ok (.slice A (n + m) cap) w' ∧ w'.ownsRow base 3 1 (.slice A (n + m) cap) (n + m) (ints (L ++ M)) ∧ w.grownBy w' v.ownBlock ∧
      (∀ g, (Value.slice A (n + m) cap).ownBlock = some g → v.ownBlock = some g ∨ w.heap.size ≤ g) := by
  obtain ⟨i0, hi, hz0, hz1, hz2⟩ := info_parts int_info
  obtain ⟨v', w', hr, h2, h3, h4, h5⟩ := run_append_own_at (P := Tryz.prog) w base 51 ty 3 i0 _ 1 8 Tryz.underlying51 hi hz0 hz1 hz2 rfl (by decide) v n (ints L) hown S m c (ints M) (by rw [ints_len, hl, Nat.mul_one]) hk (ints_one M) (by unfold maxLen; omega) (by omega) hbase
  obtain ⟨A, cap, rfl⟩ : ∃ A cap, v' = .slice A (n + m) cap := by
    rcases h2.2 with ⟨rfl, e⟩ | ⟨g, cap, cur, rfl, _⟩
    · exact ⟨none, 0, by rw [e]⟩
    · exact ⟨_, cap, rfl⟩
  exact ⟨A, cap, w', hr, by rw [ints_append]; exact h2, h3, grown_at h5⟩
theorem wpList_append_int {w : World} {ops : Array Oper} {rest : List Oper} {o : Oper} {a : Act} {Q : Exit → Act → World → Prop} (hgd : o.guard = none) (s x : Operand)
    (ho : o.op = .call { callee := .builtin .append, args := #[s, x], argTypes := #[51, 51] }) (base : Nat) (v : Value) (n : Nat) (L : List Int) (hs : a.eval s = v) (hown : w.ownsRow base 3 1 v n (ints L))
    (S : Addr) (m c : Nat) (M : List Int) (hx : a.eval x = .slice (some S) m c) (hl : M.length = m) (hk : ∀ j u, (ints M)[j]? = some u → w.cell? (S.add j) = some u) (hm : n + m ≤ 2000000) (hbase : base ≤ w.heap.size)
    (h : ∀ A cap w', w'.ownsRow base 3 1 (.slice A (n + m) cap) (n + m) (ints (L ++ M)) → w.grownBy w' v.ownBlock → (∀ g, (Value.slice A (n + m) cap).ownBlock = some g → v.ownBlock = some g ∨ w.heap.size ≤ g) →
      wpList Tryz.prog ops Q rest (a.put o.dst (.slice A (n + m) cap)) w') : wpList Tryz.prog ops Q (o :: rest) a w := by
  refine wpList_plain hgd fun K hK => ?_
  obtain ⟨A, cap, w', hr, h2, h3, h4⟩ := run_append_int (ty := o.type) base v n L hown S m c M hl hk hm hbase
  unfold Oper.wp execOp
  simp only [ho, resolve, invoke, builtin, Sem.run_bind, Sem.run_pure, Result.andThen_ok, List.map_toArray, List.map_cons, List.map_nil, hs, hx, hr]
  exact hK _ _ (h A cap w' h2 h3 h4)
set_option maxHeartbeats 400000 in
theorem equalI_yes (A B : Option Addr) (n c d : Nat) (l : List Int) (w : World) (hn : n ≤ 2000000) (h : HasI w A n l) (g : HasI w B n l) :
    Calls Tryz.prog 49 #[.slice A n c, .slice B n d] w (Quiet (.bool true) w) := by
  have H := Lib.hid h
  have G := Lib.hid g
  clear h g
  go_enter Tryz.func49, Tryz.ntmps49
  go_wp2
  go_loopw [13] (fun i wr => ∃ j q : Nat, j ≤ n ∧ i = .int .i64 j ∧ wr = w.drewN q) (fun i _ => n - (RowKit.intOf i).toNat)
  case atStart => exact ⟨0, 0, Nat.zero_le _, rfl, rfl⟩
  case round =>
    obtain ⟨j, q, hj, rfl, rfl⟩ := hrel
    by_cases hlt : j < n
    · obtain ⟨b, off, rfl, _, hc⟩ := H.out.2 (by omega)
      obtain ⟨b2, off2, rfl, _, hc2⟩ := G.out.2 (by omega)
      have hjl : j < l.length := by rw [H.out.1]; omega
      have hc := hc j hjl
      have hc2 := hc2 j hjl
      generalize l[j] = X at hc hc2
      go_wp2
      go_quiet (fail)
      go_wp2
      go_roundw
      case rel => exact ⟨j + 1, _, by omega, by go_num, rfl⟩
      case measure => simp [RowKit.intOf]; omega
    · have e : j = n := by omega
      subst e
      go_wp2
      go_ret
      exact ⟨rfl, _, rfl⟩

theorem HasI.of_at {w : World} {g : Nat} {l : List Int} (h : At w g (ints l).toArray 3) : HasI w (some ⟨g, 0, none⟩) l.length l :=
  ⟨rfl, fun _ => ⟨g, 0, rfl, h.lt, fun k hk => by rw [Nat.zero_add, h.cell, List.getElem?_toArray, ints_get hk]⟩⟩
end Go.Proofs.YtplmdmchkaacoaaGreat.L13

/-
  THE WALKS OF All AND Within.
-/
namespace Go.Proofs.YtplmdmchkaacoaaGreat.L13
open Go.RowKit
set_option linter.unusedVariables false
set_option maxRecDepth 100000


theorem ints_zero (m : Nat) : (madeCells (Value.int .i64 0).cells (m * 1)).toList = ints (List.replicate m 0) := by
  unfold ints
  apply List.ext_getElem?
  intro k
  rw [List.getElem?_map, List.getElem?_replicate]
  rcases Nat.lt_or_ge k m with h | h
  · rw [if_pos h]
    simp [madeCells, h, Value.cells, Nat.mod_one]
  · rw [if_neg (by omega), List.getElem?_eq_none (by rw [Array.length_toList, size_madeCells]; omega)]
    rfl
theorem made_ints {w w1 : World} {n : Nat} (h : w1.ownsRow w.heap.size 3 1 (.slice (some ⟨w.heap.size, 0, none⟩) n n) n (madeCells (Value.int .i64 0).cells (n * 1)).toList) : At w1 w.heap.size (ints (List.replicate n 0)).toArray 3 := by
  rcases h.2 with ⟨e, _⟩ | ⟨g, cap, cur, e, _, hh, _, _, hs, ht⟩
  · cases e
  · injection e with e1 _ e2
    injection e1 with e1
    injection e1 with e1
    subst e1 e2
    unfold At
    rw [hh]
    congr 2
    apply Array.ext'
    rw [List.take_of_length_le (by simp [hs])] at ht
    rw [ht, ints_zero]

/-- The places of all blocks. -/
def allV (n : Nat) (V : Nat → Int) : List Int := (List.range n).map V
theorem allV_len (n : Nat) (V : Nat → Int) : (allV n V).length = n := by simp [allV]
theorem allV_get {n k : Nat} (V : Nat → Int) (h : k < n) : (allV n V)[k]'(by rw [allV_len]; exact h) = V k := by simp [allV]
/-- The first k of them are written. -/
def filled (n : Nat) (V : Nat → Int) (k : Nat) : List Int := allV k V ++ List.replicate (n - k) 0
theorem filled_len {n k : Nat} (V : Nat → Int) (h : k ≤ n) : (filled n V k).length = n := by simp [filled, allV]; omega
theorem filled_full (n : Nat) (V : Nat → Int) : filled n V n = allV n V := by simp [filled]
theorem filled_next {n k : Nat} (V : Nat → Int) (h : k < n) : (ints (filled n V k)).set k (.int .i64 (V k)) = ints (filled n V (k + 1)) := by
  unfold ints
  rw [← List.map_set (f := fun p => Value.int .i64 p) (a := V k)]
  congr 1
  unfold filled
  rw [List.set_append_right _ _ (by rw [allV_len]; exact Nat.le_refl _), allV_len, Nat.sub_self, show n - k = (n - (k + 1)) + 1 by omega, List.replicate_succ, List.set_cons_zero]
  unfold allV
  rw [List.range_succ, List.map_append, List.append_assoc]
  rfl

section
variable {w : World} {T : Nat → Prop} {g n : Nat} {V : Nat → Int} {A : Nat → Bool}
set_option maxHeartbeats 800000 in
theorem all_any (h : Lm w T g n V A) : Calls Tryz.prog 50 #[.pointer (some ⟨g, 0, none⟩)] w fun e w' => ∃ a, e = .returned (.slice (some ⟨a, 0, none⟩) n n) ∧ w.heap.size ≤ a ∧ At w' a (ints (allV n V)).toArray 3 ∧ Below w.heap.size w w' := by
  obtain ⟨i0, hi, hz0, hz1, hz2⟩ := info_parts int_info
  have H := Lib.hid h
  have hl := h.few
  have c0 : w.cell? ⟨g, 0, none⟩ = some (.int .i64 n) := by
    obtain ⟨r, Q, hq, _⟩ := h
    exact hq.box.cell 0
  clear h
  go_enter Tryz.func50, Tryz.ntmps50
  go_wp2_with (at_make; refine wpList_make_full _ rfl (.tmp 8) (.tmp 8) 51 rfl w.heap.size 3 i0 (.int .i64 0) 1 Tryz.underlying51 hi hz0 hz1 .i64 .i64 n n n rfl rfl rfl rfl (by rw [hz2]; omega) (by unfold maxLen; omega) (Nat.le_refl _) ?_; intro w1 hown1 hg1; have R := Lib.hid (made_ints hown1); have B := Lib.hid ((Below.refl w.heap.size w).grown hg1 (Nat.le_refl _) (by simp)); clear hown1 hg1)
  go_loopg [4, 12] n (fun gg _ s12 wr => ∃ k : Nat, k ≤ n ∧ n - k ≤ gg ∧ s12 = .int .i64 (k : Int) ∧ At wr w.heap.size (ints (filled n V k)).toArray 3 ∧ Below w.heap.size w wr)
  case atStart => exact ⟨0, Nat.zero_le _, by omega, rfl, R.out, B.out⟩
  case round =>
    obtain ⟨k, hk0, hgg, rfl, hat, hB⟩ := hrel
    by_cases hlt : k < n
    · have AT := Lib.hid hat
      have BW := Lib.hid hB
      obtain ⟨u, hu⟩ : ∃ u, (ints (filled n V k)).toArray[k]? = some u := ⟨_, Array.getElem?_eq_getElem (by rw [List.size_toArray, ints_len, filled_len V hk0]; exact hlt)⟩
      have c1 := (hat.cell k).trans hu
      have f1 := hat.frozen k
      have LI := Lib.hid (lies_in V hlt)
      have N1 := hat.set k (.int .i64 (V k))
      rw [List.setIfInBounds_toArray, filled_next V hlt] at N1
      have NW := Lib.hid N1
      have B2 := Lib.hid (((But.refl (fun k => k = w.heap.size) wr).setCell (p := ⟨w.heap.size, k, none⟩) (fun _ => rfl) (.int .i64 (V k))))
      clear hat hB hu N1
      go_wp2_with fail
      refine (geti_any (k : Int) (H.out.below BW.out)).mono ?_
      rintro e w2 ⟨rfl, hw2⟩
      subst hw2
      rw [LI.out]
      go_wp2
      go_roundg (n - (k + 1))
      case measure => omega
      case rel => exact ⟨k + 1, by omega, Nat.le_refl _, by go_num, NW.out, BW.out.trans (B2.out.below (fun k e => Nat.le_of_eq e.symm) BW.out.size)⟩
    · obtain rfl : k = n := by omega
      rw [filled_full] at hat
      go_wp2
      go_ret
      exact ⟨_, rfl, Nat.le_refl _, hat, hB⟩
end

/-- The blocks below K that lie from f to t. -/
def inn (V : Nat → Int) (f t : Int) (K : Nat) : List Int := ((List.range K).filter fun k => decide (f ≤ V k ∧ V k < t)).map fun (k : Nat) => (k : Int)
theorem inn_len (V : Nat → Int) (f t : Int) (K : Nat) : (inn V f t K).length ≤ K := by
  unfold inn
  rw [List.length_map]
  exact Nat.le_trans (List.length_filter_le _ _) (by simp)
theorem inn_yes {V : Nat → Int} {f t : Int} {k : Nat} (h : f ≤ V k ∧ V k < t) : inn V f t (k + 1) = inn V f t k ++ [(k : Int)] := by
  unfold inn
  rw [List.range_succ, List.filter_append, List.map_append]
  simp [h]
theorem inn_no {V : Nat → Int} {f t : Int} {k : Nat} (h : ¬ (f ≤ V k ∧ V k < t)) : inn V f t (k + 1) = inn V f t k := by
  unfold inn
  rw [List.range_succ, List.filter_append, List.map_append, List.filter_cons_of_neg (by simpa using h)]
  simp
theorem inn_same {V : Nat → Int} {f t : Int} {k : Nat} (hf : 0 ≤ f) : ∀ m, (∀ j, k ≤ j → j < k + m → V j = -1) → inn V f t (k + m) = inn V f t k
  | 0, _ => rfl
  | m + 1, h => by
    rw [← Nat.add_assoc, inn_no (by rw [h (k + m) (by omega) (by omega)]; omega)]
    exact inn_same hf m (fun j h1 h2 => h j h1 (by omega))

section
variable {w : World} {g r n : Nat} {Q : List (Option Nat)} {V : Nat → Int}
end
section
variable {w : World} {T : Nat → Prop} {g n : Nat} {V : Nat → Int} {A : Nat → Bool}
/-- The blocks that lie from f to t. -/
def within (n : Nat) (V : Nat → Int) (f t : Int) : List Int := inn V (max f 0) t n
theorem within_len (n : Nat) (V : Nat → Int) (f t : Int) : (within n V f t).length ≤ n := inn_len V _ t n
end
end Go.Proofs.YtplmdmchkaacoaaGreat.L13

/-
  A SLICE OF BYTES THAT READS AS A LIST, nil let in: what is kept of it when memory grows, and of its parts.
-/
namespace Go.Proofs.YtplmdmchkaacoaaGreat.L7
set_option maxRecDepth 100000
open Go.RowKit
set_option linter.unusedVariables false

section
variable {w w' : World} {A : Option Addr} {n : Nat} {l : List (BitVec 8)}

end

end Go.Proofs.YtplmdmchkaacoaaGreat.L7

/-
  WHAT A CALL MAY TURN: only the blocks that a set names, of those that were there; a block of its own; the counter.
-/
namespace Go.Proofs.YtplmdmchkaacoaaGreat.L7
set_option maxRecDepth 100000
open Go.RowKit
set_option linter.unusedVariables false

section
variable {S T : Nat → Prop} {a b c w w' : World}

end

/-- The variable at block b holds the counter's address. -/
def Pv (w : World) (b g : Nat) : Prop := At w b #[.pointer (some ⟨g, 0, none⟩)] 83

end Go.Proofs.YtplmdmchkaacoaaGreat.L7

/-
  THE WALKS OF New, Tick, Used AND Limit.
-/
namespace Go.Proofs.YtplmdmchkaacoaaGreat.L7
set_option maxRecDepth 100000
open Go.RowKit
set_option linter.unusedVariables false

theorem limit_any (g : Nat) (u l m : Int) (w : World) (h : Pw w g u l) : Calls Tryz.prog 37 #[.pointer (some ⟨g, 0, none⟩), .int .i64 m] w fun e w' => e = .returned (.tuple #[]) ∧ Pw w' g u m ∧ But (fun k => k = g) w w' := by
  have h1 := h.cell 1
  have f1 := h.frozen 1
  simp at h1
  go_enter Tryz.func37, Tryz.ntmps37
  go_wp2
  go_end0
  exact ⟨rfl, h.set 1 _, But.own _ _ _ _⟩

end Go.Proofs.YtplmdmchkaacoaaGreat.L7

/-
  THE WALKS OF Run AND OF WHAT IT DEFERS.
-/
namespace Go.Proofs.YtplmdmchkaacoaaGreat.L7
open Go.RowKit
set_option linter.unusedVariables false

theorem slots24 (p : Addr) (x : Value) : #[Value.pointer (some p)] ++ ((Array.replicate 14 undef).setIfInBounds 3 x).setIfInBounds 0 x = #[.pointer (some p), x, undef, undef, x, undef, undef, undef, undef, undef, undef, undef, undef, undef, undef] := rfl

theorem catch_idle (p : Addr) (w : World) :
    CallsD Tryz.prog 91 #[.pointer (some p)] .returning w fun e u' w' => e = .returned (.tuple #[]) ∧ u' = .returning ∧ w' = w := by
  have hnil : ∀ w : World, (binOp BinOp.eql 20 .nilIface .nilIface).run Tryz.prog w = .ok (.bool true) w := fun _ => by kernel_rfl
  refine callsD_of_wpS Tryz.func91 rfl fun c₀ cs hu => ?_
  apply wpS_seq
  apply wpS_region
  simp [wpOpsS, go_sem, recoverD, hu, Tryz.ntmps91, Exit.thenS]
  rw [slots24]
  refine wpS_of_wp ?_
  go_wp2
  cases c₀
  simp_all [bodyPostS, results, Tryz.results91]

theorem catch_out (g : Nat) (older : List PanicEntry) (w : World) (f : Bool) (h : At w g #[.bool f] 4) :
    CallsD Tryz.prog 91 #[.pointer (some ⟨g, 0, none⟩)] (.panicking ({ v := .iface 149 (.agg #[]), recovered := false } :: older)) w fun e u' w' => e = .returned (.tuple #[]) ∧ u' = .panicking ({ v := .iface 149 (.agg #[]), recovered := true } :: older) ∧ ∃ o, w' = (w.alloc o).setCell ⟨g, 0, none⟩ (.bool true) := by
  have hc : (w.alloc (.cells #[] 149)).cell? ⟨g, 0, none⟩ = some (.bool f) := (h.alloc (.cells #[] 149)).cell 0
  have hz := (h.alloc (.cells #[] 149)).frozen 0
  have hnil : ∀ w : World, (binOp BinOp.eql 20 (.iface 149 (.agg #[])) .nilIface).run Tryz.prog w = .ok (.bool false) w := fun _ => by kernel_rfl
  have hta : ∀ w : World, (Instr.typeAssert (.iface 149 (.agg #[])) 20 149 true).run Tryz.prog w = .ok (.tuple #[.agg #[], .bool true]) w := fun _ => by kernel_rfl
  refine callsD_of_wpS Tryz.func91 rfl fun c₀ cs hu => ?_
  apply wpS_seq
  apply wpS_region
  simp [wpOpsS, go_sem, recoverD, hu, Tryz.ntmps91, Exit.thenS]
  rw [slots24]
  refine wpS_of_wp ?_
  go_wp2
  simp [bodyPostS, results, Tryz.results91]
  exact ⟨_, rfl⟩

set_option maxRecDepth 100000 in
theorem run_nil (w : World) : Calls Tryz.prog 38 #[.nilFunc] w fun e w' => e = .returned (.bool false) ∧ Below w.heap.size w w' := by
  have hmf : ∀ (fn : Fn) (first cap : Array Value) (w : World), (Instr.makeFunc fn first cap).run Tryz.prog w = .ok (.func fn first cap) w := fun _ _ _ _ => rfl
  have hnil : ∀ w : World, (binOp BinOp.eql 1 .nilFunc .nilFunc).run Tryz.prog w = .ok (.bool true) w := fun _ => by kernel_rfl
  go_enter_defers Tryz.func38, Tryz.ntmps38
  go_wp2
  simp [bodyPostD, Leaves, results, Tryz.results38, go_sem]
  exact (Below.refl _ _).alloc (Nat.le_refl _) _

set_option maxRecDepth 100000 in
theorem run_some (K : Nat) (cap : Array Value) (w : World) (hK : ∀ w, (callFunc K cap).run Tryz.prog w = .ok (.enter K cap) w) (R : Bool → World → Prop)
    (h : Calls Tryz.prog K cap (w.alloc (.cells #[.bool false] 4)) fun e w' => ∃ gone, e = (if gone then .panicked out else .returned (.tuple #[])) ∧ R gone w' ∧ At w' w.heap.size #[.bool false] 4) : 
    Calls Tryz.prog 38 #[.func (.func K) #[] cap] w fun e w'' => ∃ gone w', e = .returned (.bool gone) ∧ R gone w' ∧ But (fun k => k = w.heap.size) w' w'' := by
  have hmf : ∀ (fn : Fn) (first cap : Array Value) (w : World), (Instr.makeFunc fn first cap).run Tryz.prog w = .ok (.func fn first cap) w := fun _ _ _ _ => rfl
  have hnil : ∀ w : World, (binOp BinOp.eql 1 (.func (.func K) #[] cap) .nilFunc).run Tryz.prog w = .ok (.bool false) w := fun _ => by rfl
  go_enter_defers Tryz.func38, Tryz.ntmps38
  go_wp2_with fail
  refine h.mono ?_
  rintro e w' ⟨gone, rfl, hR, hat⟩
  have hc : w'.cell? ⟨w.heap.size, 0, none⟩ = some (.bool false) := hat.cell 0
  have hz := hat.frozen 0
  have HR := Lib.hid hR
  have HA := Lib.hid hat
  clear h hR hat
  cases gone
  · simp only [Bool.false_eq_true, if_false]
    go_wp2
    refine leaves_cons (f := 91) (args := #[.pointer (some ⟨w.heap.size, 0, none⟩)]) (by simp) (by simp [go_sem]) ?_
    refine (catch_idle ⟨w.heap.size, 0, none⟩ _).mono ?_
    rintro e u' w'' ⟨rfl, rfl, rfl⟩
    simp [Leaves, settle, results, Tryz.results38, go_sem, hc]
    exact ⟨_, HR.out, But.own _ _ _ _⟩
  · simp only [if_true, out]
    go_wp2
    refine leaves_cons (f := 91) (args := #[.pointer (some ⟨w.heap.size, 0, none⟩)]) (by simp) (by simp [go_sem]) ?_
    refine (catch_out w.heap.size [] _ false HA.out).mono ?_
    rintro e u' w'' ⟨rfl, rfl, o, rfl⟩
    have hc' : (w'.alloc o).cell? ⟨w.heap.size, 0, none⟩ = some (.bool false) := (HA.out.alloc o).cell 0
    simp [Leaves, settle, results, Tryz.results38, go_sem, hc']
    exact ⟨_, HR.out, ((But.refl _ _).alloc o).trans (But.own _ _ _ _) (fun _ h _ => h)⟩

end Go.Proofs.YtplmdmchkaacoaaGreat.L7
