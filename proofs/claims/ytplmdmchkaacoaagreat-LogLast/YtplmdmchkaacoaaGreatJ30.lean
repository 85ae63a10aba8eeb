/-
  TEXTS JOINED: L14View, L14Recs.
-/
import Derived.Test.YtplmdmchkaacoaaGreatJ20
import Derived.Test.YtplmdmchkaacoaaGreatJ22
import Derived.Test.YtplmdmchkaacoaaGreatJ28
import Derived.Test.YtplmdmchkaacoaaGreatJ29
import Derived.WalkKit
import Derived.Deep.MidRow
import Derived.Deep.WholeRow
import Derived.Laws.ResultCell
import Derived.Deep.RegionLaw

/-
  THE VIEW OF A LIST, BY A KEY: NUMBERS ONLY.
-/
namespace Go.Proofs.YtplmdmchkaacoaaGreat.L14
open Go.Proofs.YtplmdmchkaacoaaGreat.L7
open Go.RowKit
set_option linter.unusedVariables false
set_option maxRecDepth 100000

section
variable {α β : Type}
/-- Is there none of the block k? -/
def free (f : α → Int) (k : Int) (l : List α) : Bool := l.all fun s => decide (f s ≠ k)
theorem free_iff {f : α → Int} {k : Int} {l : List α} : free f k l = true ↔ ∀ s ∈ l, f s ≠ k := by
  unfold free
  rw [List.all_eq_true]
  exact ⟨fun h s hs => of_decide_eq_true (h s hs), fun h s hs => decide_eq_true (h s hs)⟩
theorem free_not {f : α → Int} {k : Int} {l : List α} : free f k l = false ↔ ∃ s ∈ l, f s = k := by
  rw [← Bool.not_eq_true, free_iff]
  constructor
  · intro h
    exact Classical.byContradiction fun hn => h fun s hs e => hn ⟨s, hs, e⟩
  · rintro ⟨s, hs, e⟩ h
    exact h s hs e
theorem free_cons (f : α → Int) (k : Int) (s : α) (l : List α) : free f k (s :: l) = (decide (f s ≠ k) && free f k l) := rfl
theorem free_map (f : β → Int) (g : α → β) (k : Int) : ∀ l : List α, free f k (l.map g) = free (fun x => f (g x)) k l
  | [] => rfl
  | s :: l => by rw [List.map_cons, free_cons, free_cons, free_map f g k l]
/-- Those behind which there is none of their block. -/
def vw (f : α → Int) : List α → List α
  | [] => []
  | r :: t => if free f (f r) t = true then r :: vw f t else vw f t
theorem vw_cons (f : α → Int) (r : α) (t : List α) : vw f (r :: t) = if free f (f r) t = true then r :: vw f t else vw f t := rfl
theorem vw_map (f : β → Int) (g : α → β) : ∀ l : List α, vw f (l.map g) = (vw (fun x => f (g x)) l).map g
  | [] => rfl
  | r :: t => by
    show (if free f (f (g r)) (t.map g) = true then g r :: vw f (t.map g) else vw f (t.map g)) = (if free (fun x => f (g x)) (f (g r)) t = true then r :: vw (fun x => f (g x)) t else vw (fun x => f (g x)) t).map g
    rw [free_map, vw_map f g t]
    split <;> rfl
theorem vw_mem {f : α → Int} {x : α} : ∀ {l : List α}, x ∈ vw f l → x ∈ l
  | r :: t, h => by
    rw [vw_cons] at h
    split at h
    · rcases List.mem_cons.1 h with rfl | h
      · exact List.mem_cons_self
      · exact List.mem_cons_of_mem _ (vw_mem h)
    · exact List.mem_cons_of_mem _ (vw_mem h)
theorem vw_len (f : α → Int) : ∀ l : List α, (vw f l).length ≤ l.length
  | [] => Nat.le_refl _
  | r :: t => by
    have := vw_len f t
    rw [vw_cons]
    split
    · simp only [List.length_cons]; omega
    · simp only [List.length_cons]; omega
theorem vw_pos {f : α → Int} : ∀ {l : List α}, 0 < l.length → 0 < (vw f l).length
  | r :: t, _ => by
    rw [vw_cons]
    split
    · simp
    · rename_i h
      rcases Nat.eq_zero_or_pos t.length with h0 | h0
      · have : t = [] := List.eq_nil_of_length_eq_zero h0
        subst this
        exact absurd rfl h
      · exact vw_pos h0
theorem vw_yes {f : α → Int} {l : List α} {k : Nat} {x : α} (hk : k < l.length) (hx : l[k] = x) (h : free f (f x) (l.drop (k + 1)) = true) : vw f (l.drop k) = x :: vw f (l.drop (k + 1)) := by
  subst hx
  rw [List.drop_eq_getElem_cons hk]
  rw [vw_cons]
  rw [if_pos h]
theorem vw_no {f : α → Int} {l : List α} {k : Nat} {x : α} (hk : k < l.length) (hx : l[k] = x) (h : free f (f x) (l.drop (k + 1)) = false) : vw f (l.drop k) = vw f (l.drop (k + 1)) := by
  subst hx
  rw [List.drop_eq_getElem_cons hk]
  rw [vw_cons, if_neg (by rw [h]; simp)]
theorem free_vw (f : α → Int) (k : Int) : ∀ l : List α, free f k (vw f l) = free f k l
  | [] => rfl
  | r :: t => by
    rw [vw_cons]
    split
    · rw [free_cons, free_cons, free_vw f k t]
    · rename_i h
      have h' : free f (f r) t = false := by simpa using h
      rw [free_vw f k t, free_cons]
      by_cases e : f r = k
      · rw [← e, h', Bool.and_false]
      · rw [decide_eq_true e, Bool.true_and]
/-- The view of a view is it. -/
theorem vw_vw (f : α → Int) : ∀ l : List α, vw f (vw f l) = vw f l
  | [] => rfl
  | r :: t => by
    rw [vw_cons]
    split
    · rename_i h
      rw [vw_cons]
      rw [free_vw, if_pos h, vw_vw f t]
    · exact vw_vw f t

/-- A block's last record. -/
def fl (f : α → Int) (k : Int) : List α → Option α
  | [] => none
  | r :: t => if free f k t = true then (if f r = k then some r else none) else fl f k t
theorem fl_cons (f : α → Int) (k : Int) (r : α) (t : List α) : fl f k (r :: t) = if free f k t = true then (if f r = k then some r else none) else fl f k t := rfl
theorem fl_none {f : α → Int} {k : Int} : ∀ {l : List α}, free f k l = true → fl f k l = none
  | [], _ => rfl
  | r :: t, h => by
    rw [free_cons, Bool.and_eq_true] at h
    rw [fl_cons]
    rw [if_pos h.2, if_neg (of_decide_eq_true h.1)]
theorem fl_at {f : α → Int} {k : Int} : ∀ {l : List α} {i : Nat} (hi : i < l.length), f l[i] = k → free f k (l.drop (i + 1)) = true → fl f k l = some l[i]
  | r :: t, 0, _, e, h => by
    rw [fl_cons]
    simp only [List.drop_succ_cons, List.drop_zero] at h
    rw [if_pos h]
    exact if_pos e
  | r :: t, i + 1, hi, e, h => by
    have hi' : i < t.length := by simpa using hi
    have h1 := fl_at (l := t) (i := i) hi' (by simpa using e) (by simpa using h)
    rw [fl_cons]
    have h0 : free f k t = false := free_not.2 ⟨t[i], List.getElem_mem hi', by simpa using e⟩
    rw [if_neg (by rw [h0]; simp)]
    simpa using h1
theorem fl_vw (f : α → Int) (k : Int) : ∀ l : List α, fl f k (vw f l) = fl f k l
  | [] => rfl
  | r :: t => by
    have ih := fl_vw f k t
    rw [vw_cons]
    split
    · rw [fl_cons, free_vw, ih, fl_cons]
    · rename_i h
      rw [ih]
      rw [fl_cons]
      split
      · rename_i hk
        rw [fl_none hk]
        split
        · rename_i e
          rw [e] at h
          exact absurd hk h
        · rfl
      · rfl
/-- What the view has of a block is its last record. -/
theorem fl_of_vw {f : α → Int} {x : α} : ∀ {l : List α}, x ∈ vw f l → fl f (f x) l = some x
  | r :: t, h => by
    rw [vw_cons] at h
    split at h
    · rename_i hf
      rcases List.mem_cons.1 h with rfl | h
      · rw [fl_cons]
        rw [if_pos hf, if_pos rfl]
      · have h1 := fl_of_vw h
        rw [fl_cons]
        have h0 : free f (f x) t = false := free_not.2 ⟨x, vw_mem h, rfl⟩
        rw [if_neg (by rw [h0]; simp)]
        exact h1
    · have h1 := fl_of_vw h
      rw [fl_cons]
      have h0 : free f (f x) t = false := free_not.2 ⟨x, vw_mem h, rfl⟩
      rw [if_neg (by rw [h0]; simp)]
      exact h1

/-- The numbers rise. -/
def Up (g : α → Nat) (l : List α) : Prop := l.Pairwise fun a b => g a < g b
/-- How far the first m of the view go. -/
def upTo (f : α → Int) (g : α → Nat) (l : List α) (m : Nat) : Nat := match (vw f l)[m - 1]? with | some x => g x | none => 0
theorem upTo_mem {f : α → Int} {g : α → Nat} {l : List α} {m : Nat} (h0 : 0 < m) (hm : m ≤ (vw f l).length) : ∃ x ∈ l, upTo f g l m = g x := by
  refine ⟨(vw f l)[m - 1]'(by omega), vw_mem (List.getElem_mem _), ?_⟩
  unfold upTo
  rw [List.getElem?_eq_getElem (by omega)]
theorem filter_up {g : α → Nat} {t : List α} {u : Nat} (h : ∀ x ∈ t, u < g x) : t.filter (fun x => decide (u < g x)) = t := List.filter_eq_self.2 (fun x hx => decide_eq_true (h x hx))
/-- What is done with left out, the view goes on. -/
theorem vw_rest {f : α → Int} {g : α → Nat} : ∀ {l : List α} {m : Nat}, Up g l → 0 < m → m ≤ (vw f l).length → vw f (l.filter fun x => decide (upTo f g l m < g x)) = (vw f l).drop m
  | [], m, _, h0, hm => by simp [vw] at hm; omega
  | r :: t, m, hu, h0, hm => by
    have hut : Up g t := (List.pairwise_cons.1 hu).2
    have hr : ∀ x ∈ t, g r < g x := (List.pairwise_cons.1 hu).1
    by_cases hf : free f (f r) t = true
    · have ev : vw f (r :: t) = r :: vw f t := by rw [vw_cons, if_pos hf]
      rw [ev] at hm ⊢
      rcases Nat.lt_or_ge 1 m with h1 | h1
      · have hm' : m - 1 ≤ (vw f t).length := by simp at hm; omega
        have eu : upTo f g (r :: t) m = upTo f g t (m - 1) := by
          unfold upTo
          rw [ev, show m - 1 = (m - 1 - 1) + 1 by omega, List.getElem?_cons_succ]
          simp
        obtain ⟨x, hx, hxu⟩ := upTo_mem (f := f) (g := g) (l := t) (m := m - 1) (by omega) hm'
        rw [eu, List.filter_cons_of_neg (by simp only [decide_eq_true_eq]; rw [hxu]; have := hr x hx; omega), vw_rest hut (by omega) hm', show m = (m - 1) + 1 by omega, List.drop_succ_cons]
        simp
      · have e1 : m = 1 := by omega
        subst e1
        have eu : upTo f g (r :: t) 1 = g r := by unfold upTo; rw [ev]; rfl
        rw [eu, List.filter_cons_of_neg (by simp), filter_up hr]
        simp
    · have ev : vw f (r :: t) = vw f t := by rw [vw_cons, if_neg hf]
      rw [ev] at hm ⊢
      have eu : upTo f g (r :: t) m = upTo f g t m := by unfold upTo; rw [ev]
      obtain ⟨x, hx, hxu⟩ := upTo_mem (f := f) (g := g) (l := t) (m := m) h0 hm
      rw [eu, List.filter_cons_of_neg (by simp only [decide_eq_true_eq]; rw [hxu]; have := hr x hx; omega), vw_rest hut h0 hm]
/-- Of what goes as far as the first m of the view these are the last records, and no others. -/
theorem vw_done {f : α → Int} {g : α → Nat} : ∀ {l : List α} {m i : Nat} (hi : i < l.length), Up g l → 0 < m → m ≤ (vw f l).length → g l[i] ≤ upTo f g l m →
    (free f (f l[i]) (l.drop (i + 1)) = true ↔ ∃ s ∈ (vw f l).take m, g s = g l[i])
  | r :: t, m, 0, hi, hu, h0, hm, hg => by
    have hr : ∀ x ∈ t, g r < g x := (List.pairwise_cons.1 hu).1
    simp only [List.getElem_cons_zero, List.drop_succ_cons, List.drop_zero]
    by_cases hf : free f (f r) t = true
    · refine ⟨fun _ => ⟨r, ?_, rfl⟩, fun _ => hf⟩
      rw [vw_cons]
      rw [if_pos hf, show m = (m - 1) + 1 by omega, List.take_succ_cons]
      exact List.mem_cons_self
    · refine ⟨fun h => absurd h hf, ?_⟩
      rintro ⟨s, hs, e⟩
      have h1 := List.mem_of_mem_take hs
      rw [vw_cons] at h1
      rw [if_neg hf] at h1
      have := hr s (vw_mem h1)
      omega
  | r :: t, m, i + 1, hi, hu, h0, hm, hg => by
    have hi' : i < t.length := by simpa using hi
    have hut : Up g t := (List.pairwise_cons.1 hu).2
    have hr : ∀ x ∈ t, g r < g x := (List.pairwise_cons.1 hu).1
    simp only [List.getElem_cons_succ, List.drop_succ_cons] at hg ⊢
    have hri := hr _ (List.getElem_mem hi')
    by_cases hf : free f (f r) t = true
    · have ev : vw f (r :: t) = r :: vw f t := by rw [vw_cons, if_pos hf]
      rcases Nat.lt_or_ge 1 m with h1 | h1
      · have hm' : m - 1 ≤ (vw f t).length := by rw [ev] at hm; simp at hm; omega
        have eu : upTo f g (r :: t) m = upTo f g t (m - 1) := by
          unfold upTo
          rw [ev, show m - 1 = (m - 1 - 1) + 1 by omega, List.getElem?_cons_succ]
          simp
        rw [eu] at hg
        rw [vw_done hi' hut (by omega) hm' hg, ev, show m = (m - 1) + 1 by omega, List.take_succ_cons]
        constructor
        · rintro ⟨s, hs, e⟩
          exact ⟨s, List.mem_cons_of_mem _ (by simpa using hs), e⟩
        · rintro ⟨s, hs, e⟩
          rcases List.mem_cons.1 hs with rfl | hs
          · omega
          · exact ⟨s, by simpa using hs, e⟩
      · have e1 : m = 1 := by omega
        subst e1
        have eu : upTo f g (r :: t) 1 = g r := by unfold upTo; rw [ev]; rfl
        rw [eu] at hg
        omega
    · have ev : vw f (r :: t) = vw f t := by rw [vw_cons, if_neg hf]
      have eu : upTo f g (r :: t) m = upTo f g t m := by unfold upTo; rw [ev]
      rw [eu] at hg
      rw [ev] at hm ⊢
      exact vw_done hi' hut h0 hm hg
theorem Up.filter {g : α → Nat} {l : List α} (h : Up g l) (p : α → Bool) : Up g (l.filter p) := List.Pairwise.filter p h
theorem rest_len {f : α → Int} {g : α → Nat} {l : List α} {m : Nat} (h0 : 0 < m) (hm : m ≤ (vw f l).length) : (l.filter fun x => decide (upTo f g l m < g x)).length < l.length := by
  obtain ⟨x, hx, e⟩ := upTo_mem (f := f) (g := g) (l := l) h0 hm
  rcases Nat.lt_or_ge (l.filter fun x => decide (upTo f g l m < g x)).length l.length with h | h
  · exact h
  · have h1 := List.length_filter_eq_length_iff.1 (Nat.le_antisymm (List.length_filter_le _ _) h) x hx
    have h2 := of_decide_eq_true h1
    omega
end

/-- f tells where the last of each block stands, of the first k. -/
structure Lx (l : List Int) (k : Nat) (f : Int → Option Int) : Prop where
  got : ∀ x i, f x = some i → ∃ m : Nat, i = m ∧ m < k ∧ l[m]? = some x ∧ ∀ j, m < j → j < k → l[j]? ≠ some x
  non : ∀ x, f x = none → ∀ j, j < k → l[j]? ≠ some x
def updI (f : Int → Option Int) (i : Int) (v : Int) : Int → Option Int := fun j => if j = i then some v else f j
theorem Lx.start (l : List Int) : Lx l 0 (fun _ => none) := ⟨fun x i h => (by cases h), fun x _ j h => absurd h (by omega)⟩
theorem Lx.next {l : List Int} {k : Nat} {f : Int → Option Int} {y : Int} (h : Lx l k f) (hy : l[k]? = some y) : Lx l (k + 1) (updI f y k) := by
  refine ⟨fun x i e => ?_, fun x e j hj => ?_⟩
  · unfold updI at e
    split at e
    · rename_i hx
      injection e with e
      exact ⟨k, e.symm, by omega, by rw [hx]; exact hy, fun j h1 h2 => absurd h1 (by omega)⟩
    · rename_i hx
      obtain ⟨m, e1, e2, e3, e4⟩ := h.got x i e
      refine ⟨m, e1, by omega, e3, fun j h1 h2 => ?_⟩
      rcases Nat.lt_or_ge j k with h3 | h3
      · exact e4 j h1 h3
      · have : j = k := by omega
        subst this
        rw [hy]
        intro e
        injection e with e
        exact hx e.symm
  · unfold updI at e
    split at e
    · cases e
    · rename_i hx
      rcases Nat.lt_or_ge j k with h3 | h3
      · exact h.non x e j h3
      · have : j = k := by omega
        subst this
        rw [hy]
        intro e
        injection e with e
        exact hx e.symm

section
variable {α : Type} {f : α → Int} {l : List α} {F : Int → Option Int}
theorem lx_free {m : Nat} {x : Int} (h : ∀ j, m < j → j < l.length → (l.map f)[j]? ≠ some x) : free f x (l.drop (m + 1)) = true := by
  rw [free_iff]
  intro s hs e
  obtain ⟨j, hj, rfl⟩ := List.mem_iff_getElem.1 hs
  rw [List.length_drop] at hj
  rw [List.getElem_drop] at e
  refine h (m + 1 + j) (by omega) (by omega) ?_
  rw [List.getElem?_map, List.getElem?_eq_getElem (by omega), Option.map_some, e]
/-- The map tells whether a record is its block's last one. -/
theorem Lx.last (h : Lx (l.map f) l.length F) {k : Nat} (hk : k < l.length) : ∃ m : Nat, F (f l[k]) = some (m : Int) ∧ (m = k ↔ free f (f l[k]) (l.drop (k + 1)) = true) := by
  have hat : (l.map f)[k]? = some (f l[k]) := by rw [List.getElem?_map, List.getElem?_eq_getElem hk]; rfl
  cases e : F (f l[k]) with
  | none => exact absurd hat (h.non _ e k hk)
  | some i =>
    obtain ⟨m, rfl, hm, e3, e4⟩ := h.got _ i e
    refine ⟨m, rfl, fun e => ?_, fun hf => ?_⟩
    · subst e
      exact lx_free e4
    · rcases Nat.lt_trichotomy m k with h1 | h1 | h1
      · exact absurd hat (e4 k h1 hk)
      · exact h1
      · rw [free_iff] at hf
        rw [List.getElem?_map, List.getElem?_eq_getElem hm, Option.map_some] at e3
        injection e3 with e3
        refine absurd e3 (hf l[m] ?_)
        rw [List.mem_iff_getElem]
        refine ⟨m - (k + 1), by rw [List.length_drop]; omega, ?_⟩
        rw [List.getElem_drop]
        congr 1
        omega
/-- The map tells a block's last record. -/
theorem Lx.find (h : Lx (l.map f) l.length F) (x : Int) : (F x = none ∧ fl f x l = none) ∨ ∃ (m : Nat) (hm : m < l.length), F x = some (m : Int) ∧ fl f x l = some l[m] := by
  cases e : F x with
  | none =>
    refine .inl ⟨rfl, fl_none ?_⟩
    rw [free_iff]
    intro s hs e2
    obtain ⟨j, hj, rfl⟩ := List.mem_iff_getElem.1 hs
    refine h.non x e j hj ?_
    rw [List.getElem?_map, List.getElem?_eq_getElem hj, Option.map_some, e2]
  | some i =>
    obtain ⟨m, rfl, hm, e3, e4⟩ := h.got _ i e
    rw [List.getElem?_map, List.getElem?_eq_getElem hm, Option.map_some] at e3
    injection e3 with e3
    exact .inr ⟨m, hm, rfl, fl_at hm e3 (lx_free e4)⟩
end

end Go.Proofs.YtplmdmchkaacoaaGreat.L14

/-
  RECORDS, AND ROWS OF THEM: their cells; slices of records anywhere; rows of a call's own; 'append' of records.
-/
namespace Go.Proofs.YtplmdmchkaacoaaGreat.L14
open Go.Proofs.YtplmdmchkaacoaaGreat.L7
open Go.RowKit
set_option linter.unusedVariables false
set_option maxRecDepth 100000

theorem _root_.Go.Proofs.YtplmdmchkaacoaaGreat.Has.low {w : World} {A : Option Addr} {n : Nat} {l : List (BitVec 8)} (h : Has w A n l) (h0 : 0 < n) (a : Addr) (ha : A = some a) : a.block < w.heap.size := by
  obtain ⟨b, o, e, hb, _⟩ := h.2 h0
  rw [ha] at e
  injection e with e
  subst e
  exact hb

/-- A record whose bytes lie in memory, and whose numbers are such as its types hold. -/
structure Ok (w : World) (x : Rc) : Prop where
  has : Has w x.A x.n x.l
  len : x.n ≤ 100
  lba : -9223372036854775808 ≤ x.lba ∧ x.lba ≤ 9223372036854775807
  seq : x.seq ≤ 18446744073709551615
theorem Ok.apart {S : Nat → Prop} {w w' : World} {x : Rc} (h : Ok w x) (hb : But S w w') (hn : 0 < x.n → ∀ a, x.A = some a → ¬ S a.block) : Ok w' x := ⟨h.has.apart hb hn, h.len, h.lba, h.seq⟩
theorem Ok.below {w w' : World} {x : Rc} (h : Ok w x) (hb : Below w.heap.size w w') : Ok w' x := h.apart (S := fun _ => False) (But.of_below hb) (fun _ _ _ h => h)

/-- The slice (A, n) holds the records L. -/
structure Rs (w : World) (A : Option Addr) (n : Nat) (L : List Rc) : Prop where
  len : L.length = n
  cells : 0 < n → ∃ b off, A = some ⟨b, off, none⟩ ∧ b < w.heap.size ∧ ∀ k (h : k < L.length), ∀ j, j < 4 → w.cell? ⟨b, off + k * 4 + j, none⟩ = L[k].cs[j]?
  ok : ∀ x ∈ L, Ok w x
section
variable {w w' : World} {A : Option Addr} {n : Nat} {L : List Rc}
theorem Rs.but {S : Nat → Prop} (h : Rs w A n L) (hb : But S w w') (hn : 0 < n → ∀ x, A = some x → ¬ S x.block) (hx : ∀ x ∈ L, 0 < x.n → ∀ a, x.A = some a → ¬ S a.block) : Rs w' A n L :=
  ⟨h.len, fun h0 => by
    obtain ⟨b, off, e, hlt, hc⟩ := h.cells h0
    exact ⟨b, off, e, Nat.lt_of_lt_of_le hlt hb.size, fun k hk j hj => (hb.cell (p := ⟨b, off + k * 4 + j, none⟩) hlt (hn h0 ⟨b, off, none⟩ e)).trans (hc k hk j hj)⟩, fun x hx' => (h.ok x hx').apart hb (hx x hx')⟩
theorem Rs.below (h : Rs w A n L) (hb : Below w.heap.size w w') : Rs w' A n L := h.but (S := fun _ => False) (But.of_below hb) (fun _ _ _ h => h) (fun _ _ _ _ _ h => h)
theorem Rs.drewN (h : Rs w A n L) (q : Nat) : Rs (w.drewN q) A n L := h.below ⟨rfl, rfl, rfl, Nat.le_refl _, fun _ _ => rfl⟩
theorem Rs.nil (w : World) (A : Option Addr) : Rs w A 0 [] := ⟨rfl, fun h => absurd h (by omega), fun x hx => (by cases hx)⟩
/-- One of the records: its cells. -/
theorem Rs.one (h : Rs w A n L) {k : Nat} (hk : k < n) : ∃ b off, A = some ⟨b, off, none⟩ ∧ b < w.heap.size ∧ ∃ (hl : k < L.length) (x : Rc), L[k] = x ∧ Ok w x ∧ w.cell? ⟨b, off + k * 4, none⟩ = some (.int .u64 (x.seq : Int)) ∧ w.cell? ⟨b, off + k * 4 + 1, none⟩ = some (.int .i64 x.kind) ∧ w.cell? ⟨b, off + k * 4 + 2, none⟩ = some (.int .i64 x.lba) ∧ w.cell? ⟨b, off + k * 4 + 3, none⟩ = some (.slice x.A x.n x.c) := by
  obtain ⟨b, off, e, hlt, hc⟩ := h.cells (by omega)
  have hl : k < L.length := by rw [h.len]; exact hk
  have hc := hc k hl
  exact ⟨b, off, e, hlt, hl, L[k], rfl, h.ok _ (List.getElem_mem hl), hc 0 (by omega), hc 1 (by omega), hc 2 (by omega), hc 3 (by omega)⟩
theorem Rs.take (h : Rs w A n L) (m : Nat) (hm : m ≤ n) : Rs w A m (L.take m) :=
  ⟨by rw [List.length_take, h.len]; omega, fun h0 => by
    obtain ⟨b, off, e, hlt, hc⟩ := h.cells (by omega)
    refine ⟨b, off, e, hlt, fun k hk j hj => ?_⟩
    rw [List.length_take] at hk
    rw [List.getElem_take]
    exact hc k (by omega) j hj, fun x hx => h.ok x (List.mem_of_mem_take hx)⟩
theorem Rs.drop {b off : Nat} (h : Rs w (some ⟨b, off, none⟩) n L) (m : Nat) (hm : m ≤ n) {o2 : Nat} (ho : m < n → o2 = off + m * 4) : Rs w (some ⟨b, o2, none⟩) (n - m) (L.drop m) :=
  ⟨by rw [List.length_drop, h.len], fun h0 => by
    obtain ⟨b', off', e, hlt, hc⟩ := h.cells (by omega)
    injection e with e
    injection e with e1 e2
    subst e1 e2
    have ho := ho (by omega)
    subst ho
    refine ⟨b, off + m * 4, rfl, hlt, fun k hk j hj => ?_⟩
    rw [List.length_drop] at hk
    rw [List.getElem_drop, show off + m * 4 + k * 4 + j = off + (m + k) * 4 + j by omega]
    exact hc (m + k) (by omega) j hj, fun x hx => h.ok x (List.mem_of_mem_drop hx)⟩
theorem Rs.single {w : World} {g : Nat} {x : Rc} (h : At w g #[.int .u64 (x.seq : Int), .int .i64 x.kind, .int .i64 x.lba, .slice x.A x.n x.c] 111) (hx : Ok w x) : Rs w (some ⟨g, 0, none⟩) 1 [x] :=
  ⟨rfl, fun _ => ⟨g, 0, rfl, h.lt, fun k hk j hj => by
    obtain rfl : k = 0 := by simpa using hk
    rw [show 0 + 0 * 4 + j = j by omega, h.cell]
    simp [Rc.cs]⟩, fun y hy => by
    obtain rfl : y = x := by simpa using hy
    exact hx⟩
theorem Rs.src {b off : Nat} (h : Rs w (some ⟨b, off, none⟩) n L) : Src w ⟨b, off, none⟩ n L := by
  refine ⟨h.len, fun j u hu => ?_⟩
  have hj : j < L.length * 4 := by rw [← flat_len]; exact (List.getElem?_eq_some_iff.1 hu).1
  have hl := h.len
  obtain ⟨b', off', e, hlt, hc⟩ := h.cells (by omega)
  injection e with e
  injection e with e1 e2
  subst e1 e2
  have hk : j / 4 < L.length := by omega
  have h1 := hc (j / 4) hk (j % 4) (by omega)
  rw [Addr.add_mid, ← hu, show off + j = off + j / 4 * 4 + j % 4 by omega, h1, ← flat_get L (j / 4) hk (j % 4) (by omega)]
  congr 1
  omega
end

/-- A row of the call's own holds the records L; none of their bytes lies in the row's own block. -/
structure Rw (w : World) (B : Nat) (v : Value) (L : List Rc) : Prop where
  own : w.ownsRow B 111 4 v L.length (flat L)
  ok : ∀ x ∈ L, Ok w x
  off : ∀ x ∈ L, 0 < x.n → ∀ a, x.A = some a → v.ownBlock ≠ some a.block
section
variable {w w' : World} {B : Nat} {v : Value} {L : List Rc} {S : Nat → Prop}
theorem Rw.nil (w : World) (B : Nat) : Rw w B (.slice none 0 0) [] :=
  ⟨World.ownsRow_nil _ _ _ _, fun x hx => (by cases hx), fun x hx => (by cases hx)⟩
theorem Rw.form (h : Rw w B v L) : ∃ A c, v = .slice A L.length c ∧ L.length ≤ c ∧ c ≤ maxLen ∧ Rs w A L.length L ∧ (∀ a, A = some a → B ≤ a.block ∧ a.off = 0 ∧ a.spot = none ∧ a.block < w.heap.size) ∧ (A = none → c = 0) := by
  rcases h.own.2 with ⟨rfl, e⟩ | ⟨g, cap, cur, rfl, hg, hh, hnc, hcm, hcs, htk⟩
  · rw [e]
    exact ⟨none, 0, rfl, Nat.le_refl _, by unfold maxLen; omega, ⟨e, fun h => absurd h (by omega), h.ok⟩, fun a h => (by cases h), fun _ => rfl⟩
  · have hlt := (h.own.lt g rfl).2
    refine ⟨_, cap, rfl, hnc, hcm, ⟨rfl, fun h0 => ⟨g, 0, rfl, hlt, fun k hk j hj => ?_⟩, h.ok⟩, fun a e => ?_, fun h => by cases h⟩
    · rw [Nat.zero_add, h.own.cellAt (k * 4 + j) (by omega), flat_get L k hk j hj]
    · injection e with e
      subst e
      exact ⟨hg, rfl, rfl, hlt⟩
theorem Rw.but (h : Rw w B v L) (hb : But S w w') (hv : ∀ k, v.ownBlock = some k → ¬ S k) (hd : ∀ x ∈ L, 0 < x.n → ∀ a, x.A = some a → ¬ S a.block) : Rw w' B v L :=
  ⟨own_but h.own hb hv, fun x hx => (h.ok x hx).apart hb (hd x hx), h.off⟩
theorem Rw.up (h : Rw w B v L) (hb : Below w.heap.size w w') : Rw w' B v L :=
  h.but (S := fun _ => False) (But.of_below hb) (fun _ _ h => h) (fun _ _ _ _ _ h => h)
theorem Rw.base {B' : Nat} (h : Rw w B v L) (hb : B' ≤ B) : Rw w B' v L := ⟨own_base h.own (fun k hk => Nat.le_trans hb (h.own.lt k hk).1), h.ok, h.off⟩
/-- Others at the end. -/
theorem Rw.push {w1 : World} {A : Option Addr} {m c : Nat} {M : List Rc} (h : Rw w B v L) (hown : w1.ownsRow B 111 4 (.slice A m c) m (flat (L ++ M))) (hg : w.grownBy w1 v.ownBlock)
    (hf : ∀ g, (Value.slice A m c).ownBlock = some g → v.ownBlock = some g ∨ w.heap.size ≤ g) (hx : ∀ x ∈ M, Ok w x) (ho : ∀ x ∈ M, 0 < x.n → ∀ a, x.A = some a → v.ownBlock ≠ some a.block) : Rw w1 B (.slice A m c) (L ++ M) := by
  have bt : But (fun k => v.ownBlock = some k) w w1 := (But.refl _ _).grown hg (fun k hk _ => hk)
  have hm : m = (L ++ M).length := by have := hown.1; rw [flat_len] at this; omega
  have hall : ∀ y ∈ L ++ M, Ok w y ∧ (0 < y.n → ∀ a, y.A = some a → v.ownBlock ≠ some a.block) := by
    intro y hy
    rcases List.mem_append.1 hy with hy | hy
    · exact ⟨h.ok y hy, h.off y hy⟩
    · exact ⟨hx y hy, ho y hy⟩
  refine ⟨by rw [← hm]; exact hown, fun y hy => (hall y hy).1.apart bt (fun h0 a ha => (hall y hy).2 h0 a ha), fun y hy h0 a ha e => ?_⟩
  rcases hf _ e with e | e
  · exact (hall y hy).2 h0 a ha e
  · have := (hall y hy).1.has.low h0 a ha; omega
end

end Go.Proofs.YtplmdmchkaacoaaGreat.L14
