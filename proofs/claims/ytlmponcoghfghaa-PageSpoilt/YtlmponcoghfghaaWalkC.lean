/-
  THE WALKS OF THE READER: Read, next, Raw, Take, Good, Rest.
-/
import Derived.Test.YtlmponcoghfghaaWalkB
namespace Go.Proofs.Ytlmponcoghfghaa
open Go.RowKit
set_option linter.unusedVariables false
set_option maxRecDepth 100000

def ReadDone (w : World) (n : Nat) (l : List (BitVec 8)) (e : Ending) (w' : World) : Prop :=
  ∃ g A c, e = .returned (.pointer (some ⟨g, 0, none⟩)) ∧ Rd w' g A n c l false ∧ Below w.heap.size w w' ∧ w.heap.size ≤ g ∧ ∀ x, A = some x → w.heap.size ≤ x.block

theorem own_slice {w : World} {base n : Nat} {v : Value} {l : List (BitVec 8)} (h : w.ownsRow base 5 1 v n (l.map val)) :
    ∃ A c, v = .slice A n c ∧ n ≤ c ∧ c ≤ maxLen ∧ (A = none → c = 0) ∧ Has w A n l ∧ ∀ x, A = some x → base ≤ x.block ∧ x.block < w.heap.size ∧ ∃ b o, x = ⟨b, o, none⟩ := by
  have hl : l.length = n := by have := h.1; simpa using this
  obtain ⟨A, c, rfl, h1, h2, h3, h4⟩ := Has.of_own h
  refine ⟨A, c, rfl, h1, h2, ?_, h3, ?_⟩
  · rintro rfl
    rcases h.2 with ⟨e, _⟩ | ⟨g, cap, cur, e, _⟩
    · injection e
    · injection e with e; cases e
  · rintro x rfl
    obtain ⟨g, rfl, hg⟩ := h4 _ rfl
    exact ⟨hg, (h.lt g rfl).2, g, 0, rfl⟩

theorem read_made {w w1 : World} {A : Option Addr} {n c : Nat} {l : List (BitVec 8)} (hb : Below w.heap.size w w1) (hc1 : n ≤ c) (hc2 : c ≤ maxLen) (hnil : A = none → c = 0) (hh : Has w1 A n l)
    (hx : ∀ x, A = some x → w.heap.size ≤ x.block ∧ x.block < w1.heap.size ∧ ∃ b o, x = ⟨b, o, none⟩) :
    ReadDone w n l (.returned (.pointer (some ⟨w1.heap.size, 0, none⟩))) (w1.alloc (.cells #[.slice A n c, .bool false] 87)) := by
  refine ⟨w1.heap.size, A, c, rfl, ⟨heap_alloc_new _ _, hh.below ((Below.refl _ _).alloc (Nat.le_refl _) _), fun x e => ⟨?_, (hx x e).2.2⟩, ⟨hc1, hc2⟩, hnil⟩, hb.alloc hb.size _, hb.size, fun x e => (hx x e).1⟩
  have := (hx x e).2.1
  omega

set_option maxHeartbeats 400000 in
theorem read_any (A : Option Addr) (n cap : Nat) (l : List (BitVec 8)) (w : World) (hn : n ≤ 1000000) (h : Has w A n l) :
    Calls Try.prog 23 #[.slice A n cap] w (ReadDone w n l) := by
  go_enter Try.func23, Try.ntmps23
  go_wp2_with fail
  refine (clone_any _ _ _ l _ hn h).mono ?_
  rintro e w1 ⟨v, rfl, hown, hb⟩
  obtain ⟨A1, c1, rfl, hc1, hc2, hnil, hh, hx⟩ := own_slice hown
  have R := Lib.hid (read_made hb hc1 hc2 hnil hh hx)
  clear hown hb hc1 hc2 hnil hh hx h
  go_wp2
  go_ret
  exact R.out

/-- The reader may read no more. -/
def NextBad (w : World) (g : Nat) (e : Ending) (w' : World) : Prop := e = .returned (.slice none 0 0) ∧ Rd w' g none 0 0 [] true ∧ But (fun k => k = g) w w'
/-- The next s bytes lie where what is left lay; behind them it goes on. -/
def NextGood (w : World) (g : Nat) (A : Option Addr) (c s : Nat) (l : List (BitVec 8)) (f : Bool) (e : Ending) (w' : World) : Prop :=
  e = .returned (.slice A s c) ∧ (∃ A2 c2, Rd w' g A2 (l.length - s) c2 (l.drop s) f ∧ ∀ x, A2 = some x → ∃ y, A = some y ∧ x.block = y.block) ∧ But (fun k => k = g) w w'

theorem next_bad_made {w : World} {g : Nat} {A : Option Addr} {n c : Nat} {l : List (BitVec 8)} {f : Bool} (h : Rd w g A n c l f) :
    NextBad w g (.returned (.slice none 0 0)) ((w.setCell ⟨g, 0, none⟩ (.slice none 0 0)).setCell ⟨g, 1, none⟩ (.bool true)) := by
  have e1 := heap_setCell_same w g 0 _ _ (.slice none 0 0) h.at_
  have e2 := heap_setCell_same _ g 1 _ _ (.bool true) e1
  refine ⟨rfl, ⟨e2, Has.nil _ _, fun x e => (by cases e), ⟨Nat.le_refl _, by unfold maxLen; omega⟩, fun _ => rfl⟩, ?_⟩
  exact ((But.refl (fun k => k = g) w).setCell (p := ⟨g, 0, none⟩) (fun _ => rfl) _).setCell (p := ⟨g, 1, none⟩) (fun _ => rfl) _

set_option maxHeartbeats 400000 in
theorem next_bad (g : Nat) (A : Option Addr) (n c : Nat) (l : List (BitVec 8)) (f : Bool) (s : Int) (w : World) (hs : s < 0 ∨ (n : Int) < s) (h : Rd w g A n c l f) :
    Calls Try.prog 49 #[.pointer (some ⟨g, 0, none⟩), .int .i64 s] w (NextBad w g) := by
  have hc0 := h.cell0
  have hc1 := h.cell1
  have hf0 := h.frozen 0
  have hf1 := h.frozen 1
  have R := Lib.hid (next_bad_made h)
  clear h
  rcases hs with hs | hs
  · go_enter Try.func49, Try.ntmps49
    go_wp2
    go_ret
    exact R.out
  · have h0 : 0 ≤ s := by omega
    have h0' : ¬ s < 0 := by omega
    go_enter Try.func49, Try.ntmps49
    go_wp2
    go_ret
    exact R.out

theorem next_good_made {w : World} {g b o s n c : Nat} {l : List (BitVec 8)} {f : Bool} {A2 : Option Addr} (h : Rd w g (some ⟨b, o, none⟩) n c l f) (hs : s ≤ n) (hA : (c = s ∧ A2 = some ⟨b, o, none⟩) ∨ (A2 = some ⟨b, o + s, none⟩)) :
    NextGood w g (some ⟨b, o, none⟩) c s l f (.returned (.slice (some ⟨b, o, none⟩) s c)) (w.setCell ⟨g, 0, none⟩ (.slice A2 (n - s) (c - s))) := by
  have hn : l.length = n := h.has.1
  subst hn
  have e1 := heap_setCell_same w g 0 _ _ (.slice A2 (l.length - s) (c - s)) h.at_
  have hb := (But.refl (fun k => k = g) w).setCell (p := ⟨g, 0, none⟩) (fun _ => rfl) (.slice A2 (l.length - s) (c - s))
  have hbg : b ≠ g := (h.off _ rfl).1
  have hc := h.cap
  refine ⟨rfl, ⟨A2, c - s, ⟨e1, ?_, ?_, ⟨by omega, by omega⟩, ?_⟩, ?_⟩, hb⟩
  · rcases hA with ⟨hcs, rfl⟩ | rfl
    · have h0 : l.length - s = 0 := by omega
      rw [h0, List.drop_eq_nil_of_le (by omega)]
      exact Has.nil _ _
    · refine (h.has.drop s hs).but hb ?_
      rintro x e
      injection e with e
      subst e
      exact hbg
  · rintro x e
    rcases hA with ⟨_, rfl⟩ | rfl
    · injection e with e
      subst e
      exact ⟨hbg, _, _, rfl⟩
    · injection e with e
      subst e
      exact ⟨hbg, _, _, rfl⟩
  · rintro rfl
    rcases hA with ⟨_, e⟩ | e <;> cases e
  · rintro x e
    refine ⟨_, rfl, ?_⟩
    rcases hA with ⟨_, rfl⟩ | rfl
    · injection e with e
      subst e
      rfl
    · injection e with e
      subst e
      rfl

set_option maxHeartbeats 400000 in
theorem next_good (g : Nat) (A : Option Addr) (n c : Nat) (l : List (BitVec 8)) (f : Bool) (s : Nat) (w : World) (hs : s ≤ n) (h : Rd w g A n c l f) :
    Calls Try.prog 49 #[.pointer (some ⟨g, 0, none⟩), .int .i64 s] w (NextGood w g A c s l f) := by
  have hc0 := h.cell0
  have hf0 := h.frozen 0
  have hcap := h.cap
  obtain ⟨hnc, hcm⟩ := hcap
  unfold maxLen at hcm
  rcases A with _ | x
  · obtain rfl : c = 0 := h.nil rfl
    obtain rfl : n = 0 := by omega
    obtain rfl : s = 0 := by omega
    have hn : l.length = 0 := h.has.1
    obtain rfl : l = [] := List.eq_nil_of_length_eq_zero hn
    have R : NextGood w g none 0 0 [] f (.returned (.slice none 0 0)) (w.setCell ⟨g, 0, none⟩ (.slice none 0 0)) :=
      ⟨rfl, ⟨none, 0, ⟨heap_setCell_same w g 0 _ _ (.slice none 0 0) h.at_, Has.nil _ _, fun x e => (by cases e), ⟨Nat.le_refl _, by unfold maxLen; omega⟩, fun _ => rfl⟩, fun x e => (by cases e)⟩, (But.refl (fun k => k = g) w).setCell (p := ⟨g, 0, none⟩) (fun _ => rfl) _⟩
    have R' := Lib.hid R
    clear R h hnc hcm hs
    go_enter Try.func49, Try.ntmps49
    go_wp2
    go_ret
    exact R'.out
  · obtain ⟨hxg, b, o, rfl⟩ := h.off _ rfl
    by_cases hcs : c = s
    · have R := Lib.hid (next_good_made h hs (.inl ⟨hcs, rfl⟩))
      clear h
      obtain rfl : n = c := by omega
      subst hcs
      rw [Nat.sub_self] at R
      go_enter Try.func49, Try.ntmps49
      go_wp2
      go_ret
      exact R.out
    · have R := Lib.hid (next_good_made h hs (.inr rfl))
      clear h
      go_enter Try.func49, Try.ntmps49
      go_wp2
      go_ret
      exact R.out

end Go.Proofs.Ytlmponcoghfghaa
