/-
  THE BOOK AS IT LIES IN MEMORY; THE WALK OF op.
-/
import Derived.Test.YtlcnpjkifokhdaaDisk4
import Derived.BigRegion
namespace Go.Proofs.Ytlcnpjkifokhdaa
open Go.RowKit Go.Maps Go.Shelf
set_option linter.unusedVariables false
set_option maxRecDepth 100000

abbrev zeros : Bytes := [0#8, 0#8, 0#8]
def bcells (on wt : Nat → Value) (wr : Nat → Int) (dead : Bool) (fb u : Int) : Array Value :=
  #[on 0, on 1, on 2, on 3, on 4, on 5, wt 0, wt 1, wt 2, wt 3, wt 4, wt 5, .int .i64 (wr 0), .int .i64 (wr 1), .int .i64 (wr 2), .int .i64 (wr 3), .int .i64 (wr 4), .int .i64 (wr 5), .bool dead, .int .i64 fb, .int .i64 u]
def setN {α : Type} (f : Nat → α) (i : Nat) (v : α) : Nat → α := fun j => if j = i then v else f j
theorem six {i : Nat} (h : i < 6) : i = 0 ∨ i = 1 ∨ i = 2 ∨ i = 3 ∨ i = 4 ∨ i = 5 := by omega

section
variable {on wt : Nat → Value} {wr : Nat → Int} {dead : Bool} {fb u : Int}
theorem bc_on {i : Nat} (h : i < 6) : (bcells on wt wr dead fb u)[i]? = some (on i) := by rcases six h with rfl | rfl | rfl | rfl | rfl | rfl <;> rfl
theorem bc_wt {i : Nat} (h : i < 6) : (bcells on wt wr dead fb u)[6 + i]? = some (wt i) := by rcases six h with rfl | rfl | rfl | rfl | rfl | rfl <;> rfl
theorem bc_wr {i : Nat} (h : i < 6) : (bcells on wt wr dead fb u)[12 + i]? = some (.int .i64 (wr i)) := by rcases six h with rfl | rfl | rfl | rfl | rfl | rfl <;> rfl
theorem bs_on {i : Nat} (h : i < 6) (v : Value) : (bcells on wt wr dead fb u).setIfInBounds i v = bcells (setN on i v) wt wr dead fb u := by rcases six h with rfl | rfl | rfl | rfl | rfl | rfl <;> rfl
theorem bs_wt {i : Nat} (h : i < 6) (v : Value) : (bcells on wt wr dead fb u).setIfInBounds (6 + i) v = bcells on (setN wt i v) wr dead fb u := by rcases six h with rfl | rfl | rfl | rfl | rfl | rfl <;> rfl
theorem bs_wr {i : Nat} (h : i < 6) (v : Int) : (bcells on wt wr dead fb u).setIfInBounds (12 + i) (.int .i64 v) = bcells on wt (setN wr i v) dead fb u := by rcases six h with rfl | rfl | rfl | rfl | rfl | rfl <;> rfl
end

def OnOK (w : World) (U : Nat → Prop) (b : Nat) (c : Int → Option Bytes) (on : Nat → Value) : Prop :=
  ∀ i, i < 6 → ∃ x cap, on i = .slice (some x) 3 cap ∧ Has w (some x) 3 ((c i).getD zeros) ∧ U x.block ∧ ¬ x.block = b
def WtOK (w : World) (U : Nat → Prop) (b : Nat) (c : Int → Option Bytes) (wt : Nat → Value) : Prop :=
  ∀ i, i < 6 → (wt i = .slice none 0 0 ∧ c i = none) ∨ ∃ x cap l, wt i = .slice (some x) 3 cap ∧ c i = some l ∧ Has w (some x) 3 l ∧ U x.block ∧ ¬ x.block = b
def Alike (fb f : Int) : Prop := fb = f ∨ (fb < 0 ∧ f < 0)

/-- The book at block b says what the disk s is, behind u operations; U: the blocks that are its own. -/
structure Book (w : World) (b : Nat) (U : Nat → Prop) (s : DS) (u : Int) (on wt : Nat → Value) (fb : Int) : Prop where
  at_ : At w b (bcells on wt (fun i => s.writes i) s.dead fb u) 32
  onOK : OnOK w U b s.on on
  wtOK : WtOK w U b s.wait wt
  fail : Alike fb s.failAt
  own : U b
  lt : ∀ k, U k → k < w.heap.size
def Bk (w : World) (b : Nat) (U : Nat → Prop) (s : DS) (u : Int) : Prop := ∃ on wt fb, Book w b U s u on wt fb

section
variable {w w' : World} {b : Nat} {U U' S : Nat → Prop} {s : DS} {u : Int} {c : Int → Option Bytes} {on wt : Nat → Value} {fb : Int}
theorem OnOK.but (h : OnOK w U b c on) (hb : But S w w') (hS : ∀ k, U k → ¬ k = b → ¬ S k) : OnOK w' U b c on := fun i hi => by
  obtain ⟨x, cap, h1, h2, h3, h4⟩ := h i hi
  exact ⟨x, cap, h1, h2.but hb (fun y hy => by injection hy with hy; subst hy; exact hS _ h3 h4), h3, h4⟩
theorem WtOK.but (h : WtOK w U b c wt) (hb : But S w w') (hS : ∀ k, U k → ¬ k = b → ¬ S k) : WtOK w' U b c wt := fun i hi => by
  rcases h i hi with h | ⟨x, cap, l, h1, h2, h3, h4, h5⟩
  · exact .inl h
  · exact .inr ⟨x, cap, l, h1, h2, h3.but hb (fun y hy => by injection hy with hy; subst hy; exact hS _ h4 h5), h4, h5⟩
theorem OnOK.mono (h : OnOK w U b c on) (hU : ∀ k, U k → U' k) : OnOK w U' b c on := fun i hi => by
  obtain ⟨x, cap, h1, h2, h3, h4⟩ := h i hi
  exact ⟨x, cap, h1, h2, hU _ h3, h4⟩
theorem WtOK.mono (h : WtOK w U b c wt) (hU : ∀ k, U k → U' k) : WtOK w U' b c wt := fun i hi => by
  rcases h i hi with h | ⟨x, cap, l, h1, h2, h3, h4, h5⟩
  · exact .inl h
  · exact .inr ⟨x, cap, l, h1, h2, h3, hU _ h4, h5⟩
theorem Book.but (h : Book w b U s u on wt fb) (hb : But S w w') (hS : ∀ k, U k → ¬ S k) : Book w' b U s u on wt fb :=
  { h with
    at_ := h.at_.but hb (hS _ h.own)
    onOK := h.onOK.but hb (fun k hk _ => hS k hk)
    wtOK := h.wtOK.but hb (fun k hk _ => hS k hk)
    lt := fun k hk => Nat.lt_of_lt_of_le (h.lt k hk) hb.size }
theorem Bk.but (h : Bk w b U s u) (hb : But S w w') (hS : ∀ k, U k → ¬ S k) : Bk w' b U s u := by
  obtain ⟨on, wt, fb, h⟩ := h
  exact ⟨on, wt, fb, h.but hb hS⟩
theorem Bk.drewN (h : Bk w b U s u) (n : Nat) : Bk (w.drewN n) b U s u := h.but (S := fun _ => False) ((But.refl _ _).drewN n) (fun _ _ h => h)
theorem Bk.up (h : Bk w b U s u) (hb : Below w.heap.size w w') : Bk w' b U s u := h.but (S := fun _ => False) (But.of_below hb) (fun _ _ h => h)
/-- A cell of the book turned. -/
theorem Book.put {s' : DS} {u' : Int} {on' wt' : Nat → Value} {fb' : Int} (h : Book w b U s u on wt fb) {j : Nat} {v : Value}
    (hc : (bcells on wt (fun i => s.writes i) s.dead fb u).setIfInBounds j v = bcells on' wt' (fun i => s'.writes i) s'.dead fb' u') (h1 : OnOK w U b s'.on on') (h2 : WtOK w U b s'.wait wt') (h3 : Alike fb' s'.failAt) : Book (w.setCell ⟨b, j, none⟩ v) b U s' u' on' wt' fb' := by
  have hb := But.own w b j v
  refine ⟨?_, h1.but hb (fun k _ hk e => hk e), h2.but hb (fun k _ hk e => hk e), h3, h.own, fun k hk => Nat.lt_of_lt_of_le (h.lt k hk) hb.size⟩
  rw [← hc]
  exact h.at_.set j v
theorem Book.cells (h : Book w b U s u on wt fb) : w.cell? ⟨b, 18, none⟩ = some (.bool s.dead) ∧ w.cell? ⟨b, 19, none⟩ = some (.int .i64 fb) ∧ w.cell? ⟨b, 20, none⟩ = some (.int .i64 u) :=
  ⟨h.at_.cell 18, h.at_.cell 19, h.at_.cell 20⟩
end

theorem opd (s : DS) (u : Int) (d : Bool) (h : (s.op u).dead = d) : s.op u = { s with dead := d } := by rw [← h]; rfl

section
variable {w : World} {b : Nat} {U : Nat → Prop} {s : DS} {u : Int}

set_option maxHeartbeats 1600000 in
theorem bop_any (h : Bk w b U s u) (hu : 0 ≤ u ∧ u ≤ 1000000) : Calls Try.prog 32 #[.pointer (some ⟨b, 0, none⟩)] w fun e w' => e = .returned (.bool (s.op u).dead) ∧ Bk w' b U (s.op u) (u + 1) ∧ But (fun k => k = b) w w' := by
  obtain ⟨on, wt, fb, h⟩ := h
  obtain ⟨c18, c19, c20⟩ := h.cells
  have f18 := h.at_.frozen 18
  have f20 := h.at_.frozen 20
  have e1 : wrap64 (u + 1) = u + 1 := by unfold wrap64; omega
  have h1 : Book (w.setCell ⟨b, 20, none⟩ (.int .i64 (u + 1))) b U s (u + 1) on wt fb := h.put rfl h.onOK h.wtOK h.fail
  obtain ⟨d18, d19, d20⟩ := h1.cells
  have g18 := h1.at_.frozen 18
  have H := Lib.hid h
  have H1 := Lib.hid h1
  have B1 := Lib.hid (But.own w b 20 (.int .i64 (u + 1)))
  obtain ⟨W, hW⟩ : ∃ W, W = w.setCell ⟨b, 20, none⟩ (.int .i64 (u + 1)) := ⟨_, rfl⟩
  rw [← hW] at d18 d19 d20 g18 H1 B1
  clear h h1
  obtain ⟨D, hD⟩ : ∃ D, (s.op u).dead = D := ⟨_, rfl⟩
  have HD := Lib.hid hD
  have hfin := Lib.hid (show Bk (W.setCell ⟨b, 18, none⟩ (.bool D)).drew b U (s.op u) (u + 1) from by
    have hq := H1.out
    refine Bk.but (S := fun _ => False) ?_ (But.refl _ _).drew (fun _ _ h => h)
    exact ⟨on, wt, fb, by rw [opd s u D hD]; exact hq.put rfl hq.onOK hq.wtOK hq.fail⟩)
  have hbut := Lib.hid (show But (fun k => k = b) w (W.setCell ⟨b, 18, none⟩ (.bool D)).drew from (B1.out.trans (But.own _ b 18 _) (fun _ h _ => h)).drew)
  have HW := Lib.hid hW
  unfold DS.op at hD
  simp only at hD
  clear hW c19
  go_enter Try.func32, Try.ntmps32
  cases hd : s.dead
  · rw [hd] at hD d18
    by_cases h0 : 0 ≤ s.failAt
    · obtain rfl : fb = s.failAt := by
        rcases H.out.fail with h | h
        · exact h
        · omega
      by_cases h2 : s.failAt < u + 1
      · obtain rfl : D = true := by rw [← hD]; simp [h0, h2]
        clear hD
        go_wp2
        rw [← HW.out]
        go_region
        go_wp2
        go_ret
        exact ⟨by rw [HD.out]; rfl, hfin.out, hbut.out⟩
      · obtain rfl : D = false := by rw [← hD]; simp [h0, h2]
        have h2' : decide (s.failAt < u + 1) = false := decide_eq_false h2
        clear hD
        go_wp2
        rw [← HW.out]
        go_region
        go_wp2
        go_ret
        exact ⟨by rw [HD.out]; rfl, hfin.out, hbut.out⟩
    · have hfb : fb < 0 := by
        rcases H.out.fail with h | h
        · omega
        · exact h.1
      obtain rfl : D = false := by rw [← hD]; simp [h0]
      have hfb' : decide (0 ≤ fb) = false := decide_eq_false (by omega)
      clear hD
      go_wp2
      rw [← HW.out]
      go_region
      go_wp2
      go_ret
      exact ⟨by rw [HD.out]; rfl, hfin.out, hbut.out⟩
  · rw [hd] at hD d18
    obtain rfl : D = true := by rw [← hD]; rfl
    clear hD
    go_wp2
    rw [← HW.out]
    go_region
    go_wp2
    go_ret
    exact ⟨by rw [HD.out]; rfl, hfin.out, hbut.out⟩
end

end Go.Proofs.Ytlcnpjkifokhdaa
