/-
  A MEMBER THAT IS NOT CURRENT: what is kept while it is made anew.
-/
import Derived.Test.YtapbphkhbhcdkaaFinW
namespace Go.Proofs.Ytapbphkhbhcdkaa
open Go.RowKit Go.Maps
set_option linter.unusedVariables false
set_option maxRecDepth 100000

/-- Member k is not current; all others are, and do not fail. -/
structure KD (k : Nat) (s : AS) (H : Hv) : Prop where
  sound : Sound k s
  inv : Inv s H
  stale : s.stale = (k : Int)
  lt : k < s.M
section
variable {w w' : World} {P : Pl} {O : Nat → Prop} {s s' : AS} {H : Hv} {k : Nat} {c er i : Int} {b : Bytes}
theorem KD.rel (h : KD k s H) (hr : Rel (fun _ => Aged) c s s') : KD k s' H :=
  ⟨hr.sound k h.sound, inv_read h.inv hr, by
    rcases hr.stale with e | ⟨e, _⟩
    · rw [e]; exact h.stale
    · have := h.stale; omega, by rw [hr.same.M]; exact h.lt⟩
theorem KD.no (h : KD k s H) (hg : Gone c s s') : False := hg.unsound k h.sound
theorem read_dead {k : Nat} : ReadInv false (KD k) where
  right := fun s H h _ => h.inv
  read := fun s s' H h hr => h.rel hr
  gone := fun s s' H h hg => absurd h.sound (hg.unsound k)
/-- What the others are stays; k's disk is another one. -/
theorem KD.only (h : KD k s H) (sm : Same s s') (hs : s'.stale = s.stale) (hb : s'.broken = s.broken) (ho : ∀ j, j ≠ k → s'.d j = s.d j) : KD k s' H :=
  ⟨⟨hb.trans h.sound.whole, by rw [hs]; exact h.sound.stale, fun j hj hne => by rw [ho j hne]; rw [sm.M] at hj; exact h.sound.live j hj hne⟩, fun j hj hne t f h0 h1 hf => by
    rw [hs, h.stale] at hne
    rw [sm.M] at hj
    rw [sm.N] at h1
    rw [sm.M, sm.b, sm.at_, ho j (by omega)]
    exact h.inv j hj (by rw [h.stale]; exact hne) t f h0 h1 hf, by rw [hs]; exact h.stale, by rw [sm.M]; exact h.lt⟩
theorem kd_mend (h : KD k s H) (hm : MendAs k i s s' er) : KD k s' H ∧ Same s s' ∧ s'.u ≤ s.u + 20 ∧ ((s.d k).dead = true → er = 8 ∧ (s'.d k).dead = true) ∧ (Live (s.d k) → er = 0 ∧ Live (s'.d k)) := by
  cases hm with
  | gone hg => exact (h.no hg).elim
  | done er s1 hr hs hf =>
    have h1 := h.rel hr
    have h2 := h1.only hf.same_ hf.stale hf.broken hf.other
    have hu := hf.u.2
    have hu1 := hr.u.2
    have ha := hr.disk k h.lt
    refine ⟨h2, hr.same.trans hf.same_, by simp at hu; omega, fun hd => ?_, fun hl => ?_⟩
    · have hd2 := hf.turns.dies (ha.dies hd)
      rcases hf.er with ⟨_, e⟩ | ⟨e, _⟩
      · have := e (by simp); rw [hd2] at this; cases this
      · exact ⟨e, hd2⟩
    · have e1 := ha.live hl
      have hl2 := (hf.turns.live (by rw [e1]; exact hl)).1
      rcases hf.er with ⟨e, _⟩ | ⟨_, e⟩
      · exact ⟨e, hl2⟩
      · rw [hl2.1] at e; cases e
theorem kd_fin (h : KD k s H) (hm : FinAs k b s s' er) (hd : (s.d k).dead = true) : er = 8 ∧ KD k s' H ∧ Same s s' ∧ s'.u ≤ s.u + 2100 ∧ (s'.d k).dead = true := by
  cases hm with
  | gone hg => exact (h.no hg).elim
  | dead s1 hr hs same other hu hd' =>
    have sm : Same s1 s' := by unfold Same; rw [same]
    exact ⟨rfl, (h.rel hr).only sm (by rw [same]) (by rw [same]) other, hr.same.trans sm, hu.2, hd'⟩
  | done s1 l hr hs hl same other hu turns hd' =>
    have := turns.dies ((hr.disk k h.lt).dies hd)
    rw [hd'] at this
    cases this
theorem lose_first (k : Nat) (h : s.stale = -1) : s.lose k = { s with stale := (k : Int), u := s.u + 1 } ∧ s.loss k = 0 := by
  unfold AS.lose AS.loss
  rw [if_neg (by omega), if_pos h, if_neg (by omega), if_pos h]
  exact ⟨rfl, rfl⟩
theorem lose_again (h : s.stale = (k : Int)) : s.lose k = s ∧ s.loss k = 0 := by
  unfold AS.lose AS.loss
  rw [if_pos h, if_pos h]
  exact ⟨rfl, rfl⟩
theorem AS.Wf.less (h : s.Wf) : (s.S : Int) ≤ 2000000000 ∧ 0 < (s.S : Int) := by
  have h1 := h.sect
  have h2 := h.few
  have h3 := h.n
  have h4 := h.some_
  unfold AS.N at h3
  omega
end
end Go.Proofs.Ytapbphkhbhcdkaa
