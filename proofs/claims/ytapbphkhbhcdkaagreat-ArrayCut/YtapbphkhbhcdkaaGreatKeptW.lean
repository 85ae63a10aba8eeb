/-
  WHAT IS KEPT WHEN NOTHING WAITS; WHAT A CUT PUT AND A CYCLE OF ALL DISKS LEAVE.
-/
import Derived.Test.YtapbphkhbhcdkaaGreatCutF
import Derived.Test.YtapbphkhbhcdkaaGreatCyc
namespace Go.Proofs.YtapbphkhbhcdkaaGreat
open Go.RowKit Go.Maps
set_option linter.unusedVariables false
set_option maxRecDepth 100000

theorem kept_not {keep : Nat} {ss : List Int} {x : Int} (h : x ∉ ss) : ∀ k, k ≤ ss.length → kept keep ss x k = false := by
  intro k
  induction k with
  | zero => intro _; rfl
  | succ k ih =>
    intro hk
    unfold kept
    rw [ih (by omega)]
    have : ¬ ss.getD k 0 = x := by
      rw [List.getD_eq_getElem?_getD, List.getElem?_eq_getElem (by omega)]
      intro e
      exact h (e ▸ List.getElem_mem _)
    rw [decide_eq_false this]
    rfl
theorem cycle_read {d : DS} {keep : Nat} {ss : List Int} {x : Int} (hW : Waits d ss) (h0 : d.wait x = none) : (d.cycle keep ss).read x = d.read x := by
  have hx : x ∉ ss := fun e => by
    have := (hW.2 x).1 e
    rw [h0] at this
    cases this
  unfold DS.read DS.last DS.cycle mix
  simp only [kept_not hx _ (Nat.le_refl _), h0]
  simp

/-- The first j disks went through the outage. -/
structure CycTo (keep j : Nat) (s s' : AS) : Prop where
  eq : s' = { s with d := s'.d }
  disk : ∀ m, m < s.M → if m < j then ∃ ss, Waits (s.d m) ss ∧ s'.d m = (s.d m).cycle keep ss else s'.d m = s.d m

section
variable {s s' : AS} {H : Hv} {keep j : Nat}
theorem CycTo.start : CycTo keep 0 s s := ⟨rfl, fun m _ => by rw [if_neg (by omega)]⟩
theorem CycTo.same (h : CycTo keep j s s') : Same s s' := by unfold Same; rw [h.eq]
theorem CycTo.step {ss : List Int} (h : CycTo keep j s s') (hj : j < s.M) (hW : Waits (s'.d j) ss) : CycTo keep (j + 1) s (s'.hurt j ((s'.d j).cycle keep ss)) := by
  have e0 := h.disk j hj
  rw [if_neg (by omega)] at e0
  refine ⟨?_, fun m hm => ?_⟩
  · have := h.eq
    unfold AS.hurt
    rw [this]
  · show if m < j + 1 then ∃ ss', Waits (s.d m) ss' ∧ (if m = j then (s'.d j).cycle keep ss else s'.d m) = (s.d m).cycle keep ss' else (if m = j then (s'.d j).cycle keep ss else s'.d m) = s.d m
    have e1 := h.disk m hm
    by_cases e : m = j
    · subst e
      rw [if_pos (by omega)]
      rw [e0] at hW ⊢
      exact ⟨ss, hW, by simp⟩
    · by_cases e2 : m < j
      · rw [if_pos e2] at e1
        rw [if_pos (by omega), if_neg e]
        exact e1
      · rw [if_neg e2] at e1
        rw [if_neg (by omega), if_neg e]
        exact e1
theorem CycTo.calm (h : CycTo keep s.M s s') (c : Calm s) : Calm s' := by
  intro k
  have hk := c k
  have e := h.eq
  have eb : s'.broken = s.broken := by rw [e]
  have es : s'.stale = s.stale := by rw [e]
  refine ⟨by rw [eb]; exact hk.whole, by rw [es]; exact hk.stale, fun i hi hne => ?_⟩
  have hi' : i < s.M := by have := h.same.M; omega
  have h1 := h.disk i hi'
  rw [if_pos hi'] at h1
  obtain ⟨ss, _, e2⟩ := h1
  rw [e2]
  exact hk.live i hi' hne
theorem CycTo.inv (h : CycTo keep s.M s s') (hI : Inv s H) (hw : ∀ m, m < s.M → ∀ t f, H t = some f → (s.d m).wait (s.at_ t) = none) : Inv s' H := by
  intro m hm hs t f h0 h1 hf
  have hm' : m < s.M := by have := h.same.M; omega
  have es : s'.stale = s.stale := by rw [h.eq]
  rw [h.same.N] at h1
  rw [h.same.M, h.same.b, h.same.at_]
  have h2 := h.disk m hm'
  rw [if_pos hm'] at h2
  obtain ⟨ss, hW, e2⟩ := h2
  rw [e2, cycle_read hW (hw m hm' t f hf)]
  exact hI m hm' (by rw [← es]; exact hs) t f h0 h1 hf

/-- What is kept while nothing fails, and nothing waits. -/
def KeptW (s : AS) (H : Hv) : Prop := Kept s H ∧ ∀ m, m < s.M → ∀ x, (s.d m).wait x = none
theorem fl_wait {d : DS} {u : Int} (h : (d.fl u).dead = false) (x : Int) : (d.fl u).wait x = none := by
  cases hd : (d.op u).dead with
  | true => rw [DS.fl_no hd, hd] at h; cases h
  | false => rw [DS.fl_ok hd]; rfl
theorem put_keptW : PutInv false KeptW where
  step := fun s s' H t f h hw h0 h1 hr ht => by
    have k := put_calm.step s s' H t f h.1 hw h0 h1 hr ht
    refine ⟨k, fun m hm x => ?_⟩
    obtain ⟨u1, u2, e⟩ := hr.disk m (by rw [← hr.same.M]; exact hm)
    have hl := (k.1.live hm).1
    rw [e] at hl ⊢
    exact fl_wait hl x
  gone := fun s s' H t h hg => absurd (h.1.1 0) (hg.unsound 0)

theorem op_wait (d : DS) (u x : Int) : (d.op u).wait x = d.wait x := rfl
theorem put_wait {d : DS} {u i : Int} {b : Bytes} {x : Int} (hx : x ≠ i) (h : d.wait x = none) : (d.put u i b).wait x = none := by
  unfold DS.put
  split
  · exact h
  · show (if x = i then some b else (d.op u).wait x) = none
    rw [if_neg hx]
    exact h
theorem fl_wait_none {d : DS} {u x : Int} (h : d.wait x = none) : (d.fl u).wait x = none := by
  unfold DS.fl
  split
  · exact h
  · rfl
/-- Behind the cut, all other stripes are as they were, and none of their sectors waits. -/
theorem cut_inv {t : Int} {c : Int} {B : Nat → Bytes} (h : KeptW s H) (k : Rel (fun j d d' => Some1 (s.at_ t) (B j) d d') c s s') :
    Calm s' ∧ Inv s' (H.del t) ∧ ∀ m, m < s'.M → ∀ u f, (H.del t) u = some f → (s'.d m).wait (s'.at_ u) = none := by
  have hc := h.1.1.rel k
  have ne : ∀ u f, (H.del t) u = some f → u ≠ t ∧ H u = some f := fun u f hu => by
    unfold Hv.del at hu
    by_cases e : u = t
    · rw [if_pos e] at hu; cases hu
    · rw [if_neg e] at hu; exact ⟨e, hu⟩
  refine ⟨hc, ?_, ?_⟩
  · intro m hm hs u f h0 h1 hf
    have hlv := hc.live hm
    rw [k.same.M] at hm
    rw [k.same.N] at h1
    rw [k.same.M, k.same.b, k.same.at_]
    obtain ⟨n1, n2⟩ := ne u f hf
    have old := h.1.2 m hm (still k hs) u f h0 h1 n2
    rcases k.disk m hm with e | ⟨u1, e⟩ | ⟨u1, u2, e⟩
    · rw [e]; exact old
    · rw [e] at hlv ⊢
      rw [(put_turns (s.d m) u1 (s.at_ t) (B m)).read hlv.1]
      unfold with1
      rw [if_neg (at_ne n1)]
      exact old
    · rw [e] at hlv ⊢
      rw [(put_fl (s.d m) u1 u2 (s.at_ t) (B m)).read hlv.1]
      unfold with1
      rw [if_neg (at_ne n1)]
      exact old
  · intro m hm u f hf
    obtain ⟨n1, n2⟩ := ne u f hf
    rw [k.same.M] at hm
    rw [k.same.at_]
    have old := h.2 m hm (s.at_ u)
    rcases k.disk m hm with e | ⟨u1, e⟩ | ⟨u1, u2, e⟩
    · rw [e]; exact old
    · rw [e]; exact put_wait (at_ne n1) old
    · rw [e]; exact fl_wait_none (put_wait (at_ne n1) old)

/-- Behind the put, cut or not, and the cycle of all disks. -/
theorem cut_cycle {t : Int} {f : BitVec 8} {w w' : World} {P : Pl} {O : Nat → Prop} {s1 s2 : AS} {c : Int} (h : KeptW s H) (k : Rel (fun j d d' => Some1 (s.at_ t) (partF s.M s.b.toNat t f j) d d') c s s1) (hC : CycTo keep s1.M s1 s2) : Kept s2 (H.del t) := by
  obtain ⟨k1, k2, k3⟩ := cut_inv h k
  exact ⟨hC.calm k1, hC.inv k2 k3⟩
theorem put_cycle {s1 s2 : AS} (h : KeptW s1 H) (hC : CycTo keep s1.M s1 s2) : Kept s2 H :=
  ⟨hC.calm h.1.1, hC.inv h.1.2 (fun m hm t f _ => h.2 m hm _)⟩
end
end Go.Proofs.YtapbphkhbhcdkaaGreat
