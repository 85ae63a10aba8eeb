/-
  WHILE NOTHING FAILS: a member is read; a member that is made anew, stripe by stripe.
-/
import Derived.Test.YtapbphkhbhcdkaaFinD
namespace Go.Proofs.Ytapbphkhbhcdkaa
open Go.RowKit Go.Maps
set_option linter.unusedVariables false
set_option maxRecDepth 100000

/-- So many operations were done. -/
def AS.tick (s : AS) (u : Int) : AS := { s with u := u }
theorem parB_zero {x : Nat} : ∀ L : List Bytes, (∀ l ∈ L, l.getD x 0#8 = 0#8) → parB L x = 0#8
  | [], _ => rfl
  | l :: r, h => by
    show l.getD x 0#8 ^^^ parB r x = 0#8
    rw [h l (by simp), parB_zero r (fun y hy => h y (by simp [hy])), BitVec.xor_zero]
theorem parB_next (f : Nat → Bytes) (x m : Nat) : parB ((List.range (m + 1)).map f) x = parB ((List.range m).map f) x ^^^ (f m).getD x 0#8 := by
  rw [List.range_succ, List.map_append, parB_append]
  congr 1
  show (f m).getD x 0#8 ^^^ parB [] x = _
  rw [show parB [] x = 0#8 from rfl, BitVec.xor_zero]
theorem tab_at {n : Nat} {f : Nat → BitVec 8} {x : Nat} (h : x < n) : (tab n f).getD x 0#8 = f x := by
  rw [List.getD_eq_getElem?_getD, List.getElem?_eq_getElem (by rw [tab_len]; exact h), Option.getD_some, tab_get]
theorem part_sum {M nb : Nat} (hM : 2 ≤ M) {t : Int} (ht : 0 ≤ t) (f : BitVec 8) {x : Nat} (hx : x < nb) : parB ((List.range M).map (partF M nb t f)) x = 0#8 := by
  have h := spread_sum (M := M) (C := chunkB nb f) (X := tab nb (parB ((List.range (M - 1)).map (chunkB nb f)))) ht hM x (M - 1) (Nat.le_refl _)
  have e : parB ((List.range M).map (partF M nb t f)) x = parB ((List.range M).map (spreadB t M (chunkB nb f) (tab nb (parB ((List.range (M - 1)).map (chunkB nb f)))) (M - 1))) x := rfl
  rw [e, h, tab_at hx, BitVec.xor_self]
/-- Stripes that were not put read as noughts. -/
def KeptP (s : AS) (H : Hv) : Prop := Calm s ∧ Inv s H ∧ ∀ m : Nat, m < s.M → ∀ t, 0 ≤ t → t < s.N → H t = none → (s.d m).read (s.at_ t) = List.replicate s.b.toNat 0#8
section
variable {B : Nat} {w0 w w' : World} {R q cap : Nat} {P : Pl} {O : Nat → Prop} {s s' : AS} {hb : Nat} {H : Hv}
theorem put_parity : PutInv false KeptP where
  step := fun s s' H t f h _ _ _ hr ht => ⟨h.1.rel hr, inv_put h.2.1 hr ht, fun m hm t' h0 h1 hn => by
    have hl := ((h.1.rel hr).live hm).1
    rw [hr.same.M] at hm
    rw [hr.same.N] at h1
    rw [hr.same.at_, hr.same.b]
    obtain ⟨u1, u2, e⟩ := hr.disk m hm
    rw [e, (put_fl _ _ _ _ _).read (by rw [← e]; exact hl)]
    unfold Hv.set at hn
    by_cases et : t' = t
    · rw [if_pos et] at hn; cases hn
    · rw [if_neg et] at hn
      unfold with1
      rw [if_neg (at_ne et)]
      exact h.2.2 m hm t' h0 h1 hn⟩
  gone := fun s s' H t h hg => absurd (h.1 0) (hg.unsound 0)
theorem kept_rows (h : KeptP s H) (wf : s.Wf) {t : Int} (ht : 0 ≤ t ∧ t < s.N) : (∀ m : Nat, m < s.M → ((s.d m).read (s.at_ t)).length = s.b.toNat) ∧ ∀ x, x < s.b.toNat → parB ((List.range s.M).map (fun m => (s.d m).read (s.at_ t))) x = 0#8 := by
  have hM := wf.small.hm
  have hst := h.1.stale
  cases hf : H t with
  | none =>
    have e := fun m hm => h.2.2 m hm t ht.1 ht.2 hf
    refine ⟨fun m hm => by rw [e m hm, List.length_replicate], fun x hx => parB_zero _ (fun l hl => ?_)⟩
    obtain ⟨m, hm, rfl⟩ := List.mem_map.1 hl
    rw [e m (by simpa using hm), List.getD_eq_getElem?_getD, List.getElem?_replicate]
    split <;> rfl
  | some f =>
    have e := fun m (hm : m < s.M) => h.2.1 m hm (by omega) t f ht.1 ht.2 hf
    refine ⟨fun m hm => by rw [e m hm, part_len (by omega) t f hm], fun x hx => ?_⟩
    rw [List.map_congr_left (g := partF s.M s.b.toNat t f) (fun m hm => e m (by simpa using hm))]
    exact part_sum (by omega) ht.1 f hx
theorem live_turn {m : Nat} (h : Live (s.d m)) (u : Int) : (s.tick u).turn m (((s.tick u).d m).op (s.tick u).u) = s.tick (u + 1) := by
  have e : ((s.tick u).d m).op (s.tick u).u = s.d m := op_live h.1 h.2 _
  rw [e]
  unfold AS.turn AS.tick
  congr 1
  funext j
  by_cases ej : j = m
  · rw [if_pos ej, ej]
  · rw [if_neg ej]
/-- A member is read, while none fails. -/
theorem read_sys (m : Nat) (hc : Calm s) (hm : m < s.M) (i u : Int) (hi : 0 ≤ i ∧ i < (s.S : Int)) (h : Lw B w0 w R q cap P O (s.tick u) hb H) (hu : u ≤ 900000) :
    Calls Try.prog 31 #[ptr (P.g m), .int .i64 i] w fun e w' => ∃ v, e = .returned (.tuple #[v, .int .i64 0]) ∧ NewRow w w' v ((s.d m).read i) ∧ Lw B w0 w' R q cap P O (s.tick (u + 1)) hb H ∧ But O w w' := by
  have hl := hc.live hm
  have e : ((s.tick u).d m).op (s.tick u).u = s.d m := op_live hl.1 hl.2 _
  refine (dread (s := s.tick u) m hm i hi h.sys.rg.arr hu).mono ?_
  rintro e' w' ⟨v, rfl, hr, ha, hbt⟩
  refine ⟨v, ?_, ?_, ?_, hbt⟩
  · rw [e, hl.1]; rfl
  · rw [DS.got_ok i (by rw [e]; exact hl.1)] at hr; exact hr
  · rw [live_turn hl u] at ha
    exact h.keep (s' := s.tick (u + 1)) rfl ha hbt
end

/-- Member k is made anew: so many stripes are; the others have c in the sector behind the label. -/
structure MK (k : Nat) (T : Int) (c : Bytes) (s : AS) (H : Hv) : Prop where
  kd : KD k s H
  live : Live (s.d k)
  one : ∀ j, j < s.M → j ≠ k → (s.d j).read 1 = c
  made : ∀ t f, 0 ≤ t → t < T → t < s.N → H t = some f → (s.d k).read (s.at_ t) = partF s.M s.b.toNat t f k
/-- Member k may fail. -/
def Kept0 (k : Nat) (s : AS) (H : Hv) : Prop := Sound k s ∧ Inv s H
theorem read_kept {k : Nat} : ReadInv false (Kept0 k) where
  right := fun s H h _ => h.2
  read := fun s s' H h hr => ⟨hr.sound k h.1, inv_read h.2 hr⟩
  gone := fun s s' H h hg => absurd h.1 (hg.unsound k)
theorem at_one {s : AS} (wf : s.Wf) {t : Int} (ht : 0 ≤ t) : (1 : Int) ≠ s.at_ t ∧ 1 + 2 * pgs s.b s.g s.l ≤ s.at_ t := by
  have := wf.some_
  unfold AS.at_
  omega
theorem fill_one (R : Int → Bytes) (lo : Int) (b : Bytes) : fillR R lo [b] = with1 R lo b := by
  have := fillR_push R lo [] b
  rw [fillR_nil] at this
  simpa using this
section
variable {s s' : AS} {H : Hv} {k : Nat} {T c : Int} {cc b : Bytes} {er : Int}
theorem rel_live (h : KD k s H) (hl : Live (s.d k)) (hr : Rel (fun _ => Aged) c s s') : ∀ j, j < s.M → s'.d j = s.d j := by
  intro j hj
  by_cases e : j = k
  · rw [e] at hj ⊢; exact (hr.disk k hj).live hl
  · exact (hr.disk j hj).live (h.sound.live j hj e)
theorem MK.mend (h : MK k T cc s H) (wf : s.Wf) (hT : 0 ≤ T ∧ T < s.N) (hm : MendAs k (s.at_ T) s s' er) : er = 0 ∧ MK k (T + 1) cc s' H ∧ Same s s' ∧ s'.u ≤ s.u + 20 := by
  obtain ⟨q1, q2, q3, _, q5⟩ := kd_mend h.kd hm
  obtain ⟨e0, hl⟩ := q5 h.live
  have hM := wf.small.hm
  refine ⟨e0, ⟨q1, hl, ?_, ?_⟩, q2, q3⟩
  · intro j hj hne
    cases hm with
    | gone hg => exact (h.kd.no hg).elim
    | done er s1 hr hs hf =>
      rw [q2.M] at hj
      rw [hf.other j hne, rel_live h.kd h.live hr j hj]
      exact h.one j hj hne
  · intro t f h0 h1 h2 hf'
    cases hm with
    | gone hg => exact (h.kd.no hg).elim
    | done er s1 hr hs hf =>
      rw [q2.N] at h2
      rw [q2.M, q2.b, q2.at_, hf.turns.read hl.1, fill_one, rel_live h.kd h.live hr k h.kd.lt]
      unfold with1
      by_cases e : t = T
      · subst e
        rw [if_pos rfl]
        refine part_mend (by omega) h0 f h.kd.lt _ (fun j hj => ?_)
        unfold others
        by_cases e : j = k
        · rw [if_pos e, if_pos e]
        · rw [if_neg e, if_neg e]
          exact h.kd.inv j hj (by rw [h.kd.stale]; omega) t f h0 h2 hf'
      · rw [if_neg (at_ne e)]
        exact h.made t f h0 (by omega) h2 hf'
theorem put_made {k : Nat} {T : Int} {cc : Bytes} : PutInv false (MK k T cc) where
  step := fun s s' H t f h wf h0 h1 hr ht => by
    have hs : s'.stale = s.stale := by
      rcases hr.stale with e | ⟨e, _⟩
      · exact e
      · have := h.kd.stale; omega
    have sm := hr.same
    have turn : ∀ j, j < s.M → Turns (with1 (s.d j).read (s.at_ t) (partF s.M s.b.toNat t f j)) (s.d j) (s'.d j) := fun j hj => by
      obtain ⟨u1, u2, e⟩ := hr.disk j hj
      rw [e]
      exact put_fl _ _ _ _ _
    have live : ∀ j, j < s.M → Live (s.d j) := fun j hj => by
      by_cases e : j = k
      · rw [e]; exact h.live
      · exact h.kd.sound.live j hj e
    have rd : ∀ j, j < s.M → ∀ x, (s'.d j).read x = with1 (s.d j).read (s.at_ t) (partF s.M s.b.toNat t f j) x := fun j hj => ((turn j hj).live (live j hj)).2
    refine ⟨⟨hr.sound k h.kd.sound, inv_put h.kd.inv hr ht, by rw [hs]; exact h.kd.stale, by rw [sm.M]; exact h.kd.lt⟩, ((turn k h.kd.lt).live h.live).1, fun j hj hne => ?_, fun t' f' h0' h1' h2 hf => ?_⟩
    · rw [sm.M] at hj
      rw [rd j hj]
      unfold with1
      rw [if_neg (at_one wf h0).1]
      exact h.one j hj hne
    · rw [sm.N] at h2
      rw [sm.M, sm.b, sm.at_, rd k h.kd.lt]
      unfold with1
      unfold Hv.set at hf
      by_cases e : t' = t
      · subst e
        rw [if_pos rfl] at hf ⊢
        injection hf with hf
        rw [hf]
      · rw [if_neg e] at hf
        rw [if_neg (at_ne e)]
        exact h.made t' f' h0' h1' h2 hf
  gone := fun s s' H t h hg => absurd h.kd.sound (hg.unsound k)
theorem MK.finish (h : MK k T cc s H) (wf : s.Wf) (hT : s.N ≤ T) (hm : FinAs k b s s' er) : er = 0 ∧ Calm s' ∧ Inv s' H ∧ Same s s' ∧ s'.u ≤ s.u + 2100 ∧ (s'.d k).read 0 = b ∧ (s'.d k).read 1 = cc := by
  have hM := wf.small.hm
  have hp := wf.some_
  cases hm with
  | gone hg => exact (h.kd.no hg).elim
  | dead s1 hr hs same other hu hd why =>
    rw [rel_live h.kd h.live hr k h.kd.lt] at why
    rcases why with e | e
    · rw [h.live.1] at e; cases e
    · have := h.live.2; omega
  | done s1 l hr hs hl same other hu turns hd =>
    have ek := rel_live h.kd h.live hr
    rw [ek k h.kd.lt] at turns
    obtain ⟨lk, rk⟩ := turns.live h.live
    have sm : Same s s' := hr.same.trans (by unfold Same; rw [same])
    have st : s'.stale = -1 := by rw [same]
    have br : s'.broken = false := by rw [same]; exact hr.whole.2
    have all : ∀ j, j < s.M → Live (s'.d j) := fun j hj => by
      by_cases e : j = k
      · rw [e]; exact lk
      · rw [other j e, ek j hj]; exact h.kd.sound.live j hj e
    have ll : (l.length : Int) = 2 * pgs s.b s.g s.l := by rw [hl, List.length_map, List.length_range]; omega
    refine ⟨rfl, fun i => ⟨br, .inl st, fun j hj _ => all j (by rw [← sm.M]; exact hj)⟩, ?_, sm, hu.2, ?_, ?_⟩
    · intro j hj hne t f h0 h1 hf
      rw [sm.M] at hj
      rw [sm.N] at h1
      rw [sm.M, sm.b, sm.at_]
      by_cases e : j = k
      · subst e
        have ha := (at_one wf h0).2
        rw [rk]
        unfold fillR
        rw [if_neg (by simp; omega), if_neg (by omega)]
        exact h.made t f h0 (by omega) h1 hf
      · rw [other j e, ek j hj]
        exact h.kd.inv j hj (by rw [h.kd.stale]; omega) t f h0 h1 hf
    · rw [rk]
      unfold fillR
      rw [if_pos (by simp)]
      rfl
    · rw [rk]
      unfold fillR
      rw [if_neg (by simp), if_pos (by omega), hl]
      have hf1 : fst k < s.M ∧ fst k ≠ k := by unfold fst; split <;> omega
      obtain ⟨q, hq⟩ : ∃ q, (2 * pgs s.b s.g s.l).toNat = q + 1 := ⟨(2 * pgs s.b s.g s.l).toNat - 1, by omega⟩
      rw [hq, List.range_succ_eq_map]
      show (s.d (fst k)).read (1 + ((0 : Nat) : Int)) = cc
      exact h.one _ hf1.1 hf1.2
end
end Go.Proofs.Ytapbphkhbhcdkaa
