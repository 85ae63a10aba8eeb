/-
  WHILE NOTHING FAILS: a member is read; what the members have of a stripe is, bit by bit, noughts.
-/
import Derived.Test.YtapbphkhbhcdkaaBegin
namespace Go.Proofs.Ytapbphkhbhcdkaa
open Go.RowKit Go.Maps
set_option linter.unusedVariables false
set_option maxRecDepth 100000

/-- So many operations were done. -/
def AS.tick (s : AS) (u : Int) : AS := { s with u := u }
theorem parB_zero {x : Nat} : ∀ L : List Bytes, (∀ l ∈ L, l.getD x 0#8 = 0#8) → parB L x = 0#8
  | [], _ => rfl
  | l :: r, h => by
    show l.getD x 0#8 ^^^ parB r x = 0#8
    rw [h l (by simp), parB_zero r (fun y hy => h y (by simp [hy])), BitVec.xor_zero]
theorem parB_next (f : Nat → Bytes) (x m : Nat) : parB ((List.range (m + 1)).map f) x = parB ((List.range m).map f) x ^^^ (f m).getD x 0#8 := by
  rw [List.range_succ, List.map_append, parB_append]
  congr 1
  show (f m).getD x 0#8 ^^^ parB [] x = _
  rw [show parB [] x = 0#8 from rfl, BitVec.xor_zero]
theorem tab_at {n : Nat} {f : Nat → BitVec 8} {x : Nat} (h : x < n) : (tab n f).getD x 0#8 = f x := by
  rw [List.getD_eq_getElem?_getD, List.getElem?_eq_getElem (by rw [tab_len]; exact h), Option.getD_some, tab_get]
theorem part_sum {M nb : Nat} (hM : 2 ≤ M) {t : Int} (ht : 0 ≤ t) (f : BitVec 8) {x : Nat} (hx : x < nb) : parB ((List.range M).map (partF M nb t f)) x = 0#8 := by
  have h := spread_sum (M := M) (C := chunkB nb f) (X := tab nb (parB ((List.range (M - 1)).map (chunkB nb f)))) ht hM x (M - 1) (Nat.le_refl _)
  have e : parB ((List.range M).map (partF M nb t f)) x = parB ((List.range M).map (spreadB t M (chunkB nb f) (tab nb (parB ((List.range (M - 1)).map (chunkB nb f)))) (M - 1))) x := rfl
  rw [e, h, tab_at hx, BitVec.xor_self]
/-- Stripes that were not put read as noughts. -/
def KeptP (s : AS) (H : Hv) : Prop := Calm s ∧ Inv s H ∧ ∀ m : Nat, m < s.M → ∀ t, 0 ≤ t → t < s.N → H t = none → (s.d m).read (s.at_ t) = List.replicate s.b.toNat 0#8
section
variable {B : Nat} {w0 w w' : World} {R q cap : Nat} {P : Pl} {O : Nat → Prop} {s s' : AS} {hb : Nat} {H : Hv}
theorem put_parity : PutInv false KeptP where
  step := fun s s' H t f h _ _ _ hr ht => ⟨h.1.rel hr, inv_put h.2.1 hr ht, fun m hm t' h0 h1 hn => by
    have hl := ((h.1.rel hr).live hm).1
    rw [hr.same.M] at hm
    rw [hr.same.N] at h1
    rw [hr.same.at_, hr.same.b]
    obtain ⟨u1, u2, e⟩ := hr.disk m hm
    rw [e, (put_fl _ _ _ _ _).read (by rw [← e]; exact hl)]
    unfold Hv.set at hn
    by_cases et : t' = t
    · rw [if_pos et] at hn; cases hn
    · rw [if_neg et] at hn
      unfold with1
      rw [if_neg (at_ne et)]
      exact h.2.2 m hm t' h0 h1 hn⟩
  gone := fun s s' H t h hg => absurd (h.1 0) (hg.unsound 0)
theorem kept_rows (h : KeptP s H) (wf : s.Wf) {t : Int} (ht : 0 ≤ t ∧ t < s.N) : (∀ m : Nat, m < s.M → ((s.d m).read (s.at_ t)).length = s.b.toNat) ∧ ∀ x, x < s.b.toNat → parB ((List.range s.M).map (fun m => (s.d m).read (s.at_ t))) x = 0#8 := by
  have hM := wf.small.hm
  have hst := h.1.stale
  cases hf : H t with
  | none =>
    have e := fun m hm => h.2.2 m hm t ht.1 ht.2 hf
    refine ⟨fun m hm => by rw [e m hm, List.length_replicate], fun x hx => parB_zero _ (fun l hl => ?_)⟩
    obtain ⟨m, hm, rfl⟩ := List.mem_map.1 hl
    rw [e m (by simpa using hm), List.getD_eq_getElem?_getD, List.getElem?_replicate]
    split <;> rfl
  | some f =>
    have e := fun m (hm : m < s.M) => h.2.1 m hm (by omega) t f ht.1 ht.2 hf
    refine ⟨fun m hm => by rw [e m hm, part_len (by omega) t f hm], fun x hx => ?_⟩
    rw [List.map_congr_left (g := partF s.M s.b.toNat t f) (fun m hm => e m (by simpa using hm))]
    exact part_sum (by omega) ht.1 f hx
theorem live_turn {m : Nat} (h : Live (s.d m)) (u : Int) : (s.tick u).turn m (((s.tick u).d m).op (s.tick u).u) = s.tick (u + 1) := by
  have e : ((s.tick u).d m).op (s.tick u).u = s.d m := op_live h.1 h.2 _
  rw [e]
  unfold AS.turn AS.tick
  congr 1
  funext j
  by_cases ej : j = m
  · rw [if_pos ej, ej]
  · rw [if_neg ej]
/-- A member is read, while none fails. -/
theorem read_sys (m : Nat) (hc : Calm s) (hm : m < s.M) (i u : Int) (hi : 0 ≤ i ∧ i < (s.S : Int)) (h : Lw B w0 w R q cap P O (s.tick u) hb H) (hu : u ≤ 900000) :
    Calls Try.prog 31 #[ptr (P.g m), .int .i64 i] w fun e w' => ∃ v, e = .returned (.tuple #[v, .int .i64 0]) ∧ NewRow w w' v ((s.d m).read i) ∧ Lw B w0 w' R q cap P O (s.tick (u + 1)) hb H ∧ But O w w' := by
  have hl := hc.live hm
  have e : ((s.tick u).d m).op (s.tick u).u = s.d m := op_live hl.1 hl.2 _
  refine (dread (s := s.tick u) m hm i hi h.sys.rg.arr hu).mono ?_
  rintro e' w' ⟨v, rfl, hr, ha, hbt⟩
  refine ⟨v, ?_, ?_, ?_, hbt⟩
  · rw [e, hl.1]; rfl
  · rw [DS.got_ok i (by rw [e]; exact hl.1)] at hr; exact hr
  · rw [live_turn hl u] at ha
    exact h.keep (s' := s.tick (u + 1)) rfl ha hbt
end
end Go.Proofs.Ytapbphkhbhcdkaa
