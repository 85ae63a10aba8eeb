/-
  TEXTS JOINED: LgR.
-/
import Derived.Test.YtplmdmchkaacoaaGreatJ47

/-
  WHAT EACH BLOCK READS AS, ahead of a stripe and behind it: numbers only.
-/
namespace Go.Proofs.YtplmdmchkaacoaaGreat
open Go.RowKit
open L7 (Rr Rc)
open L12 (Sg)
open L13 (setN)
set_option linter.unusedVariables false
set_option maxRecDepth 100000

section
variable {α : Type}
theorem vw_apart (f : α → Int) : ∀ l : List α, (L14.vw f l).Pairwise (fun a b => f a ≠ f b)
  | [] => List.Pairwise.nil
  | r :: t => by
    rw [L14.vw_cons]
    split
    · rename_i h
      rw [List.pairwise_cons]
      exact ⟨fun y hy e => L14.free_iff.1 h y (L14.vw_mem hy) e.symm, vw_apart f t⟩
    · exact vw_apart f t
theorem fl_got {f : α → Int} {k : Int} {x : α} : ∀ {l : List α}, L14.fl f k l = some x → x ∈ l ∧ f x = k
  | r :: t, h => by
    rw [L14.fl_cons] at h
    split at h
    · split at h
      · rename_i e
        injection h with h
        subst h
        exact ⟨List.mem_cons_self, e⟩
      · cases h
    · exact ⟨List.mem_cons_of_mem _ (fl_got h).1, (fl_got h).2⟩
theorem fl_free {f : α → Int} {k : Int} : ∀ {l : List α}, L14.fl f k l = none → L14.free f k l = true
  | [], _ => rfl
  | r :: t, h => by
    rw [L14.fl_cons] at h
    split at h
    · rename_i e
      split at h
      · cases h
      · rename_i e2
        rw [L14.free_cons, e, Bool.and_true]
        exact decide_eq_true e2
    · rename_i e
      exact absurd (fl_free h) e
theorem free_app (f : α → Int) (k : Int) (l m : List α) : L14.free f k (l ++ m) = (L14.free f k l && L14.free f k m) := by
  unfold L14.free
  exact List.all_append
theorem fl_app_some {f : α → Int} {k : Int} {x : α} {m : List α} (h : L14.fl f k m = some x) : ∀ l : List α, L14.fl f k (l ++ m) = some x
  | [] => h
  | r :: t => by
    rw [List.cons_append, L14.fl_cons]
    have hf : L14.free f k (t ++ m) = false := by
      rw [free_app]
      cases e : L14.free f k m with
      | true => rw [L14.fl_none e] at h; cases h
      | false => rw [Bool.and_false]
    rw [if_neg (by rw [hf]; simp)]
    exact fl_app_some h t
theorem fl_app_none {f : α → Int} {k : Int} {m : List α} (h : L14.fl f k m = none) : ∀ l : List α, L14.fl f k (l ++ m) = L14.fl f k l
  | [] => h
  | r :: t => by
    rw [List.cons_append, L14.fl_cons, L14.fl_cons, free_app, fl_free h, Bool.and_true, fl_app_none h t]
end

/-- A segment's state. -/
def stOf (T : List Sg) (g : Nat) : Int := (T.map Sg.st).getD g 0
theorem stOf_at (T : List Sg) (g : Nat) (h : g < T.length) : stOf T g = T[g].st := by
  unfold stOf
  rw [List.getD_eq_getElem?_getD, List.getElem?_map, List.getElem?_eq_getElem h]
  rfl
theorem stOf_put (T : List Sg) (i : Int) (f : Sg → Sg) (g : Nat) (h : g < T.length) : stOf (L12.put T i f) g = if (g : Int) = i then (f T[g]).st else stOf T g := by
  rw [stOf_at _ _ (by rw [L12.put_len]; exact h), put_get _ _ _ g h, stOf_at _ _ h]
  split <;> rfl
/-- Where blocks lie is ahead of u, where the next stripe's segment has it; no block lies in a segment that is free. -/
structure LS.Bh (x : LS) (u : Int) : Prop where
  cur : stOf x.T x.seg ≠ 0
  lie : ∀ i : Nat, i < x.a.lb → x.V i ≠ -1 → ∀ g : Nat, x.V i / ((x.a.M : Int) - 2) / x.a.s = (g : Int) → stOf x.T g ≠ 0 ∧ (g = x.seg → x.V i / ((x.a.M : Int) - 2) < u)
section
variable {x : LS} {a : AS}
theorem enter_ent {y : LS} {r : Rr} (h : RecOk y.a r) (p : Int) : (y.enter (ent r) p).V = setN y.V r.lba.toNat (if r.kind = 2 then -1 else p) := by
  obtain ⟨h0, h1⟩ := h.lba
  have hb : ((r.lba.toNat : Nat) : Int) < y.a.l := by omega
  unfold LS.enter ent
  rcases h.kind with e | e | e
  · rw [e, if_pos (.inl rfl), remap_in hb, if_neg (by omega)]
  · rw [e]
    show (if (2 : Nat) = 1 ∨ (2 : Nat) = 3 then _ else if (2 : Nat) = 2 then y.remap ((r.lba.toNat : Nat) : Int) (-1) else y).V = _
    rw [if_neg (by decide), if_pos rfl, remap_in hb, if_pos rfl]
  · rw [e, if_pos (.inr rfl), remap_in hb, if_neg (by omega)]
theorem enters_V (t : Int) (es : List L9.En) (rs : List Rr) (hl : rs.length ≤ es.length) (he : es.length ≤ x.a.sl) (h1 : ∀ m (h : m < rs.length), es[m]'(by omega) = ent rs[m]) (h2 : ∀ m (h : m < es.length), rs.length ≤ m → es[m] = ⟨0, 0⟩)
    (hr : ∀ r ∈ rs, RecOk x.a r) (hd : rs.Pairwise (fun p q => p.lba ≠ q.lba)) : ∀ j, j ≤ es.length → ∀ i : Nat,
    (∀ m (h : m < rs.length), m < j → rs[m].lba = (i : Int) → (x.enters t es j).V i = if rs[m].kind = 2 then -1 else t * ((x.a.M : Int) - 2) + (m : Int)) ∧ ((∀ m (h : m < rs.length), m < j → rs[m].lba ≠ (i : Int)) → (x.enters t es j).V i = x.V i)
  | 0, _, i => ⟨fun m _ h => absurd h (Nat.not_lt_zero _), fun _ => rfl⟩
  | j + 1, hj, i => by
    obtain ⟨ih1, ih2⟩ := enters_V t es rs hl he h1 h2 hr hd j (by omega) i
    have sm := enters_same (x := x) t es j
    have hE : x.enters t es (j + 1) = (x.enters t es j).enter (es[j]'(by omega)) (t * ((x.a.M : Int) - 2) + (j : Int)) := by
      conv => lhs; unfold LS.enters
      rw [dif_pos (show j < es.length by omega), if_pos (show j < x.a.sl by omega)]
    rw [hE]
    by_cases hjr : j < rs.length
    · have hok := hr rs[j] (List.getElem_mem hjr)
      rw [h1 j hjr, enter_ent (by rw [sm.1]; exact hok)]
      have h0 := hok.lba.1
      by_cases hi : rs[j].lba = (i : Int)
      · have hn : rs[j].lba.toNat = i := by omega
        rw [hn, L13.setN_same]
        refine ⟨fun m hm hlt hmi => ?_, fun hno => absurd hi (hno j hjr (by omega))⟩
        have : m = j := by
          rcases Nat.lt_trichotomy m j with h | h | h
          · exact absurd (hmi.trans hi.symm) (List.pairwise_iff_getElem.1 hd m j hm hjr h)
          · exact h
          · omega
        subst this
        rfl
      · have hn : i ≠ rs[j].lba.toNat := by omega
        rw [L13.setN_other _ _ hn]
        refine ⟨fun m hm hlt hmi => ?_, fun hno => ih2 (fun m hm hlt => hno m hm (by omega))⟩
        have : m ≠ j := fun e => by subst e; exact hi hmi
        exact ih1 m hm (by omega) hmi
    · rw [h2 j (by omega) (by omega)]
      have hE2 : (x.enters t es j).enter ⟨0, 0⟩ (t * ((x.a.M : Int) - 2) + (j : Int)) = x.enters t es j := by
        unfold LS.enter
        rw [if_neg (by simp), if_neg (by simp)]
      rw [hE2]
      exact ⟨fun m hm hlt hmi => ih1 m hm (by omega) hmi, fun hno => ih2 (fun m hm hlt => hno m hm (by omega))⟩
/-- Shapes alike. -/
structure Alike (a c : AS) : Prop where
  M : c.M = a.M
  b : c.b = a.b
  g : c.g = a.g
  s : c.s = a.s
  n : c.n = a.n
  l : c.l = a.l
theorem Wrote.alike {a a' : AS} {t : Int} {C : Nat → Bytes} (h : Wrote a a' t C) : Alike a a' := ⟨h.M, h.same.1, h.same.2.1, h.same.2.2.1, h.same.2.2.2.1, h.same.2.2.2.2⟩
theorem Alike.sl {a b : AS} (h : Alike a b) : b.sl = a.sl := by unfold AS.sl; rw [h.M]
theorem Alike.lb {a b : AS} (h : Alike a b) : b.lb = a.lb := by unfold AS.lb; rw [h.l]
theorem Alike.nb {a b : AS} (h : Alike a b) : b.nb = a.nb := by unfold AS.nb; rw [h.b]
theorem Alike.at_ {a b : AS} (h : Alike a b) (t : Int) : b.at_ t = a.at_ t := by unfold AS.at_; rw [h.b, h.g, h.l]
theorem first_in (T : List Sg) (h : 0 ≤ L12.first T) : ∃ k : Nat, L12.first T = (k : Int) ∧ k < T.length ∧ stOf T k = 0 := by
  unfold L12.first at h ⊢
  split at h
  · rename_i i hi
    obtain ⟨h1, h2, _⟩ := List.findIdx?_eq_some_iff_getElem.1 hi
    exact ⟨i, rfl, h1, by rw [stOf_at _ _ h1]; simpa using h2⟩
  · omega
/-- Behind a stripe: where all lies. -/
theorem done_as (ha : x.a.Wf) (hw : x.Wf) (hn : ¬ x.none_) (hk : Alike x.a a) :
    (x.done a).V = ((x.rest a).enters x.stripe x.note.es x.note.es.length).V ∧ (x.done a).a = a ∧ (x.done a).recs = (x.rest a).recs ∧
    ((x.last = false ∧ (x.done a).T = ((x.rest a).enters x.stripe x.note.es x.note.es.length).T ∧ (x.done a).seg = x.seg ∧ (x.done a).idx = x.idx + 1) ∨
     (x.last = true ∧ ∃ k : Nat, L12.first x.T = (k : Int) ∧ k < x.T.length ∧ stOf x.T k = 0 ∧ (x.done a).T = L12.put (L12.put ((x.rest a).enters x.stripe x.note.es x.note.es.length).T (x.seg : Int) fun y => ⟨2, y.lv, (x.note.q : Int)⟩) (k : Int) (fun y => ⟨1, y.lv, y.bo⟩) ∧ (x.done a).seg = k ∧ (x.done a).idx = 0)) := by
  have hl : (x.rest a).last = x.last := by
    unfold LS.last
    show decide ((x.idx : Int) = a.s - 1) = _
    rw [hk.s]
  have hst : (x.rest a).stripe = x.stripe := by
    unfold LS.stripe
    show (x.seg : Int) * a.s + (x.idx : Int) = _
    rw [hk.s]
  have sm := enters_same (x := x.rest a) x.stripe x.note.es x.note.es.length
  have sa := apply_same (x := x.rest a) x.note
  have hT := hw.T
  have e1 : (x.done a).a = a := sa.1
  have e2 : (x.done a).recs = (x.rest a).recs := sa.2
  rw [done_rest] at e1 e2 ⊢
  unfold LS.apply at e1 e2 ⊢
  rw [hl, hst] at e1 e2 ⊢
  by_cases hla : x.last = true
  · have hz : x.note.z = L12.first x.T := by show x.nx = _; unfold LS.nx; rw [if_pos hla]
    have h0 : 0 ≤ L12.first x.T := Classical.byContradiction fun h => hn ⟨hla, by omega⟩
    obtain ⟨k, f1, f2, f3⟩ := first_in x.T h0
    have hg : x.note.z < (x.rest a).a.g := by
      show x.note.z < a.g
      rw [hk.g, hz, f1]
      omega
    rw [if_neg (fun h => h.2 ⟨by omega, hg⟩), if_pos hla] at e1 e2 ⊢
    refine ⟨rfl, e1, e2, .inr ⟨hla, k, f1, f2, f3, ?_, ?_, rfl⟩⟩
    · unfold LS.turn
      rw [hz, f1, sm.2.2.1]
      rfl
    · show x.note.z.toNat = k
      rw [hz, f1]
      simp
  · rw [if_neg (fun h => hla h.1), if_neg hla] at e1 e2 ⊢
    exact ⟨rfl, e1, e2, .inl ⟨by simpa using hla, rfl, sm.2.2.1, by rw [show (x.rest a).idx = x.idx from rfl]⟩⟩
/-- The entries of the next note. -/
theorem note_at (x : LS) : (∀ m (h : m < x.batch.length), x.note.es[m]'(by rw [note_len]; have := batch_le x; omega) = ent x.batch[m]) ∧ (∀ m (h : m < x.note.es.length), x.batch.length ≤ m → x.note.es[m] = ⟨0, 0⟩) := by
  constructor
  · intro m h
    have hm : m < (x.batch.map ent ++ List.replicate (x.a.sl - x.batch.length) (⟨0, 0⟩ : L9.En)).length := by rw [List.length_append, List.length_map]; omega
    have e : (x.batch.map ent ++ List.replicate (x.a.sl - x.batch.length) (⟨0, 0⟩ : L9.En))[m]'hm = ent x.batch[m] := by
      rw [List.getElem_append_left (by simpa using h), List.getElem_map]
    exact e
  · intro m h hm
    have e : ∀ (h : m < (x.batch.map ent ++ List.replicate (x.a.sl - x.batch.length) (⟨0, 0⟩ : L9.En)).length), (x.batch.map ent ++ List.replicate (x.a.sl - x.batch.length) (⟨0, 0⟩ : L9.En))[m]'h = ⟨0, 0⟩ := fun h => by
      rw [List.getElem_append_right (by simpa using hm), List.getElem_replicate]
    exact e h
theorem done_V (ha : x.a.Wf) (hw : x.Wf) (hn : ¬ x.none_) (hk : Alike x.a a) (i : Nat) :
    (∀ m (h : m < x.batch.length), x.batch[m].lba = (i : Int) → (x.done a).V i = if x.batch[m].kind = 2 then -1 else x.stripe * ((x.a.M : Int) - 2) + (m : Int)) ∧ ((∀ m (h : m < x.batch.length), x.batch[m].lba ≠ (i : Int)) → (x.done a).V i = x.V i) := by
  have hb := batch_le x
  have nl := note_len (x := x)
  obtain ⟨n1, n2⟩ := note_at x
  have h := enters_V (x := x.rest a) x.stripe x.note.es x.batch (by omega) (by rw [nl]; show x.a.sl ≤ a.sl; rw [hk.sl]; exact Nat.le_refl _) n1 n2
    (fun r hr => by have := hw.ok r (batch_mem x hr); exact ⟨this.kind, by show _ ∧ r.lba < a.l; rw [hk.l]; exact this.lba, by show _ ≤ a.nb; rw [hk.nb]; exact this.len⟩)
    ((vw_apart Rr.lba x.recs).sublist (List.take_sublist _ _)) x.note.es.length (Nat.le_refl _) i
  rw [(done_as ha hw hn hk).1]
  have hM : ((x.rest a).a.M : Int) = (x.a.M : Int) := by show (a.M : Int) = _; rw [hk.M]
  rw [hM] at h
  exact ⟨fun m hm he => h.1 m hm (by omega) he, fun hno => h.2 (fun m hm _ => hno m hm)⟩
end
section
variable {x : LS} {a : AS}
theorem stOf_lt {T : List Sg} {g : Nat} (h : stOf T g ≠ 0) : g < T.length := Classical.byContradiction fun hn => h (by
  unfold stOf
  rw [List.getD_eq_getElem?_getD, List.getElem?_eq_none (by rw [List.length_map]; omega)]
  rfl)
theorem slot_of {M t : Int} {m : Nat} (h : (m : Int) < M - 2) : (t * (M - 2) + (m : Int)) / (M - 2) = t ∧ (t * (M - 2) + (m : Int)) % (M - 2) = (m : Int) := by
  have h1 : (M - 2) ≠ 0 := by omega
  constructor
  · rw [Int.add_comm, Int.add_mul_ediv_right _ _ h1, Int.ediv_eq_zero_of_lt (by omega) h, Int.zero_add]
  · rw [Int.add_comm, Int.add_mul_emod_self_right, Int.emod_eq_of_lt (by omega) h]
theorem seg_of {s g i : Int} (h : 0 ≤ i ∧ i < s) : (g * s + i) / s = g := by
  rw [Int.add_comm, Int.add_mul_ediv_right _ _ (by omega), Int.ediv_eq_zero_of_lt h.1 h.2, Int.zero_add]
theorem batch_sl (ha : x.a.Wf) {m : Nat} (h : m < x.batch.length) : (m : Int) < (x.a.M : Int) - 2 := by
  have := batch_le x
  have := (small_nats ha).1
  omega
theorem done_lie (ha : x.a.Wf) (hw : x.Wf) (hn : ¬ x.none_) (hk : Alike x.a a) (hb : x.Bh x.stripe) (i : Nat) (hi : i < x.a.lb) (hv : (x.done a).V i ≠ -1) (g : Nat) (hg : (x.done a).V i / ((x.a.M : Int) - 2) / x.a.s = (g : Int)) :
    stOf x.T g ≠ 0 ∧ (g = x.seg → (x.done a).V i / ((x.a.M : Int) - 2) < x.stripe + 1) := by
  obtain ⟨h1, h2⟩ := done_V ha hw hn hk i
  have hix := hw.ix
  by_cases he : ∃ (m : Nat) (h : m < x.batch.length), x.batch[m].lba = (i : Int)
  · obtain ⟨m, hm, e⟩ := he
    have hV := h1 m hm e
    by_cases hk2 : x.batch[m].kind = 2
    · rw [if_pos hk2] at hV
      exact absurd hV hv
    · rw [if_neg hk2] at hV
      have hs := (slot_of (t := x.stripe) (batch_sl ha hm)).1
      rw [hV, hs] at hg ⊢
      have : x.stripe / x.a.s = (x.seg : Int) := seg_of ⟨by omega, hix⟩
      have hgs : g = x.seg := by rw [this] at hg; omega
      subst hgs
      exact ⟨hb.cur, fun _ => by omega⟩
  · have hV := h2 (fun m hm e => he ⟨m, hm, e⟩)
    rw [hV] at hv hg ⊢
    have := hb.lie i hi hv g hg
    exact ⟨this.1, fun e => by have := this.2 e; omega⟩
theorem done_bh (ha : x.a.Wf) (hw : x.Wf) (hn : ¬ x.none_) (hk : Alike x.a a) (hb : x.Bh x.stripe) : (x.done a).Bh (x.done a).stripe := by
  obtain ⟨hV, e1, e2, h⟩ := done_as ha hw hn hk
  have sm := enters_same (x := x.rest a) x.stripe x.note.es x.note.es.length
  have hst : ∀ g, stOf ((x.rest a).enters x.stripe x.note.es x.note.es.length).T g = stOf x.T g := fun g => by
    unfold stOf
    rw [sm.2.2.2.2.2.1]
    rfl
  have hlen : ((x.rest a).enters x.stripe x.note.es x.note.es.length).T.length = x.T.length := sm.2.2.2.2.1
  have hlie := done_lie ha hw hn hk hb
  have hlb : (x.done a).a.lb = x.a.lb := by rw [e1, hk.lb]
  have hMs : ((x.done a).a.M : Int) = (x.a.M : Int) ∧ (x.done a).a.s = x.a.s := by rw [e1, hk.M, hk.s]; exact ⟨rfl, rfl⟩
  have hseg := stOf_lt hb.cur
  rcases h with ⟨_, hT, hg, hi⟩ | ⟨_, k, _, f2, f3, hT, hg, hi⟩
  · refine ⟨by rw [hT, hg, hst]; exact hb.cur, fun i h1 h2 g h3 => ?_⟩
    rw [hMs.1, hMs.2] at h3
    have := hlie i (by rw [← hlb]; exact h1) h2 g h3
    rw [hT, hst, hMs.1]
    refine ⟨this.1, fun e => ?_⟩
    have h4 := this.2 (by rw [e, hg])
    have h5 : (x.done a).stripe = x.stripe + 1 := by
      unfold LS.stripe
      rw [hMs.2, hg, hi]
      omega
    omega
  · have hks : k ≠ x.seg := fun e => hb.cur (by rw [← e]; exact f3)
    refine ⟨?_, fun i h1 h2 g h3 => ?_⟩
    · rw [hT, hg, stOf_put _ _ _ k (by rw [L12.put_len, hlen]; exact f2), if_pos rfl]
      exact (show (1 : Int) ≠ 0 by decide)
    · rw [hMs.1, hMs.2] at h3
      have := hlie i (by rw [← hlb]; exact h1) h2 g h3
      have hgl := stOf_lt this.1
      have hgk : g ≠ k := fun e => this.1 (by rw [e]; exact f3)
      refine ⟨?_, fun e => absurd (by rw [e, hg]) hgk⟩
      rw [hT, stOf_put _ _ _ g (by rw [L12.put_len, hlen]; exact hgl), if_neg (by omega), stOf_put _ _ _ g (by rw [hlen]; exact hgl)]
      split
      · exact (show (2 : Int) ≠ 0 by decide)
      · rw [hst]; exact this.1
/-- A STRIPE TURNS NOTHING OF WHAT IS READ. -/
theorem done_reads (ha : x.a.Wf) (hw : x.Wf) (hn : ¬ x.none_) (h0 : x.recs ≠ []) (hW : Wrote x.a a x.stripe x.chunk) (hb : x.Bh x.stripe) (i : Nat) (hi : i < x.a.lb) : (x.done a).reads (i : Int) = x.reads (i : Int) := by
  have hk := hW.alike
  obtain ⟨hV, e1, e2, _⟩ := done_as ha hw hn hk
  obtain ⟨h1, h2⟩ := done_V ha hw hn hk i
  have hm := ha.small.hm
  have hM : (((x.done a).a.M : Nat) : Int) = (x.a.M : Int) := by rw [e1, hk.M]
  have hM' : (x.done a).a.M = x.a.M := by rw [e1, hk.M]
  have hlb : (x.done a).a.lb = x.a.lb := by rw [e1, hk.lb]
  have hnb : (x.done a).a.nb = x.a.nb := by rw [e1, hk.nb]
  have hd : (x.done a).a.d = a.d := by rw [e1]
  have hat : ∀ t, (x.done a).a.at_ t = x.a.at_ t := fun t => by rw [e1, hk.at_]
  have ht := stripe_in hw ha
  have hix := hw.ix
  have hsp := ha.small.hs
  have rst : L14.vw Rr.lba (x.done a).recs = (L14.vw Rr.lba x.recs).drop x.batch.length := by
    rw [e2]
    exact L14.vw_rest hw.up (batch_pos x ha h0) (by unfold LS.batch; rw [List.length_take]; omega)
  have all : L14.vw Rr.lba x.recs = x.batch ++ (L14.vw Rr.lba x.recs).drop x.batch.length := by
    have : x.batch = (L14.vw Rr.lba x.recs).take x.batch.length := by
      unfold LS.batch
      rw [List.length_take, ← List.take_eq_take_min]
    conv => rhs; arg 1; rw [this]
    exact (List.take_append_drop _ _).symm
  have f1 : L14.fl Rr.lba (i : Int) (x.done a).recs = L14.fl Rr.lba (i : Int) ((L14.vw Rr.lba x.recs).drop x.batch.length) := by rw [← L14.fl_vw, rst]
  have f2 : L14.fl Rr.lba (i : Int) x.recs = L14.fl Rr.lba (i : Int) (x.batch ++ (L14.vw Rr.lba x.recs).drop x.batch.length) := by rw [← all, L14.fl_vw]
  have rd : ∀ p : Int, (x.done a).at_ p = (a.d ((p / ((x.a.M : Int) - 2) + 1 + (1 + p % ((x.a.M : Int) - 2))) % (x.a.M : Int)).toNat).read (x.a.at_ (p / ((x.a.M : Int) - 2))) := fun p => by
    unfold LS.at_
    rw [hM, hd, hat]
  unfold LS.reads
  rw [f1, f2, hnb, hlb, L13.lies_in _ hi, L13.lies_in _ hi]
  cases hr : L14.fl Rr.lba (i : Int) ((L14.vw Rr.lba x.recs).drop x.batch.length) with
  | some r => rw [fl_app_some hr]
  | none =>
    rw [fl_app_none hr]
    cases hr2 : L14.fl Rr.lba (i : Int) x.batch with
    | some r =>
      obtain ⟨hmem, hl⟩ := fl_got hr2
      obtain ⟨m, hmb, rfl⟩ := List.getElem_of_mem hmem
      have hV2 := h1 m hmb hl
      have hms := batch_sl ha hmb
      show (if (x.done a).V i = -1 then blk x.a.nb [] else (x.done a).at_ ((x.done a).V i)) = stag x.a.nb x.batch[m].kind x.batch[m].l
      unfold stag
      by_cases hk2 : x.batch[m].kind = 2
      · rw [if_pos hk2] at hV2 ⊢
        rw [if_pos hV2]
      · rw [if_neg hk2] at hV2 ⊢
        have h3 : 0 ≤ x.stripe * ((x.a.M : Int) - 2) := Int.mul_nonneg ht.1 (by omega)
        rw [if_neg (by omega), rd, hV2, (slot_of hms).1, (slot_of hms).2]
        have hc := hW.new (m + 1) (((x.stripe + 1 + (1 + (m : Int))) % (x.a.M : Int)).toNat) (by omega) (by
          rw [Int.toNat_of_nonneg (Int.emod_nonneg _ (by omega))]
          congr 1
          omega)
        rw [hc]
        unfold LS.chunk
        rw [if_neg (by omega)]
        congr 1
        rw [List.getD_eq_getElem?_getD, Nat.add_sub_cancel, List.getElem?_map, List.getElem?_eq_getElem hmb]
        rfl
    | none =>
      have hfr := L14.free_iff.1 (fl_free hr2)
      have hV2 := h2 (fun m hmb e => hfr _ (List.getElem_mem hmb) e)
      show (if (x.done a).V i = -1 then blk x.a.nb [] else (x.done a).at_ ((x.done a).V i)) = (if x.V i = -1 then blk x.a.nb [] else x.at_ (x.V i))
      rw [hV2]
      split
      · rfl
      · rename_i hne
        rw [rd]
        unfold LS.at_
        refine hW.old _ _ ?_ ?_
        · have h4 := Int.emod_lt_of_pos (x.V i / ((x.a.M : Int) - 2) + 1 + (1 + x.V i % ((x.a.M : Int) - 2))) (show 0 < (x.a.M : Int) by omega)
          omega
        · intro e
          have hq : x.V i / ((x.a.M : Int) - 2) = x.stripe := by unfold AS.at_ at e; omega
          have h5 := (hb.lie i hi hne x.seg (by rw [hq]; exact seg_of ⟨by omega, hix⟩)).2 rfl
          omega
end
end Go.Proofs.YtplmdmchkaacoaaGreat
