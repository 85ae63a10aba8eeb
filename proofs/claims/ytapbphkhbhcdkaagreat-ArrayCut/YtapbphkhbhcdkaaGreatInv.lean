/-
  WHAT HOLDS BETWEEN CALLS: what each member has of the stripes that were put; a map of them; a rig and its map in memory.
-/
import Derived.Test.YtapbphkhbhcdkaaGreatPure
namespace Go.Proofs.YtapbphkhbhcdkaaGreat
open Go.RowKit Go.Maps Go.MapKept Go.ChangeMaps
set_option linter.unusedVariables false
set_option maxRecDepth 100000

/-- What member m has of stripe t, filled by f. -/
def partF (M nb : Nat) (t : Int) (f : BitVec 8) (m : Nat) : Bytes := spreadB t M (chunkB nb f) (tab nb (parB ((List.range (M - 1)).map (chunkB nb f)))) (M - 1) m
abbrev Hv := Int → Option (BitVec 8)
def Hv.set (H : Hv) (t : Int) (f : BitVec 8) : Hv := fun x => if x = t then some f else H x
def Hv.del (H : Hv) (t : Int) : Hv := fun x => if x = t then none else H x

theorem chunk_len (nb : Nat) (f : BitVec 8) (k : Nat) : (chunkB nb f k).length = nb := by simp [chunkB]
theorem part_len {M nb : Nat} (hM : 2 ≤ M) (t : Int) (f : BitVec 8) {m : Nat} (hm : m < M) : (partF M nb t f m).length = nb := by
  have h := spread_all (t := t) (M := M) hM (fun j => ⟨none, 0, 0, chunkB nb f j⟩) ⟨none, 0, 0, tab nb (parB ((List.range (M - 1)).map (chunkB nb f)))⟩ (fun x => x.l.length = nb) (fun k _ => chunk_len nb f k) (tab_len _ _) m hm
  rw [spread_l] at h
  exact h
theorem part_chunk {M nb : Nat} {t : Int} (ht : 0 ≤ t) (f : BitVec 8) {k m : Nat} (hk : k < M - 1) (hm : (m : Int) = (t + 1 + (k : Int)) % (M : Int)) : partF M nb t f m = chunkB nb f k := spread_chunk ht hk hm
theorem part_mend {M nb : Nat} {t : Int} (hM : 2 ≤ M) (ht : 0 ≤ t) (f : BitVec 8) {m : Nat} (hm : m < M) (g : Nat → Bytes) (hg : ∀ j, j < M → g j = if j = m then [] else partF M nb t f j) : xorB M nb g = partF M nb t f m :=
  spread_mend ht hM hm (fun k _ => chunk_len nb f k) rfl g hg (part_len hM t f hm)

/-- Each member that is current has what it must of each stripe that was put. -/
def Inv (s : AS) (H : Hv) : Prop := ∀ m : Nat, m < s.M → (m : Int) ≠ s.stale → ∀ t f, 0 ≤ t → t < s.N → H t = some f → (s.d m).read (s.at_ t) = partF s.M s.b.toNat t f m

section
variable {s s' : AS} {H : Hv} {c : Int}
theorem Same.N (h : Same s s') : s'.N = s.N := by unfold Same at h; rw [h]; rfl
theorem Same.at_ (h : Same s s') (t : Int) : s'.at_ t = s.at_ t := by unfold Same at h; rw [h]; rfl
theorem at_ne {s : AS} {t u : Int} (h : t ≠ u) : s.at_ t ≠ s.at_ u := by unfold AS.at_; omega
theorem still {R : Nat → DS → DS → Prop} (h : Rel R c s s') {m : Nat} (hm : (m : Int) ≠ s'.stale) : (m : Int) ≠ s.stale := by
  rcases h.stale with e | ⟨e, _⟩
  · rw [← e]; exact hm
  · omega
theorem inv_read (h : Inv s H) (k : Rel (fun _ => Aged) c s s') : Inv s' H := by
  intro m hm hs t f h0 h1 hf
  rw [k.same.M] at hm
  rw [k.same.N] at h1
  rw [k.same.M, k.same.b, k.same.at_, (k.disk m hm).read]
  exact h m hm (still k hs) t f h0 h1 hf
theorem put_fl (d : DS) (u1 u2 i : Int) (b : Bytes) : Turns (with1 d.read i b) d ((d.put u1 i b).fl u2) :=
  (put_turns d u1 i b).trans ((fl_turns (d.put u1 i b) u2).congr (fun h x => (put_turns d u1 i b).read (by
    cases hd : (d.put u1 i b).dead with
    | false => rfl
    | true => have := (fl_turns (d.put u1 i b) u2).dies hd; rw [h] at this; cases this) x))
theorem inv_put {t : Int} {f : BitVec 8} (h : Inv s H) (k : Rel (fun j d d' => ∃ u1 u2, d' = (d.put u1 (s.at_ t) (partF s.M s.b.toNat t f j)).fl u2) c s s') (ht : ∀ j : Nat, j < s.M → (s'.d j).dead = true → s'.stale = (j : Int)) : Inv s' (H.set t f) := by
  intro m hm hs u g h0 h1 hf
  rw [k.same.M] at hm
  rw [k.same.N] at h1
  rw [k.same.M, k.same.b, k.same.at_]
  obtain ⟨u1, u2, e⟩ := k.disk m hm
  have hd : (s'.d m).dead = false := by
    cases hd : (s'.d m).dead with
    | false => rfl
    | true => exact absurd (ht m hm hd).symm hs
  have hr := (put_fl (s.d m) u1 u2 (s.at_ t) (partF s.M s.b.toNat t f m)).read (by rw [← e]; exact hd) (s.at_ u)
  rw [e, hr]
  unfold with1
  unfold Hv.set at hf
  by_cases et : u = t
  · subst et
    rw [if_pos rfl]
    rw [if_pos rfl] at hf
    injection hf with hf
    rw [hf]
  · rw [if_neg et] at hf
    rw [if_neg (at_ne et)]
    exact h m hm (still k hs) u g h0 h1 hf
/-- A chunk that is read is right. -/
theorem inv_chunk {w w' : World} {t : Int} {k m : Nat} {f : BitVec 8} {v : Value} (wf : s.Wf) (h : Inv s H) (ht : 0 ≤ t ∧ t < s.N) (hk : k < s.M - 1) (hm : (t + 1 + (k : Int)) % (s.M : Int) = (m : Int)) (hf : H t = some f) (hc : ChunkAs w w' s s' m (s.at_ t) v 0) :
    Rel (fun _ => Aged) 12 s s' ∧ NewRow w w' v (chunkB s.b.toNat f k) := by
  have hM := wf.small.hm
  have hml : m < s.M := by have := Int.emod_lt_of_pos (t + 1 + (k : Int)) (show 0 < (s.M : Int) by omega); omega
  cases hc with
  | got _ hr hs he hv _ =>
    refine ⟨hr, ?_⟩
    rw [h m hml (fun e => hs e.symm) t f ht.1 ht.2 hf, part_chunk ht.1 f hk hm.symm] at hv
    exact hv
  | rest _ hr hs hv =>
    refine ⟨hr, ?_⟩
    have e : mend s m (s.at_ t) = chunkB s.b.toNat f k := by
      rw [← part_chunk (M := s.M) (nb := s.b.toNat) ht.1 f hk hm.symm]
      refine part_mend (by omega) ht.1 f hml _ (fun j hj => ?_)
      unfold others
      by_cases e : j = m
      · rw [if_pos e, if_pos e]
      · rw [if_neg e, if_neg e]
        exact h j hj (still hr (by rw [hs]; omega)) t f ht.1 ht.2 hf
    rw [e] at hv
    exact hv
end

/-- The map as the model holds it. -/
def Hv.vals (H : Hv) : Int → Option Value := fun i => (H i).map val
theorem vals_set (H : Hv) (t : Int) (f : BitVec 8) : (H.set t f).vals = upd H.vals t (val f) := by
  funext x
  unfold Hv.vals Hv.set upd
  split <;> rfl
theorem valAt_del {D : DataW Value} (i j : Int) : valAt (D.del (key i)) j = if j = i then none else valAt D j := by
  unfold valAt
  by_cases e : j = i
  · subst e
    rw [atKey_del_same, if_pos rfl]
  · rw [atKey_del_other (key_ne e), if_neg e]
theorem Mp.del {w : World} {b : Nat} {f : Int → Option Value} {t e : TypeId} (h : Mp w b f) (ht : Tryz.prog.underlying t = some (.map 3 e)) {i : Int} (hi : In64 i) :
    ∃ w', (∀ ty, (Builtin.delete_ #[t, 3] ty #[.map (some b), .int .i64 i]).run Tryz.prog w = .ok (.tuple #[]) w') ∧ Mp w' b (fun j => if j = i then none else f j) ∧ But (fun k => k = b) w w' := by
  obtain ⟨D, h, hf, h64⟩ := h
  obtain ⟨es, clock, hb, F, hs, rfl⟩ := h
  obtain ⟨es', hrun, F', hle, hdel, _⟩ := Maps.fit_drop (ty := 0) keyed ht hb F (key_of hi)
  refine ⟨setBlock w b (.map es' clock), fun ty => ?_, ⟨DataW.del (.map ((es.toList.map (WideElems.rg Tryz.prog 3 raw)).foldr DataW.insert [])) (key i), ?_, ?_, ?_⟩, but_turned ⟨es, clock, es', clock, hb, rfl⟩⟩
  · have h2 := hrun
    unfold Builtin.delete_ at h2 ⊢
    exact h2
  · refine ⟨es', clock, heap_setBlock_same hb _, F', ?_, by rw [DataW.del_eq, hdel]⟩
    rw [DataW.del_eq, ← hdel]
    simp [Maps.size, length_sorted]
  · intro j
    rw [valAt_del, ← hf j]
  · intro j hj
    simp only at hj
    by_cases e : j = i
    · rw [if_pos e] at hj; exact absurd rfl hj
    · rw [if_neg e] at hj; exact h64 j hj

/-- A rig and its map. -/
structure Lw (B : Nat) (w0 w : World) (R q cap : Nat) (P : Pl) (O : Nat → Prop) (s : AS) (hb : Nat) (H : Hv) : Prop where
  sys : Sys B w0 w R q cap P O s
  map : Mp w hb H.vals
  off : ¬ O hb ∧ hb ≠ R ∧ hb ≠ q ∧ B ≤ hb
  dom : ∀ t, H t ≠ none → 0 ≤ t ∧ t < s.N
section
variable {B : Nat} {w0 w w' : World} {R q cap : Nat} {P : Pl} {O : Nat → Prop} {s s' : AS} {hb : Nat} {H : Hv}
theorem Lw.did (h : Lw B w0 w R q cap P O s hb H) (hs : Same s s') (hD : Did w P O s' w') : ∃ O', Lw B w0 w' R q cap P O' s' hb H ∧ (∀ k, O' k → O k ∨ w.heap.size ≤ k) ∧ But O w w' := by
  obtain ⟨O', k1, k2, k3⟩ := h.sys.did hs hD
  have := h.map.lt
  exact ⟨O', ⟨k1, h.map.but k3 h.off.1, ⟨fun e => (k2 _ e).elim h.off.1 (fun e => by omega), h.off.2⟩, by rw [hs.N]; exact h.dom⟩, k2, k3⟩
theorem Lw.keep (h : Lw B w0 w R q cap P O s hb H) (hs : Same s s') (ha : Arr w' P O s') (hbt : But O w w') : Lw B w0 w' R q cap P O s' hb H :=
  ⟨h.sys.keep hs ha hbt, h.map.but hbt h.off.1, h.off, by rw [hs.N]; exact h.dom⟩
theorem Lw.but {S : Nat → Prop} (h : Lw B w0 w R q cap P O s hb H) (hbt : But S w w') (hS : ∀ k, S k → ¬ O k ∧ k ≠ R ∧ k ≠ q ∧ B ≤ k ∧ k ≠ hb) : Lw B w0 w' R q cap P O s hb H :=
  ⟨h.sys.but hbt (fun k hk => ⟨(hS k hk).1, (hS k hk).2.1, (hS k hk).2.2.1, (hS k hk).2.2.2.1⟩), h.map.but hbt (fun e => (hS _ e).2.2.2.2 rfl), h.off, h.dom⟩
theorem Lw.up (h : Lw B w0 w R q cap P O s hb H) (hbl : Below w.heap.size w w') : Lw B w0 w' R q cap P O s hb H := h.but (S := fun _ => False) (But.of_below hbl) (fun _ h => h.elim)
theorem Lw.alloc (h : Lw B w0 w R q cap P O s hb H) (o : Obj) : Lw B w0 (w.alloc o) R q cap P O s hb H := h.but (S := fun _ => False) ((But.refl _ _).alloc o) (fun _ h => h.elim)
theorem Lw.drewN (h : Lw B w0 w R q cap P O s hb H) (n : Nat) : Lw B w0 (w.drewN n) R q cap P O s hb H := h.but (S := fun _ => False) ((But.refl _ _).drewN n) (fun _ h => h.elim)
theorem Lw.drew (h : Lw B w0 w R q cap P O s hb H) : Lw B w0 w.drew R q cap P O s hb H := h.drewN 1
theorem Lw.turn {H' : Hv} (h : Lw B w0 w R q cap P O s hb H) (hm : Mp w' hb H'.vals) (hbt : But (fun k => k = hb) w w') (hd : ∀ t, H' t ≠ none → 0 ≤ t ∧ t < s.N) : Lw B w0 w' R q cap P O s hb H' :=
  ⟨h.sys.but hbt (fun k e => ⟨fun ho => h.off.1 (e ▸ ho), e ▸ h.off.2.1, e ▸ h.off.2.2.1, e ▸ h.off.2.2.2⟩), hm, h.off, hd⟩
theorem Lw.under (h : Lw B w0 w R q cap P O s hb H) : Under H.vals 18 := by
  intro i hi
  have h1 := h.dom i (fun e => hi (by unfold Hv.vals; rw [e]; rfl))
  have h2 := h.sys.rg.arr.wf.n
  omega
/-- The rig's cells. -/
theorem Lw.cells (h : Lw B w0 w R q cap P O s hb H) : w.cell? ⟨R, 0, none⟩ = some (.int .i64 (s.M : Int)) ∧ w.cell? ⟨R, 6, none⟩ = some (ptr P.p) ∧ w.cell? ⟨R, 7, none⟩ = some (.slice (some ⟨q, 0, none⟩) s.M cap) ∧ w.cell? ⟨R, 8, none⟩ = some (ptr P.n) ∧ w.cell? ⟨R, 9, none⟩ = some (ptr P.a) :=
  ⟨h.sys.rg.rig.cell 0, h.sys.rg.rig.cell 6, h.sys.rg.rig.cell 7, h.sys.rg.rig.cell 8, h.sys.rg.rig.cell 9⟩
theorem Sys.range (h : Sys B w0 w R q cap P O s) : w.rangeAt R 0 s.sh := by
  intro j v hv
  rw [Nat.zero_add]
  have hj : j < 6 := by have := (List.getElem?_eq_some_iff.1 hv).1; simpa [AS.sh] using this
  rw [h.rg.rig.cell]
  match j, hj, hv with
  | 0, _, hv => exact hv
  | 1, _, hv => exact hv
  | 2, _, hv => exact hv
  | 3, _, hv => exact hv
  | 4, _, hv => exact hv
  | 5, _, hv => exact hv
end
end Go.Proofs.YtapbphkhbhcdkaaGreat
