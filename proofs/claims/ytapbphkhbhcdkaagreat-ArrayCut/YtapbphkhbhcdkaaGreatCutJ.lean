import Derived.Test.YtapbphkhbhcdkaaGreatLimsJ
import Derived.Test.YtapbphkhbhcdkaaGreatBegin
import Derived.Test.YtapbphkhbhcdkaaGreatCycJ

/-
  THE WALK OF THE CLOSURE OF ArrayCut, UNDER A LIMIT.
-/
namespace Go.Proofs.YtapbphkhbhcdkaaGreat
open Go.RowKit Go.Maps
set_option linter.unusedVariables false
set_option maxRecDepth 100000

section
variable {w w' : World} {P : Pl} {O : Nat → Prop} {s : AS} {l : Int}

/-- What the law holds when the put is cut: the rig, and the boxes of the law's variables. -/
structure Bx (w : World) (b1 b2 b3 R q cap : Nat) (P : Pl) (O : Nat → Prop) (s : AS) (t : Int) (x f : BitVec 8) : Prop where
  rg : At w b1 #[ptr R] 29
  st : At w b2 #[.int .i64 t] 3
  la : At w b3 #[val x, val f] 26
  rig : At w R (rcells s.M s.b s.g s.s s.n s.l P.p (.slice (some ⟨q, 0, none⟩) s.M cap) (ptr P.n) (ptr P.a)) 42
  off : ¬ O b1 ∧ ¬ O b2 ∧ ¬ O b3 ∧ ¬ O R
section
variable {b1 b2 b3 R q cap : Nat} {t : Int} {x f : BitVec 8}
theorem Bx.but {S : Nat → Prop} (h : Bx w b1 b2 b3 R q cap P O s t x f) (hb : But S w w') (hS : ∀ k, S k → k ≠ b1 ∧ k ≠ b2 ∧ k ≠ b3 ∧ k ≠ R) : Bx w' b1 b2 b3 R q cap P O s t x f :=
  ⟨h.rg.but hb (fun e => (hS _ e).1 rfl), h.st.but hb (fun e => (hS _ e).2.1 rfl), h.la.but hb (fun e => (hS _ e).2.2.1 rfl), h.rig.but hb (fun e => (hS _ e).2.2.2 rfl), h.off⟩
theorem Bx.up (h : Bx w b1 b2 b3 R q cap P O s t x f) (hb : Below w.heap.size w w') : Bx w' b1 b2 b3 R q cap P O s t x f := h.but (S := fun _ => False) (But.of_below hb) (fun _ h => h.elim)
theorem Bx.did (h : Bx w b1 b2 b3 R q cap P O s t x f) (hb : But O w w') : Bx w' b1 b2 b3 R q cap P O s t x f :=
  h.but hb (fun k hk => ⟨fun e => h.off.1 (e ▸ hk), fun e => h.off.2.1 (e ▸ hk), fun e => h.off.2.2.1 (e ▸ hk), fun e => h.off.2.2.2 (e ▸ hk)⟩)
theorem Bx.range (h : Bx w b1 b2 b3 R q cap P O s t x f) : w.rangeAt R 0 s.sh := by
  intro j v hv
  rw [Nat.zero_add]
  have hj : j < 6 := by have := (List.getElem?_eq_some_iff.1 hv).1; simpa [AS.sh] using this
  rw [h.rig.cell]
  match j, hj, hv with
  | 0, _, hv => exact hv
  | 1, _, hv => exact hv
  | 2, _, hv => exact hv
  | 3, _, hv => exact hv
  | 4, _, hv => exact hv
  | 5, _, hv => exact hv
theorem Bx.five (h : Bx w b1 b2 b3 R q cap P O s t x f) : w.cell? ⟨b1, 0, none⟩ = some (ptr R) ∧ w.cell? ⟨b2, 0, none⟩ = some (.int .i64 t) ∧ w.cell? ⟨b3, 1, none⟩ = some (.int .u8 (f.toNat : Int)) ∧ w.cell? ⟨R, 9, none⟩ = some (ptr P.a) ∧ w.rangeAt R 0 s.sh :=
  ⟨h.rg.cell 0, h.st.cell 0, h.la.cell 1, h.rig.cell 9, h.range⟩
end

/-- What the put under a limit comes to. -/
def CutR (i : Int) (B : Nat → Bytes) (w : World) (P : Pl) (O : Nat → Prop) (s : AS) (gone : Bool) (w' : World) : Prop :=
  (gone = false ∧ ∃ s' l', Dil w P O s' l' w' ∧ PutAs i B s s' 0) ∨ (gone = true ∧ ∃ s', Dil w P O s' 0 w' ∧ Rel (fun j d d' => Some1 i (B j) d d') 20 s s')

set_option maxHeartbeats 3200000 in
theorem cut_any (b1 b2 b3 R q cap : Nat) (t : Int) (x f : BitVec 8) (ht : 0 ≤ t ∧ t < s.N) (hx : Bx w b1 b2 b3 R q cap P O s t x f) (h : Arl w P O s l) (hu : s.u ≤ 700000) (hcalm : Calm s) (hl : 0 ≤ l ∧ l ≤ 1000) :
    Calls Tryz.prog 11 #[.pointer (some ⟨b1, 0, none⟩), .pointer (some ⟨b2, 0, none⟩), .pointer (some ⟨b3, 0, none⟩)] w fun e w' => ∃ gone, e = (if gone then .panicked out else .returned (.tuple #[])) ∧ CutR (s.at_ t) (partF s.M s.b.toNat t f) w P O s gone w' := by
  have HA := Lib.hid h
  have HX := Lib.hid hx
  have T1 := Lib.hid ht
  have hMs := h.many
  have nb1 : (s.b.toNat : Int) = s.b := by have := h.wf.small.hb; omega
  have NB := Lib.hid nb1
  have b48 := Lib.hid h.wf.small.hb
  have HC := Lib.hid hcalm
  have HL := Lib.hid hl
  clear h hx ht nb1 hcalm hl
  go_enter Tryz.func11, Tryz.ntmps11
  go_wp2_with fail
  have S0 : (fun w' : World => w'.cell? ⟨b1, 0, none⟩ = some (ptr R) ∧ w'.cell? ⟨b2, 0, none⟩ = some (.int .i64 t) ∧ w'.cell? ⟨b3, 1, none⟩ = some (.int .u8 (f.toNat : Int)) ∧ w'.cell? ⟨R, 9, none⟩ = some (ptr P.a) ∧ w'.rangeAt R 0 s.sh) w.drew := (HX.out.but (S := fun _ => False) ((But.refl _ _).drew) (fun _ h => h.elim)).five
  refine wp_region_early (fun w' : World => w'.cell? ⟨b1, 0, none⟩ = some (ptr R) ∧ w'.cell? ⟨b2, 0, none⟩ = some (.int .i64 t) ∧ w'.cell? ⟨b3, 1, none⟩ = some (.int .u8 (f.toNat : Int)) ∧ w'.cell? ⟨R, 9, none⟩ = some (ptr P.a) ∧ w'.rangeAt R 0 s.sh) (fun _ => true) (by kernel_rfl) ?_
  change wpEarly _ _ _ _ _ _ 13 (Array.replicate 13 false) _ w.drew
  refine early_take (i := 0) 3 (ptr R) rfl rfl (by kernel_rfl) (by kernel_rfl) (by kernel_rfl) (by kernel_rfl) rfl (fun _ _ _ h => h) (fun w' hw' => by obtain ⟨k1, k2, k3, k4, k5⟩ := hw'; go_simp) S0 ?_
  simp only [Act.put, List.setIfInBounds_toArray, List.set_cons_zero, List.set_cons_succ]
  refine early_take (i := 1) 4 (ptr R) rfl rfl (by kernel_rfl) (by kernel_rfl) (by kernel_rfl) (by kernel_rfl) rfl (fun _ _ _ h => h) (fun w' hw' => by obtain ⟨k1, k2, k3, k4, k5⟩ := hw'; go_simp) S0 ?_
  simp only [Act.put, List.setIfInBounds_toArray, List.set_cons_zero, List.set_cons_succ]
  refine early_take (i := 2) 5 (.pointer (some ⟨R, 9, none⟩)) rfl rfl (by kernel_rfl) (by kernel_rfl) (by kernel_rfl) (by kernel_rfl) rfl (fun _ _ _ h => h) (fun w' hw' => by obtain ⟨k1, k2, k3, k4, k5⟩ := hw'; go_simp) S0 ?_
  simp only [Act.put, List.setIfInBounds_toArray, List.set_cons_zero, List.set_cons_succ]
  refine early_take (i := 3) 6 (ptr P.a) rfl rfl (by kernel_rfl) (by kernel_rfl) (by kernel_rfl) (by kernel_rfl) rfl (fun _ _ _ h => h) (fun w' hw' => by obtain ⟨k1, k2, k3, k4, k5⟩ := hw'; go_simp) S0 ?_
  simp only [Act.put, List.setIfInBounds_toArray, List.set_cons_zero, List.set_cons_succ]
  refine early_take (i := 4) 7 (.int .i64 t) rfl rfl (by kernel_rfl) (by kernel_rfl) (by kernel_rfl) (by kernel_rfl) rfl (fun _ _ _ h => h) (fun w' hw' => by obtain ⟨k1, k2, k3, k4, k5⟩ := hw'; go_simp) S0 ?_
  simp only [Act.put, List.setIfInBounds_toArray, List.set_cons_zero, List.set_cons_succ]
  refine early_take (i := 5) 8 (ptr R) rfl rfl (by kernel_rfl) (by kernel_rfl) (by kernel_rfl) (by kernel_rfl) rfl (fun _ _ _ h => h) (fun w' hw' => by obtain ⟨k1, k2, k3, k4, k5⟩ := hw'; go_simp) S0 ?_
  simp only [Act.put, List.setIfInBounds_toArray, List.set_cons_zero, List.set_cons_succ]
  refine early_take (i := 6) 9 (ptr R) rfl rfl (by kernel_rfl) (by kernel_rfl) (by kernel_rfl) (by kernel_rfl) rfl (fun _ _ _ h => h) (fun w' hw' => by obtain ⟨k1, k2, k3, k4, k5⟩ := hw'; go_simp) S0 ?_
  simp only [Act.put, List.setIfInBounds_toArray, List.set_cons_zero, List.set_cons_succ]
  refine early_take (i := 7) 10 (ptr R) rfl rfl (by kernel_rfl) (by kernel_rfl) (by kernel_rfl) (by kernel_rfl) rfl (fun _ _ _ h => h) (fun w' hw' => by obtain ⟨k1, k2, k3, k4, k5⟩ := hw'; go_simp) S0 ?_
  simp only [Act.put, List.setIfInBounds_toArray, List.set_cons_zero, List.set_cons_succ]
  refine early_take (i := 8) 11 (sv (s.M : Int) s.b s.g s.s s.n s.l) rfl rfl (by kernel_rfl) (by kernel_rfl) (by kernel_rfl) (by kernel_rfl) rfl (fun _ _ _ h => h) (fun w' hw' => exec_shape (s := s) (x := .tmp 10) rfl rfl hw'.2.2.2.2) S0 ?_
  simp only [Act.put, List.setIfInBounds_toArray, List.set_cons_zero, List.set_cons_succ]
  refine early_take (i := 9) 12 (.pointer (some ⟨b3, 1, none⟩)) rfl rfl (by kernel_rfl) (by kernel_rfl) (by kernel_rfl) (by kernel_rfl) rfl (fun _ _ _ h => h) (fun w' hw' => by obtain ⟨k1, k2, k3, k4, k5⟩ := hw'; go_simp) S0 ?_
  simp only [Act.put, List.setIfInBounds_toArray, List.set_cons_zero, List.set_cons_succ]
  refine early_take (i := 10) 13 (.int .u8 (f.toNat : Int)) rfl rfl (by kernel_rfl) (by kernel_rfl) (by kernel_rfl) (by kernel_rfl) rfl (fun _ _ _ h => h) (fun w' hw' => by obtain ⟨k1, k2, k3, k4, k5⟩ := hw'; go_simp) S0 ?_
  simp only [Act.put, List.setIfInBounds_toArray, List.set_cons_zero, List.set_cons_succ]
  refine early_only (i := 11) (by kernel_rfl) rfl (fun K hK => ?_)
  simp only [opWp, List.getElem?_toArray, List.getElem?_cons_succ, List.getElem?_cons_zero]
  go_simp
  go_at_call 13
  refine (Chunks_any s.M s.b s.g s.s s.n s.l s.b.toNat NB.out.symm (by have := b48.out; omega) (by omega) f _ rfl w.drew).mono ?_
  rintro e w4 ⟨v, L, rfl, hcl, hll, hlm, hln, hbl⟩
  have A4 := Lib.hid (HA.out.drew.up hbl)
  have X4 := Lib.hid (Bx.up (w := w.drew) (HX.out.but (S := fun _ => False) ((But.refl _ _).drew) (fun _ h => h.elim)) hbl)
  have B4 := Lib.hid (But.of_drewN 1 (But.of_below (S := O) hbl))
  have CL := Lib.hid hcl
  have LL := Lib.hid hll
  have LM := Lib.hid hlm
  have LN := Lib.hid hln
  have S7 : (fun w' : World => w'.cell? ⟨b1, 0, none⟩ = some (ptr R) ∧ w'.cell? ⟨b2, 0, none⟩ = some (.int .i64 t) ∧ w'.cell? ⟨b3, 1, none⟩ = some (.int .u8 (f.toNat : Int)) ∧ w'.cell? ⟨R, 9, none⟩ = some (ptr P.a) ∧ w'.rangeAt R 0 s.sh) w4 := X4.out.five
  clear hcl hll hlm hln hbl
  refine hK _ _ (fun _ => S7) ?_
  refine early_only (i := 12) (by kernel_rfl) rfl (fun K hK => ?_)
  simp only [opWp, List.getElem?_toArray, List.getElem?_cons_succ, List.getElem?_cons_zero]
  obtain ⟨A5, c5, rfl, hln5⟩ := CL.out.ln (by have := LL.out; omega)
  have no1 : ∀ k, w.heap.size ≤ k → ¬ O k := fun k hk e => by have := HA.out.lt k e; omega
  go_simp
  go_at_call 12
  refine (Put_anyL t T1.out A5 L.length c5 L (by have := LL.out; omega) hln5 (fun y hy => by rw [LN.out y hy]; exact NB.out) (CL.out.off2 no1) A4.out hu HC.out HL.out).mono ?_
  rw [spread_same LL.out LM.out]
  rintro e w5 (⟨s5, l5, hD, hP⟩ | ⟨s5, hD, hP⟩)
  · have R5 := Lib.hid (show CutR (s.at_ t) (partF s.M s.b.toNat t f) w P O s false w5 from .inl ⟨rfl, s5, l5, hD.trans (fun _ h => .inl h) B4.out, hP⟩)
    obtain ⟨O5, k1, k2, k3⟩ := hD
    have S8 : (fun w' : World => w'.cell? ⟨b1, 0, none⟩ = some (ptr R) ∧ w'.cell? ⟨b2, 0, none⟩ = some (.int .i64 t) ∧ w'.cell? ⟨b3, 1, none⟩ = some (.int .u8 (f.toNat : Int)) ∧ w'.cell? ⟨R, 9, none⟩ = some (ptr P.a) ∧ w'.rangeAt R 0 s.sh) w5 := (X4.out.did k3).five
    clear hP k1 k2 k3 no1 hln5
    refine hK _ _ (fun _ => S8) ?_
    refine early_done (by kernel_rfl) ?_
    clear S0 S7 S8
    go_wp2
    go_end0
    first | exact ⟨false, rfl, R5.out⟩ | exact .inl ⟨rfl, R5.out⟩
  · have R5 := Lib.hid (show CutR (s.at_ t) (partF s.M s.b.toNat t f) w P O s true w5 from .inr ⟨rfl, s5, hD.trans (fun _ h => .inl h) B4.out, hP⟩)
    clear hP hD no1 hln5 S0 S7
    unfold out
    go_wp2
    exact ⟨rfl, true, rfl, R5.out⟩
end
end Go.Proofs.YtapbphkhbhcdkaaGreat

/-
  WHAT IS KEPT WHEN NOTHING WAITS; WHAT A CUT PUT AND A CYCLE OF ALL DISKS LEAVE.
-/
namespace Go.Proofs.YtapbphkhbhcdkaaGreat
open Go.RowKit Go.Maps
set_option linter.unusedVariables false
set_option maxRecDepth 100000

theorem kept_not {keep : Nat} {ss : List Int} {x : Int} (h : x ∉ ss) : ∀ k, k ≤ ss.length → kept keep ss x k = false := by
  intro k
  induction k with
  | zero => intro _; rfl
  | succ k ih =>
    intro hk
    unfold kept
    rw [ih (by omega)]
    have : ¬ ss.getD k 0 = x := by
      rw [List.getD_eq_getElem?_getD, List.getElem?_eq_getElem (by omega)]
      intro e
      exact h (e ▸ List.getElem_mem _)
    rw [decide_eq_false this]
    rfl
theorem cycle_read {d : DS} {keep : Nat} {ss : List Int} {x : Int} (hW : Waits d ss) (h0 : d.wait x = none) : (d.cycle keep ss).read x = d.read x := by
  have hx : x ∉ ss := fun e => by
    have := (hW.2 x).1 e
    rw [h0] at this
    cases this
  unfold DS.read DS.last DS.cycle mix
  simp only [kept_not hx _ (Nat.le_refl _), h0]
  simp

/-- The first j disks went through the outage. -/
structure CycTo (keep j : Nat) (s s' : AS) : Prop where
  eq : s' = { s with d := s'.d }
  disk : ∀ m, m < s.M → if m < j then ∃ ss, Waits (s.d m) ss ∧ s'.d m = (s.d m).cycle keep ss else s'.d m = s.d m

section
variable {s s' : AS} {H : Hv} {keep j : Nat}
theorem CycTo.start : CycTo keep 0 s s := ⟨rfl, fun m _ => by rw [if_neg (by omega)]⟩
theorem CycTo.same (h : CycTo keep j s s') : Same s s' := by unfold Same; rw [h.eq]
theorem CycTo.step {ss : List Int} (h : CycTo keep j s s') (hj : j < s.M) (hW : Waits (s'.d j) ss) : CycTo keep (j + 1) s (s'.hurt j ((s'.d j).cycle keep ss)) := by
  have e0 := h.disk j hj
  rw [if_neg (by omega)] at e0
  refine ⟨?_, fun m hm => ?_⟩
  · have := h.eq
    unfold AS.hurt
    rw [this]
  · show if m < j + 1 then ∃ ss', Waits (s.d m) ss' ∧ (if m = j then (s'.d j).cycle keep ss else s'.d m) = (s.d m).cycle keep ss' else (if m = j then (s'.d j).cycle keep ss else s'.d m) = s.d m
    have e1 := h.disk m hm
    by_cases e : m = j
    · subst e
      rw [if_pos (by omega)]
      rw [e0] at hW ⊢
      exact ⟨ss, hW, by simp⟩
    · by_cases e2 : m < j
      · rw [if_pos e2] at e1
        rw [if_pos (by omega), if_neg e]
        exact e1
      · rw [if_neg e2] at e1
        rw [if_neg (by omega), if_neg e]
        exact e1
theorem CycTo.calm (h : CycTo keep s.M s s') (c : Calm s) : Calm s' := by
  intro k
  have hk := c k
  have e := h.eq
  have eb : s'.broken = s.broken := by rw [e]
  have es : s'.stale = s.stale := by rw [e]
  refine ⟨by rw [eb]; exact hk.whole, by rw [es]; exact hk.stale, fun i hi hne => ?_⟩
  have hi' : i < s.M := by have := h.same.M; omega
  have h1 := h.disk i hi'
  rw [if_pos hi'] at h1
  obtain ⟨ss, _, e2⟩ := h1
  rw [e2]
  exact hk.live i hi' hne
theorem CycTo.inv (h : CycTo keep s.M s s') (hI : Inv s H) (hw : ∀ m, m < s.M → ∀ t f, H t = some f → (s.d m).wait (s.at_ t) = none) : Inv s' H := by
  intro m hm hs t f h0 h1 hf
  have hm' : m < s.M := by have := h.same.M; omega
  have es : s'.stale = s.stale := by rw [h.eq]
  rw [h.same.N] at h1
  rw [h.same.M, h.same.b, h.same.at_]
  have h2 := h.disk m hm'
  rw [if_pos hm'] at h2
  obtain ⟨ss, hW, e2⟩ := h2
  rw [e2, cycle_read hW (hw m hm' t f hf)]
  exact hI m hm' (by rw [← es]; exact hs) t f h0 h1 hf

/-- What is kept while nothing fails, and nothing waits. -/
def KeptW (s : AS) (H : Hv) : Prop := Kept s H ∧ ∀ m, m < s.M → ∀ x, (s.d m).wait x = none
theorem fl_wait {d : DS} {u : Int} (h : (d.fl u).dead = false) (x : Int) : (d.fl u).wait x = none := by
  cases hd : (d.op u).dead with
  | true => rw [DS.fl_no hd, hd] at h; cases h
  | false => rw [DS.fl_ok hd]; rfl
theorem put_keptW : PutInv false KeptW where
  step := fun s s' H t f h hw h0 h1 hr ht => by
    have k := put_calm.step s s' H t f h.1 hw h0 h1 hr ht
    refine ⟨k, fun m hm x => ?_⟩
    obtain ⟨u1, u2, e⟩ := hr.disk m (by rw [← hr.same.M]; exact hm)
    have hl := (k.1.live hm).1
    rw [e] at hl ⊢
    exact fl_wait hl x
  gone := fun s s' H t h hg => absurd (h.1.1 0) (hg.unsound 0)

theorem op_wait (d : DS) (u x : Int) : (d.op u).wait x = d.wait x := rfl
theorem put_wait {d : DS} {u i : Int} {b : Bytes} {x : Int} (hx : x ≠ i) (h : d.wait x = none) : (d.put u i b).wait x = none := by
  unfold DS.put
  split
  · exact h
  · show (if x = i then some b else (d.op u).wait x) = none
    rw [if_neg hx]
    exact h
theorem fl_wait_none {d : DS} {u x : Int} (h : d.wait x = none) : (d.fl u).wait x = none := by
  unfold DS.fl
  split
  · exact h
  · rfl
/-- Behind the cut, all other stripes are as they were, and none of their sectors waits. -/
theorem cut_inv {t : Int} {c : Int} {B : Nat → Bytes} (h : KeptW s H) (k : Rel (fun j d d' => Some1 (s.at_ t) (B j) d d') c s s') :
    Calm s' ∧ Inv s' (H.del t) ∧ ∀ m, m < s'.M → ∀ u f, (H.del t) u = some f → (s'.d m).wait (s'.at_ u) = none := by
  have hc := h.1.1.rel k
  have ne : ∀ u f, (H.del t) u = some f → u ≠ t ∧ H u = some f := fun u f hu => by
    unfold Hv.del at hu
    by_cases e : u = t
    · rw [if_pos e] at hu; cases hu
    · rw [if_neg e] at hu; exact ⟨e, hu⟩
  refine ⟨hc, ?_, ?_⟩
  · intro m hm hs u f h0 h1 hf
    have hlv := hc.live hm
    rw [k.same.M] at hm
    rw [k.same.N] at h1
    rw [k.same.M, k.same.b, k.same.at_]
    obtain ⟨n1, n2⟩ := ne u f hf
    have old := h.1.2 m hm (still k hs) u f h0 h1 n2
    rcases k.disk m hm with e | ⟨u1, e⟩ | ⟨u1, u2, e⟩
    · rw [e]; exact old
    · rw [e] at hlv ⊢
      rw [(put_turns (s.d m) u1 (s.at_ t) (B m)).read hlv.1]
      unfold with1
      rw [if_neg (at_ne n1)]
      exact old
    · rw [e] at hlv ⊢
      rw [(put_fl (s.d m) u1 u2 (s.at_ t) (B m)).read hlv.1]
      unfold with1
      rw [if_neg (at_ne n1)]
      exact old
  · intro m hm u f hf
    obtain ⟨n1, n2⟩ := ne u f hf
    rw [k.same.M] at hm
    rw [k.same.at_]
    have old := h.2 m hm (s.at_ u)
    rcases k.disk m hm with e | ⟨u1, e⟩ | ⟨u1, u2, e⟩
    · rw [e]; exact old
    · rw [e]; exact put_wait (at_ne n1) old
    · rw [e]; exact fl_wait_none (put_wait (at_ne n1) old)

/-- Behind the put, cut or not, and the cycle of all disks. -/
theorem cut_cycle {t : Int} {f : BitVec 8} {w w' : World} {P : Pl} {O : Nat → Prop} {s1 s2 : AS} {c : Int} (h : KeptW s H) (k : Rel (fun j d d' => Some1 (s.at_ t) (partF s.M s.b.toNat t f j) d d') c s s1) (hC : CycTo keep s1.M s1 s2) : Kept s2 (H.del t) := by
  obtain ⟨k1, k2, k3⟩ := cut_inv h k
  exact ⟨hC.calm k1, hC.inv k2 k3⟩
theorem put_cycle {s1 s2 : AS} (h : KeptW s1 H) (hC : CycTo keep s1.M s1 s2) : Kept s2 H :=
  ⟨hC.calm h.1.1, hC.inv h.1.2 (fun m hm t f _ => h.2 m hm _)⟩
end
end Go.Proofs.YtapbphkhbhcdkaaGreat

/-
  WHAT THE CUT PUT COMES TO, WHETHER IT WAS CUT OR NOT; A DISK'S CYCLE AT THE RIG.
-/
namespace Go.Proofs.YtapbphkhbhcdkaaGreat
open Go.RowKit Go.Maps
set_option linter.unusedVariables false
set_option maxRecDepth 100000

section
variable {B : Nat} {w0 w w' : World} {R q cap : Nat} {P : Pl} {O : Nat → Prop} {s s' : AS} {hb m : Nat} {H : Hv} {d : DS}
theorem cut_out {t : Int} {f : BitVec 8} {gone : Bool} (hQ : KeptW s H) (hw : s.Wf) (ht : 0 ≤ t ∧ t < s.N) (hc : CutR (s.at_ t) (partF s.M s.b.toNat t f) w P O s gone w') :
    ∃ s' l' O', Arl w' P O' s' l' ∧ (∀ k, O' k → O k ∨ w.heap.size ≤ k) ∧ But O w w' ∧ Same s s' ∧ s'.u ≤ s.u + 20 ∧ ∀ s2 keep, CycTo keep s'.M s' s2 → Kept s2 (if gone then H.del t else H.set t f) := by
  rcases hc with ⟨rfl, s', l', ⟨O', k1, k2, k3⟩, hP⟩ | ⟨rfl, s', ⟨O', k1, k2, k3⟩, hr⟩
  · cases hP with
    | done hr htold =>
      refine ⟨s', l', O', k1, k2, k3, hr.same, by have := hr.u.2; omega, fun s2 keep hC => ?_⟩
      have := put_cycle (put_keptW.step s s' H t f hQ hw ht.1 ht.2 hr htold) hC
      simpa using this
  · refine ⟨s', 0, O', k1, k2, k3, hr.same, by have := hr.u.2; omega, fun s2 keep hC => ?_⟩
    have := cut_cycle (w := w) (w' := w') (P := P) (O := O) hQ hr hC
    simpa using this

theorem Ay.hurt2 {T : Nat → Nat → Prop} (h : Ay w P T s) (hm : m < s.M) (hd : Dk w' (P.g m) P.p (T (4 + m)) d) (hb : But (T (4 + m)) w w') (h1 : d.sectors = (s.d m).sectors) (h2 : d.size = (s.d m).size) (h3 : d.writes = (s.d m).writes) : Ay w' P T (s.hurt m d) := by
  have off : ∀ j, j ≠ 4 + m → ∀ k, T j k → ¬ T (4 + m) k := fun j hj k hk e => hj (h.ap _ _ _ hk e)
  refine
    { arr := h.arr.but hb (off 0 (by omega) _ h.t0)
      row := fun j hj => (hb.cell (p := ⟨P.r, j, none⟩) (h.lt _ _ h.t1) (off 1 (by omega) _ h.t1)).trans (h.row j hj)
      pw := At.but h.pw hb (off 2 (by omega) _ h.t2)
      nv := At.but h.nv hb (off 3 (by omega) _ h.t3)
      dk := ?_
      ap := h.ap
      t0 := h.t0
      t1 := h.t1
      t2 := h.t2
      t3 := h.t3
      lt := fun j k hk => Nat.lt_of_lt_of_le (h.lt _ _ hk) hb.size
      wf := ⟨h.wf.small, h.wf.sect, h.wf.some_, h.wf.u0, h.wf.st, ?_⟩ }
  · intro j hj
    show Dk w' (P.g j) P.p (T (4 + j)) (if j = m then d else s.d j)
    by_cases e : j = m
    · rw [if_pos e, e]; exact hd
    · rw [if_neg e]
      exact (h.dk j hj).but hb (off _ (by omega))
  · intro j hj
    show (if j = m then d else s.d j).sectors = s.S ∧ ((if j = m then d else s.d j).size : Int) = s.b ∧ ∀ q, 0 ≤ (if j = m then d else s.d j).writes q ∧ (if j = m then d else s.d j).writes q ≤ s.u
    have k := h.wf.each j hj
    by_cases e : j = m
    · rw [if_pos e, h1, h2, h3, ← e]; exact k
    · rw [if_neg e]; exact k
/-- A member goes through the outage. -/
theorem cycle_sys {keep : Nat} (hk : keep < 18446744073709551616) (hm : m < s.M) (h : Lw B w0 w R q cap P O s hb H) : Calls Tryz.prog 14 #[ptr (P.g m), .int .u64 (keep : Int)] w fun e w' => e = .returned (.tuple #[]) ∧ ∃ ss, Waits (s.d m) ss ∧ Lw B w0 w' R q cap P O (s.hurt m ((s.d m).cycle keep ss)) hb H ∧ But O w w' := by
  obtain ⟨T, hA, hO⟩ := h.sys.rg.arr
  refine (cycle_any keep hk (hA.dk m hm)).mono ?_
  rintro e w' ⟨ss, rfl, hW, hd, hb'⟩
  have b2 : But O w w' := hb'.mono (fun k e _ => (hO k).2 ⟨4 + m, e⟩)
  have a2 : Arr w' P O (s.hurt m ((s.d m).cycle keep ss)) := ⟨T, hA.hurt2 hm hd hb' rfl rfl rfl, hO⟩
  exact ⟨rfl, ss, hW, h.keep (Same.hurt s m _) a2 b2, b2⟩
end
end Go.Proofs.YtapbphkhbhcdkaaGreat

/-
  THE WALK OF ArrayCut.
-/
namespace Go.Proofs.YtapbphkhbhcdkaaGreat
open Go.RowKit Go.Maps
set_option linter.unusedVariables false
set_option maxRecDepth 100000

theorem init_wait {w w' : World} {B R q cap : Nat} {P : Pl} {O : Nat → Prop} {s1 : AS} {S z : Nat} (hd : ∀ m, s1.d m = blank S z) (c : Calm s1) : KeptW s1 (fun _ => none) :=
  ⟨⟨c, inv_none _⟩, fun m _ x => by rw [hd m]; rfl⟩

set_option maxHeartbeats 3200000 in
theorem cut_walk (x0 x1 x2 x3 x4 x5 : Int) (A : Option Addr) (n c : Nat) (xs : List (BitVec 8 × BitVec 8)) {w : World} (hst : St w A n xs) (x f : BitVec 8) (ops : Int) (keep : Nat) (h0 : 0 ≤ x0 ∧ x0 ≤ 255) (h1 : 0 ≤ x1 ∧ x1 ≤ 255) (h2 : 0 ≤ x2 ∧ x2 ≤ 255) (h3 : 0 ≤ x3 ∧ x3 ≤ 255) (h4 : 0 ≤ x4 ∧ x4 ≤ 255) (h5 : 0 ≤ x5 ∧ x5 ≤ 255) (ho : 0 ≤ ops ∧ ops ≤ 255) (hk : keep < 18446744073709551616) :
    Calls Tryz.prog 3 #[.agg #[.int .u8 x0, .int .u8 x1, .int .u8 x2, .int .u8 x3, .int .u8 x4, .int .u8 x5], .slice A n c, .agg #[val x, val f], .int .u8 ops, .int .u64 (keep : Int)] w fun e w' => e = .returned (.bool true) ∧ Below w.heap.size w w' := by
  have ST := Lib.hid hst
  clear hst
  obtain ⟨M0, b, g, sg, n0, l0, hsm, hshape⟩ := shape_small x0 x1 x2 x3 x4 x5 h0 h1 h2 h3 h4 h5
  obtain ⟨M, rfl⟩ : ∃ M : Nat, M0 = (M : Int) := ⟨M0.toNat, by have := hsm.hm; omega⟩
  have SM := Lib.hid hsm
  have SH := Lib.hid hshape
  clear hsm hshape
  go_enter Tryz.func3, Tryz.ntmps3
  go_wp2_with fail
  have A0 := Lib.hid (show At ((w.alloc (.cells #[.int .u8 x0, .int .u8 x1, .int .u8 x2, .int .u8 x3, .int .u8 x4, .int .u8 x5] 23)).alloc (.cells #[val x, val f] 26)) w.heap.size #[.int .u8 x0, .int .u8 x1, .int .u8 x2, .int .u8 x3, .int .u8 x4, .int .u8 x5] 23 from (At.new _ 23 rfl).alloc _)
  have L0 := Lib.hid (show At ((w.alloc (.cells #[.int .u8 x0, .int .u8 x1, .int .u8 x2, .int .u8 x3, .int .u8 x4, .int .u8 x5] 23)).alloc (.cells #[val x, val f] 26)) (w.heap.size + 1) #[val x, val f] 26 from At.new _ 26 (by simp))
  have B0 := Lib.hid (show Below w.heap.size w ((w.alloc (.cells #[.int .u8 x0, .int .u8 x1, .int .u8 x2, .int .u8 x3, .int .u8 x4, .int .u8 x5] 23)).alloc (.cells #[val x, val f] 26)) from ((Below.refl w.heap.size w).alloc (Nat.le_refl _) _).alloc (by simp) _)
  refine (awake_any _).mono ?_
  rintro e w1 ⟨rfl, hbl⟩
  have A1 := Lib.hid (A0.out.below hbl A0.out.lt)
  have L1 := Lib.hid (L0.out.below hbl L0.out.lt)
  have B1 := Lib.hid (B0.out.trans (hbl.mono B0.out.size))
  clear hbl A0 B0 L0
  have c0 : w1.cell? ⟨w.heap.size, 0, none⟩ = some (.int .u8 x0) := A1.out.cell 0
  have c1 : w1.cell? ⟨w.heap.size, 1, none⟩ = some (.int .u8 x1) := A1.out.cell 1
  have c2 : w1.cell? ⟨w.heap.size, 2, none⟩ = some (.int .u8 x2) := A1.out.cell 2
  have c3 : w1.cell? ⟨w.heap.size, 3, none⟩ = some (.int .u8 x3) := A1.out.cell 3
  have c4 : w1.cell? ⟨w.heap.size, 4, none⟩ = some (.int .u8 x4) := A1.out.cell 4
  have c5 : w1.cell? ⟨w.heap.size, 5, none⟩ = some (.int .u8 x5) := A1.out.cell 5
  by_cases hn0 : 10 < n
  · have hn0' : (10 : Int) < (n : Int) := by omega
    clear c0 c1 c2 c3 c4 c5
    go_wp2
    go_ret
    exact ⟨rfl, B1.out⟩
  go_wp2_with fail
  refine (SH.out w1).mono ?_
  rintro e w2 ⟨rfl, hbl⟩
  have B2 := Lib.hid (B1.out.trans (hbl.mono B1.out.size))
  have L2 := Lib.hid (L1.out.below hbl L1.out.lt)
  clear hbl A1 c0 c1 c2 c3 c4 c5 SH L1
  go_wp2_with fail
  refine (New_any M b g sg n0 l0 SM.out w2).mono ?_
  rintro e w3 ⟨R, q, cap, P, O, S0, z, rfl, hsys, hS, hz⟩
  obtain ⟨s, hy, hcalm, hu, rfl, rfl, rfl, rfl, rfl, rfl, hd⟩ := init_facts hsys hz
  have HY := Lib.hid hy
  have CM := Lib.hid hcalm
  have HU := Lib.hid hu
  have K3 := Lib.hid (init_wait (w := w) (w' := w) (B := 0) (R := 0) (q := 0) (cap := 0) (P := P) (O := O) hd hcalm)
  have B3 := Lib.hid (B2.out.trans (hy.below.mono B2.out.size))
  have L3 := Lib.hid (L2.out.below hy.below L2.out.lt)
  have hMs := hy.rg.arr.many
  have ST2 := Lib.hid (ST.out.below B2.out)
  clear hsys hS hz hy hcalm hu hd SM B1 ST
  have hmk : ∀ w : World, (Instr.makeMap 35 none).run Tryz.prog w = .ok (.map (some w.heap.size)) (w.alloc (.map #[] 0)) := fun w => by kernel_rfl
  go_wp2_with fail
  have nw := HY.out.new w3.heap.size (Nat.le_refl _)
  have L4 := Lib.hid (show Lw w2.heap.size w2 ((w3.alloc (.cells #[ptr R] 29)).alloc (.map #[] 0)) R q cap P O s (w3.heap.size + 1) (fun _ => none) from by have := (HY.out.alloc (.cells #[ptr R] 29)).begin_; simpa using this)
  have R4 := Lib.hid (show At ((w3.alloc (.cells #[ptr R] 29)).alloc (.map #[] 0)) w3.heap.size #[ptr R] 29 from (At.new _ 29 rfl).alloc _)
  have Z4 := Lib.hid (show w3.heap.size < ((w3.alloc (.cells #[ptr R] 29)).alloc (.map #[] 0)).heap.size ∧ w2.heap.size ≤ w3.heap.size ∧ ¬ O w3.heap.size ∧ w3.heap.size ≠ R from ⟨R4.out.lt, HY.out.size, nw.1, nw.2.1⟩)
  have LL := Lib.hid (show w.heap.size + 1 < w2.heap.size from L2.out.lt)
  clear hmk nw HY B3 L3
  refine (put_any false KeptW put_keptW A n c xs (by omega) ST2.out rfl L4.out K3.out (by have := HU.out; omega)).mono ?_
  rintro e w7 ⟨rfl, O7, s7, H7, k1, k2, k3, k4, k5, k6⟩
  have L7 := Lib.hid k1
  have Q7 := Lib.hid k3
  have U7 := Lib.hid (show s7.u ≤ 400 by have := HU.out; omega)
  have X7 := Lib.hid (show At w7 w3.heap.size #[ptr R] 29 ∧ At w7 (w.heap.size + 1) #[val x, val f] 26 ∧ ¬ O7 w3.heap.size ∧ ¬ O7 (w.heap.size + 1) ∧ w3.heap.size ≠ R ∧ w.heap.size + 1 ≠ R ∧ w3.heap.size ≠ w3.heap.size + 1 ∧ w2.heap.size ≤ w3.heap.size ∧ w.heap.size + 1 < w2.heap.size from
    ⟨R4.out.but k6 (fun e => e.elim Z4.out.2.2.1 (fun e => by omega)), L2.out.below k1.sys.below LL.out, fun e => (k5 _ e).elim Z4.out.2.2.1 (fun e => by have := Z4.out.1; omega), fun e => by have := k1.sys.own _ e; have := LL.out; omega, Z4.out.2.2.2, fun e => by have := k1.sys.lo.1; have := LL.out; omega, by omega, Z4.out.2.1, LL.out⟩)
  clear k1 k2 k3 k4 k5 k6 L4 R4 Z4 LL L2 K3 CM ST2 HU
  obtain ⟨b1, hb1⟩ : ∃ b1, b1 = w3.heap.size := ⟨_, rfl⟩
  obtain ⟨b3, hb3⟩ : ∃ b3, b3 = w.heap.size + 1 := ⟨_, rfl⟩
  obtain ⟨hb, hhb⟩ : ∃ hb, hb = w3.heap.size + 1 := ⟨_, rfl⟩
  rw [← hhb] at L7 X7 ⊢
  rw [← hb1] at X7 ⊢
  rw [← hb3] at X7 ⊢
  clear hb1 hb3 hhb
  have f0 := f.isLt
  have x0' := x.isLt
  go_wp2_with fail
  have N7 := Lib.hid L7.out.sys.rg.arr.wf.n
  obtain ⟨t, ht⟩ : ∃ t, (x.toNat : Int) % s7.N = t := ⟨_, rfl⟩
  have HT := Lib.hid ht
  have T7 := Lib.hid (show 0 ≤ t ∧ t < s7.N by rw [← ht]; exact ⟨Int.emod_nonneg _ (by have := N7.out; omega), Int.emod_lt_of_pos _ (by have := N7.out; omega)⟩)
  clear ht
  have S0 : (fun w' : World => w'.cell? ⟨b1, 0, none⟩ = some (ptr R) ∧ At w' b3 #[val x, val f] 26 ∧ w'.rangeAt R 0 s7.sh) w7.drew := ⟨X7.out.1.cell 0, X7.out.2.1, L7.out.drew.sys.range⟩
  refine wp_region_early (fun w' : World => w'.cell? ⟨b1, 0, none⟩ = some (ptr R) ∧ At w' b3 #[val x, val f] 26 ∧ w'.rangeAt R 0 s7.sh) (fun j => decide (j ≠ 10)) (by kernel_rfl) ?_
  change wpEarly _ _ _ _ _ _ 11 (Array.replicate 11 false) _ w7.drew
  refine early_take (i := 0) 39 (.pointer (some ⟨b3, 0, none⟩)) rfl rfl (by kernel_rfl) (by kernel_rfl) (by kernel_rfl) (by kernel_rfl) rfl (fun _ _ _ h => h) (fun w' hw' => by obtain ⟨k1, k2, k3⟩ := hw'; go_simp) S0 ?_
  simp only [Act.put, List.setIfInBounds_toArray, List.set_cons_zero, List.set_cons_succ]
  refine early_take (i := 1) 40 (.int .u8 (x.toNat : Int)) rfl rfl (by kernel_rfl) (by kernel_rfl) (by kernel_rfl) (by kernel_rfl) rfl (fun _ _ _ h => h) (fun w' hw' => by obtain ⟨k1, k2, k3⟩ := hw'; have k : w'.cell? ⟨b3, 0, none⟩ = some (.int .u8 (x.toNat : Int)) := k2.cell 0; go_simp) S0 ?_
  simp only [Act.put, List.setIfInBounds_toArray, List.set_cons_zero, List.set_cons_succ]
  refine early_take (i := 2) 41 (.int .i64 (x.toNat : Int)) rfl rfl (by kernel_rfl) (by kernel_rfl) (by kernel_rfl) (by kernel_rfl) rfl (fun _ _ _ h => h) (fun w' hw' => by obtain ⟨k1, k2, k3⟩ := hw'; have e1 : IntKind.i64.wrap (x.toNat : Int) = (x.toNat : Int) := wrap_of (by omega) (by omega); go_simp) S0 ?_
  simp only [Act.put, List.setIfInBounds_toArray, List.set_cons_zero, List.set_cons_succ]
  refine early_take (i := 3) 42 (ptr R) rfl rfl (by kernel_rfl) (by kernel_rfl) (by kernel_rfl) (by kernel_rfl) rfl (fun _ _ _ h => h) (fun w' hw' => by obtain ⟨k1, k2, k3⟩ := hw'; go_simp) S0 ?_
  simp only [Act.put, List.setIfInBounds_toArray, List.set_cons_zero, List.set_cons_succ]
  refine early_take (i := 4) 43 (ptr R) rfl rfl (by kernel_rfl) (by kernel_rfl) (by kernel_rfl) (by kernel_rfl) rfl (fun _ _ _ h => h) (fun w' hw' => by obtain ⟨k1, k2, k3⟩ := hw'; go_simp) S0 ?_
  simp only [Act.put, List.setIfInBounds_toArray, List.set_cons_zero, List.set_cons_succ]
  refine early_take (i := 5) 44 (ptr R) rfl rfl (by kernel_rfl) (by kernel_rfl) (by kernel_rfl) (by kernel_rfl) rfl (fun _ _ _ h => h) (fun w' hw' => by obtain ⟨k1, k2, k3⟩ := hw'; go_simp) S0 ?_
  simp only [Act.put, List.setIfInBounds_toArray, List.set_cons_zero, List.set_cons_succ]
  refine early_take (i := 6) 45 (sv (s7.M : Int) s7.b s7.g s7.s s7.n s7.l) rfl rfl (by kernel_rfl) (by kernel_rfl) (by kernel_rfl) (by kernel_rfl) rfl (fun _ _ _ h => h) (fun w' hw' => exec_shape (s := s7) (x := .tmp 44) rfl rfl hw'.2.2) S0 ?_
  simp only [Act.put, List.setIfInBounds_toArray, List.set_cons_zero, List.set_cons_succ]
  refine early_two (i := 7) (j := 9) (by kernel_rfl) ⟨rfl, fun K hK => ?_⟩ ⟨rfl, fun K hK => ?_⟩
  case' refine_1 =>
    simp only [opWp, List.getElem?_toArray, List.getElem?_cons_succ, List.getElem?_cons_zero]
    go_simp
    go_at_call 8
    refine (all_call L7.out.sys.rg.arr.wf _).mono ?_
    rintro e wa ⟨rfl, hbl⟩
    have La := Lib.hid (L7.out.drew.up hbl)
    have Xa := Lib.hid (show At wa b1 #[ptr R] 29 ∧ At wa b3 #[val x, val f] 26 from ⟨At.below (w := w7.drew) X7.out.1 hbl X7.out.1.lt, At.below (w := w7.drew) X7.out.2.1 hbl X7.out.2.1.lt⟩)
    have sza : w7.heap.size ≤ wa.heap.size := hbl.size
    have S1 : (fun w' : World => w'.cell? ⟨b1, 0, none⟩ = some (ptr R) ∧ At w' b3 #[val x, val f] 26 ∧ w'.rangeAt R 0 s7.sh) wa := ⟨Xa.out.1.cell 0, Xa.out.2, La.out.sys.range⟩
    refine hK _ _ (fun _ => S1) ?_
    refine early_take (i := 8) 47 (.int .i64 t) rfl rfl (by kernel_rfl) (by kernel_rfl) (by kernel_rfl) (by kernel_rfl) rfl (fun _ _ _ h => h) (fun w' hw' => by obtain ⟨k1, k2, k3⟩ := hw'; have e1 : (x.toNat : Int).tmod s7.N = t := (by rw [Int.tmod_eq_emod_of_nonneg (by omega)]; exact HT.out); have e2 : ¬ s7.N = 0 := (by have := N7.out; omega); go_simp) S1 ?_
    simp only [Act.put, List.setIfInBounds_toArray, List.set_cons_zero, List.set_cons_succ]
    refine early_only (i := 9) (by kernel_rfl) rfl (fun K hK => ?_)
    simp only [opWp, List.getElem?_toArray, List.getElem?_cons_succ, List.getElem?_cons_zero]
    go_simp
    have LV := Lib.hid (La.out.alloc (.cells #[.int .i64 0] 3))
    have TV := Lib.hid (show At (wa.alloc (.cells #[.int .i64 0] 3)) wa.heap.size #[.int .i64 0] 3 from At.new _ 3 rfl)
    have XV := Lib.hid (show At (wa.alloc (.cells #[.int .i64 0] 3)) b1 #[ptr R] 29 ∧ At (wa.alloc (.cells #[.int .i64 0] 3)) b3 #[val x, val f] 26 from ⟨Xa.out.1.alloc _, Xa.out.2.alloc _⟩)
    have NV := Lib.hid (show ¬ O7 wa.heap.size ∧ wa.heap.size ≠ R ∧ wa.heap.size ≠ q ∧ w2.heap.size ≤ wa.heap.size ∧ wa.heap.size ≠ hb from by have h := La.out.sys.new _ (Nat.le_refl _); exact ⟨h.1, h.2.1, h.2.2.1, h.2.2.2, by have := La.out.map.lt; omega⟩)
    have DV := Lib.hid (show b1 ≠ wa.heap.size ∧ b3 ≠ wa.heap.size from ⟨by have := Xa.out.1.lt; omega, by have := Xa.out.2.lt; omega⟩)
    have S2 : (fun w' : World => w'.cell? ⟨b1, 0, none⟩ = some (ptr R) ∧ At w' b3 #[val x, val f] 26 ∧ w'.rangeAt R 0 s7.sh) (wa.alloc (.cells #[.int .i64 0] 3)) := ⟨XV.out.1.cell 0, XV.out.2, LV.out.sys.range⟩
    refine hK _ _ (fun _ => S2) ?_
    refine early_only (i := 10) (by kernel_rfl) rfl (fun K hK => ?_)
    simp only [opWp, List.getElem?_toArray, List.getElem?_cons_succ, List.getElem?_cons_zero]
    have f8 := TV.out.frozen 0
    have c8 := TV.out.cell 0
    go_simp
    have L8 := Lib.hid (La.out.alloc (.cells #[.int .i64 t] 3))
    have T8 := Lib.hid (show At (wa.alloc (.cells #[.int .i64 t] 3)) wa.heap.size #[.int .i64 t] 3 from At.new _ 3 rfl)
    have X8 := Lib.hid (show At (wa.alloc (.cells #[.int .i64 t] 3)) b1 #[ptr R] 29 ∧ At (wa.alloc (.cells #[.int .i64 t] 3)) b3 #[val x, val f] 26 from ⟨Xa.out.1.alloc _, Xa.out.2.alloc _⟩)
    refine hK _ _ (fun h => absurd h (by decide)) ?_
    refine early_done (by kernel_rfl) ?_
    clear S0 S1 S2 f8 c8 sza La Xa LV TV XV DV
    generalize wa.alloc (.cells #[.int .i64 t] 3) = w8 at *
    generalize wa.heap.size = b2 at *
  case' refine_2 =>
    simp only [opWp, List.getElem?_toArray, List.getElem?_cons_succ, List.getElem?_cons_zero]
    go_simp
    have LA := Lib.hid (L7.out.drew.alloc (.cells #[.int .i64 0] 3))
    have TA := Lib.hid (show At (w7.drew.alloc (.cells #[.int .i64 0] 3)) w7.heap.size #[.int .i64 0] 3 from At.new (w := w7.drew) _ 3 rfl)
    have XA := Lib.hid (show At (w7.drew.alloc (.cells #[.int .i64 0] 3)) b1 #[ptr R] 29 ∧ At (w7.drew.alloc (.cells #[.int .i64 0] 3)) b3 #[val x, val f] 26 from ⟨At.alloc (w := w7.drew) X7.out.1 _, At.alloc (w := w7.drew) X7.out.2.1 _⟩)
    have NV := Lib.hid (show ¬ O7 w7.heap.size ∧ w7.heap.size ≠ R ∧ w7.heap.size ≠ q ∧ w2.heap.size ≤ w7.heap.size ∧ w7.heap.size ≠ hb from by have h := L7.out.sys.new _ (Nat.le_refl _); exact ⟨h.1, h.2.1, h.2.2.1, h.2.2.2, by have := L7.out.map.lt; omega⟩)
    have DV := Lib.hid (show b1 ≠ w7.heap.size ∧ b3 ≠ w7.heap.size from ⟨by have := X7.out.1.lt; omega, by have := X7.out.2.1.lt; omega⟩)
    have S2 : (fun w' : World => w'.cell? ⟨b1, 0, none⟩ = some (ptr R) ∧ At w' b3 #[val x, val f] 26 ∧ w'.rangeAt R 0 s7.sh) (w7.drew.alloc (.cells #[.int .i64 0] 3)) := ⟨XA.out.1.cell 0, XA.out.2, LA.out.sys.range⟩
    refine hK _ _ (fun _ => S2) ?_
    refine early_only (i := 7) (by kernel_rfl) rfl (fun K hK => ?_)
    simp only [opWp, List.getElem?_toArray, List.getElem?_cons_succ, List.getElem?_cons_zero]
    go_simp
    go_at_call 8
    refine (all_call LA.out.sys.rg.arr.wf _).mono ?_
    rintro e wa ⟨rfl, hbl⟩
    have LV := Lib.hid (LA.out.up hbl)
    have TV := Lib.hid (TA.out.below hbl TA.out.lt)
    have XV := Lib.hid (show At wa b1 #[ptr R] 29 ∧ At wa b3 #[val x, val f] 26 from ⟨XA.out.1.below hbl XA.out.1.lt, XA.out.2.below hbl XA.out.2.lt⟩)
    have S1 : (fun w' : World => w'.cell? ⟨b1, 0, none⟩ = some (ptr R) ∧ At w' b3 #[val x, val f] 26 ∧ w'.rangeAt R 0 s7.sh) wa := ⟨XV.out.1.cell 0, XV.out.2, LV.out.sys.range⟩
    refine hK _ _ (fun _ => S1) ?_
    refine early_take (i := 8) 47 (.int .i64 t) rfl rfl (by kernel_rfl) (by kernel_rfl) (by kernel_rfl) (by kernel_rfl) rfl (fun _ _ _ h => h) (fun w' hw' => by obtain ⟨k1, k2, k3⟩ := hw'; have e1 : (x.toNat : Int).tmod s7.N = t := (by rw [Int.tmod_eq_emod_of_nonneg (by omega)]; exact HT.out); have e2 : ¬ s7.N = 0 := (by have := N7.out; omega); go_simp) S1 ?_
    simp only [Act.put, List.setIfInBounds_toArray, List.set_cons_zero, List.set_cons_succ]
    refine early_only (i := 10) (by kernel_rfl) rfl (fun K hK => ?_)
    simp only [opWp, List.getElem?_toArray, List.getElem?_cons_succ, List.getElem?_cons_zero]
    have f8 := TV.out.frozen 0
    have c8 := TV.out.cell 0
    go_simp
    have b78 := But.own wa w7.heap.size 0 (.int .i64 t)
    have n8 := LV.out.sys.new
    have L8 := Lib.hid (LV.out.but (S := fun k => k = w7.heap.size) b78 (fun k e => by subst e; exact NV.out))
    have T8 := Lib.hid (show At (wa.setCell ⟨w7.heap.size, 0, none⟩ (.int .i64 t)) w7.heap.size #[.int .i64 t] 3 from TV.out.set 0 _)
    have X8 := Lib.hid (show At (wa.setCell ⟨w7.heap.size, 0, none⟩ (.int .i64 t)) b1 #[ptr R] 29 ∧ At (wa.setCell ⟨w7.heap.size, 0, none⟩ (.int .i64 t)) b3 #[val x, val f] 26 from ⟨XV.out.1.but b78 (fun e => DV.out.1 e), XV.out.2.but b78 (fun e => DV.out.2 e)⟩)
    clear b78 n8
    refine hK _ _ (fun h => absurd h (by decide)) ?_
    refine early_done (by kernel_rfl) ?_
    clear S0 S1 S2 f8 c8 LA TA XA LV TV XV DV hbl
    generalize wa.setCell ⟨w7.heap.size, 0, none⟩ (.int .i64 t) = w8 at *
    generalize w7.heap.size = b2 at *
  all_goals
    obtain ⟨o, hoo⟩ : ∃ o, ops % 16 = o := ⟨_, rfl⟩
    have o1 : ops.tmod 16 = o := by rw [Int.tmod_eq_emod_of_nonneg ho.1]; exact hoo
    have o2 : 0 ≤ o ∧ o ≤ 15 := by omega
    have o3 : IntKind.i64.wrap o = o := wrap_of (by omega) (by omega)
    have OO := Lib.hid o2
    have r1 : w8.cell? ⟨b1, 0, none⟩ = some (ptr R) := X8.out.1.cell 0
    have r6 := L8.out.cells.2.1
    clear L7 hoo
    go_wp2_with fail
    refine (limit_any P.p s7.u (-1) o w8 L8.out.sys.rg.arr.pw).mono ?_
    rintro e w9 ⟨rfl, hp, he⟩
    have b89 : But (fun k => k = P.p) w8 w9 := by rw [he]; exact But.own _ _ _ _
    have A9 := Lib.hid (L8.out.sys.rg.arr.arl.limit hp b89)
    have opp := L8.out.sys.rg.arr.arl.own
    have B9 := Lib.hid (show But O7 w8 w9 from b89.mono (fun k e _ => e ▸ opp.2.2.1))
    clear hp he b89 r1 r6 o1 o3 opp
    have hmf : ∀ (fn : Fn) (first cap : Array Value) (w : World), (Instr.makeFunc fn first cap).run Tryz.prog w = .ok (.func fn first cap) w := fun _ _ _ _ => rfl
    go_wp2_with fail
    have C9 := Lib.hid (show Bx w9 b1 b2 b3 R q cap P O7 s7 t x f from
      Bx.did (w := w8) ⟨X8.out.1, T8.out, X8.out.2, L8.out.sys.rg.rig, X7.out.2.2.1, NV.out.1, X7.out.2.2.2.1, L8.out.sys.rg.off.1⟩ B9.out)
    refine (run_some 11 #[.pointer (some ⟨b1, 0, none⟩), .pointer (some ⟨b2, 0, none⟩), .pointer (some ⟨b3, 0, none⟩)] w9 (fun w => by kernel_rfl) (fun gone w' => CutR (s7.at_ t) (partF s7.M s7.b.toNat t f) (w9.alloc (.cells #[.bool false] 4)) P O7 s7 gone w')
      ((cut_any b1 b2 b3 R q cap t x f T7.out (C9.out.up ((Below.refl _ _).alloc (Nat.le_refl _) _)) (A9.out.alloc _) (by have := U7.out; omega) Q7.out.1.1 (by have := OO.out; omega)).mono ?_)).mono ?_
    · rintro e w' ⟨gone, rfl, hc⟩
      refine ⟨gone, rfl, hc, ?_⟩
      obtain ⟨_, _, _, _, _, k3, _⟩ := cut_out Q7.out L8.out.sys.rg.arr.wf T7.out hc
      exact (At.new (w := w9) #[.bool false] 4 rfl).but k3 (fun e => by have := A9.out.lt _ e; omega)
    rintro e w10 ⟨gone, wc, rfl, hc, hb10⟩
    obtain ⟨s10, l10, O10, k1, k2, k3, k4, k5, k6⟩ := cut_out Q7.out L8.out.sys.rg.arr.wf T7.out hc
    have sz9 := B9.out.size
    have sza : (w9.alloc (.cells #[.bool false] 4)).heap.size = w9.heap.size + 1 := by simp
    have nO : ¬ O10 w9.heap.size := fun e => (k2 _ e).elim (fun e => by have := A9.out.lt _ e; omega) (fun e => by rw [sza] at e; omega)
    have A10 := Lib.hid (k1.but hb10 (fun k hk e => nO (e ▸ hk)))
    have O10H := Lib.hid (show ∀ k, O10 k → O7 k ∨ w8.heap.size ≤ k from fun k hk => (k2 k hk).imp id (fun h => by rw [sza] at h; omega))
    have B10 := Lib.hid (show But O7 w8 w10 from (((B9.out.alloc (.cells #[.bool false] 4)).trans k3 (fun k h _ => h)).trans hb10 (fun k e hlt => by omega)))
    have SM10 := Lib.hid k4
    have U10 := Lib.hid (show s10.u ≤ 500 by have := U7.out; omega)
    have KP := Lib.hid (k6)
    clear hc hb10 k1 k2 k3 k4 k5 k6 nO C9 A9 sz9 sza hmf
    have r1 : w10.cell? ⟨b1, 0, none⟩ = some (ptr R) := (X8.out.1.but B10.out X7.out.2.2.1).cell 0
    have r6 : w10.cell? ⟨R, 6, none⟩ = some (ptr P.p) := (L8.out.sys.rg.rig.but B10.out L8.out.sys.rg.off.1).cell 6
    go_wp2_with fail
    refine (limit_any P.p s10.u l10 (-1) w10 A10.out.pw).mono ?_
    rintro e w11 ⟨rfl, hp, he⟩
    have b1011 : But (fun k => k = P.p) w10 w11 := by rw [he]; exact But.own _ _ _ _
    have a11 := (A10.out.limit hp b1011).arr
    obtain ⟨O11, k1, k2, k3⟩ := L8.out.did SM10.out (w' := w11) ⟨O10, a11, O10H.out, B10.out.trans b1011 (fun k e hlt => by subst e; exact L8.out.sys.rg.arr.arl.own.2.2.1)⟩
    have L11 := Lib.hid k1
    have X11 := Lib.hid (show At w11 b1 #[ptr R] 29 ∧ At w11 b2 #[.int .i64 t] 3 ∧ At w11 b3 #[val x, val f] 26 ∧ ¬ O11 b1 ∧ ¬ O11 b2 ∧ ¬ O11 b3 from
      ⟨X8.out.1.but k3 X7.out.2.2.1, T8.out.but k3 NV.out.1, X8.out.2.but k3 X7.out.2.2.2.1, fun e => (k2 _ e).elim X7.out.2.2.1 (fun h => by have := X8.out.1.lt; omega), fun e => (k2 _ e).elim NV.out.1 (fun h => by have := T8.out.lt; omega), fun e => (k2 _ e).elim X7.out.2.2.2.1 (fun h => by have := X8.out.2.lt; omega)⟩)
    clear hp he b1011 a11 k1 k2 k3 r1 r6 A10 O10H B10 L8 X8 T8 B9
    have r1 : w11.cell? ⟨b1, 0, none⟩ = some (ptr R) := X11.out.1.cell 0
    have r7 := L11.out.cells.2.2.1
    have M10 := L11.out.sys.rg.arr.many
    go_wp2_with fail
    go_loopw [68] (fun i wr => ∃ j : Nat, j ≤ s10.M ∧ i = .int .i64 (j : Int) ∧ ∃ s', Lw w2.heap.size w2 wr R q cap P O11 s' hb H7 ∧ CycTo keep j s10 s' ∧ But O11 w11 wr) (fun i _ => s10.M - (RowKit.intOf i).toNat)
    case atStart => exact ⟨0, Nat.zero_le _, rfl, s10, L11.out, CycTo.start, But.refl _ _⟩
    case round =>
      obtain ⟨j, hj, rfl, s', k1, k2, k3⟩ := hrel
      have L12 := Lib.hid k1
      have C12 := Lib.hid k2
      have B12 := Lib.hid k3
      clear k1 k2 k3 r1 r7
      by_cases hlt : j < s10.M
      · have jl : j < s'.M := by have := C12.out.same.M; omega
        have hd := L12.out.sys.rg.row.2 j jl
        go_wp2_with fail
        refine (cycle_sys hk jl L12.out).mono ?_
        rintro e w13 ⟨rfl, ss, hW, k1, k2⟩
        have L13 := Lib.hid k1
        have C13 := Lib.hid (C12.out.step hlt hW)
        have B13 := Lib.hid (B12.out.trans k2 (fun k h _ => h))
        clear k1 k2 hW hd
        go_wp2
        go_roundw
        case rel => exact ⟨j + 1, by omega, by go_num, _, L13.out, C13.out, B13.out⟩
        case measure => simp [RowKit.intOf]; omega
      · obtain rfl : j = s10.M := by omega
        have Q12 := Lib.hid (KP.out s' keep C12.out)
        have X12 := Lib.hid (show At wr b1 #[ptr R] 29 ∧ At wr b2 #[.int .i64 t] 3 ∧ At wr b3 #[val x, val f] 26 from ⟨X11.out.1.but B12.out X11.out.2.2.2.1, X11.out.2.1.but B12.out X11.out.2.2.2.2.1, X11.out.2.2.1.but B12.out X11.out.2.2.2.2.2⟩)
        have c2 : wr.cell? ⟨b2, 0, none⟩ = some (.int .i64 t) := X12.out.2.1.cell 0
        have i64 : In64 t := by unfold In64; have := T7.out; have := N7.out; omega
        obtain ⟨w13, hrun, hm13, hb13⟩ := L12.out.map.del Tryz.underlying35 i64
        have ev : (fun j => if j = t then none else H7.vals j) = (H7.del t).vals := by
          funext y
          unfold Hv.vals Hv.del
          split <;> rfl
        rw [ev] at hm13
        have L13 := Lib.hid (L12.out.turn hm13 hb13 (fun u hu => by
          unfold Hv.del at hu
          by_cases e : u = t
          · rw [if_pos e] at hu; exact absurd rfl hu
          · rw [if_neg e] at hu; exact L12.out.dom u hu))
        have X13 := Lib.hid (show At w13 b1 #[ptr R] 29 ∧ At w13 b2 #[.int .i64 t] 3 ∧ At w13 b3 #[val x, val f] 26 from ⟨X12.out.1.but hb13 X7.out.2.2.2.2.2.2.1, X12.out.2.1.but hb13 NV.out.2.2.2.2, X12.out.2.2.but hb13 (fun e => by have := X7.out.2.2.2.2.2.2.2; have := L12.out.off.2.2.2; omega)⟩)
        have SN := Lib.hid (show s'.N = s7.N from C12.out.same.N.trans SM10.out.N)
        have U13 := Lib.hid (show s'.u ≤ 500 by have e : s'.u = s10.u := (by rw [C12.out.eq]); have := U10.out; omega)
        clear hm13 hb13 ev L12 C12 B12 X12
        cases gone
        · simp only [Bool.false_eq_true, if_false] at Q12
          have d2 : w13.cell? ⟨b2, 0, none⟩ = some (.int .i64 t) := X13.out.2.1.cell 0
          have d3 : w13.cell? ⟨b3, 1, none⟩ = some (.int .u8 (f.toNat : Int)) := X13.out.2.2.cell 1
          obtain ⟨w14, hrun2, hm14, hb14⟩ := L13.out.map.store Tryz.underlying35 L13.out.under (by unfold maxLen; omega) i64 (val f)
          rw [← vals_set] at hm14
          have L14 := Lib.hid (L13.out.turn hm14 hb14 (fun u hu => by
            unfold Hv.set at hu
            by_cases e : u = t
            · rw [e, SN.out]; exact T7.out
            · rw [if_neg e] at hu; exact L13.out.dom u hu))
          have d1 : w14.cell? ⟨b1, 0, none⟩ = some (ptr R) := (X13.out.1.but hb14 X7.out.2.2.2.2.2.2.1).cell 0
          have eH : (H7.del t).set t f = H7.set t f := by
            funext u
            unfold Hv.set Hv.del
            by_cases e : u = t
            · simp [e]
            · simp [e]
          rw [eH] at L14
          clear hm14 hb14 eH
          have hr2 := hrun2
          unfold val at hr2
          go_wp2_with fail
          refine (holds_any false Kept read_calm L14.out Q12.out (by have := U13.out; omega)).mono ?_
          rintro e w15 ⟨rfl, s15, k1, k2, k3, k4, k5⟩
          have B15 := Lib.hid (B2.out.trans (k1.sys.below.mono B2.out.size))
          clear k1 k2 k3 k4 k5
          go_wp2
          go_ret
          exact ⟨rfl, B15.out⟩
        · simp only [if_true] at Q12
          have d1 : w13.cell? ⟨b1, 0, none⟩ = some (ptr R) := X13.out.1.cell 0
          go_wp2_with fail
          refine (holds_any false Kept read_calm L13.out Q12.out (by have := U13.out; omega)).mono ?_
          rintro e w15 ⟨rfl, s15, k1, k2, k3, k4, k5⟩
          have B15 := Lib.hid (B2.out.trans (k1.sys.below.mono B2.out.size))
          clear k1 k2 k3 k4 k5
          go_wp2
          go_ret
          exact ⟨rfl, B15.out⟩
end Go.Proofs.YtapbphkhbhcdkaaGreat

/-
  A STRIPE THAT COMES IN BY VALUE; THE WALK OF ArrayCut FOR ANY NUMBER keep.
-/
namespace Go.Proofs.YtapbphkhbhcdkaaGreat
open Go.RowKit Go.Sort Go.Joins Go.ChangeShapes Go.WideShapes Go.ChangeAt Go.Maps Go.Deep
set_option linter.unusedVariables false
set_option maxRecDepth 100000

section
variable {H : Type} {enc : TypeId × Value → H} {w : World}
theorem last_in {r : Reach} {base : Nat} {v : Value} {d : DataW H} {p : List MemPlace} (hv : Value.okWide Tryz.prog w r base 26 v) (h : DataW.Trod enc Tryz.prog w 0 (fun _ => true) true 26 v d p) :
    ∃ x f : BitVec 8, v = .agg #[val x, val f] := by
  obtain ⟨⟨cs⟩, rfl, hsz⟩ := okWide_struct Tryz.underlying26 hv
  obtain ⟨fuel, hf⟩ := h
  obtain ⟨v0, v1, n, z0, z1, hcs, t0, t1⟩ := two_in Tryz.underlying26 (by kernel_rfl) cells89 hf
  obtain rfl : cs = _ := hcs
  obtain ⟨a0, e0, _, w0⟩ := DataW.trod_int Tryz.underlying5 t0
  obtain ⟨a1, e1, _, w1⟩ := DataW.trod_int Tryz.underlying5 t1
  injection e0 with e0
  injection e1 with e1
  subst e0 e1
  have b0 : 0 ≤ a0 ∧ a0 ≤ 255 := by simpa [Lit.wf, IntKind.min, IntKind.max, IntKind.signed, IntKind.bits] using w0
  have b1 : 0 ≤ a1 ∧ a1 ≤ 255 := by simpa [Lit.wf, IntKind.min, IntKind.max, IntKind.signed, IntKind.bits] using w1
  have n0 : (((BitVec.ofNat 8 a0.toNat).toNat : Nat) : Int) = a0 := by rw [BitVec.toNat_ofNat]; omega
  have n1 : (((BitVec.ofNat 8 a1.toNat).toNat : Nat) : Int) = a1 := by rw [BitVec.toNat_ofNat]; omega
  refine ⟨BitVec.ofNat 8 a0.toNat, BitVec.ofNat 8 a1.toNat, ?_⟩
  unfold val
  rw [n0, n1]
end

theorem cut_walk2 (x0 x1 x2 x3 x4 x5 : Int) (A : Option Addr) (n c : Nat) (xs : List (BitVec 8 × BitVec 8)) {w : World} (hst : St w A n xs) (x f : BitVec 8) (ops keep : Int) (h0 : 0 ≤ x0 ∧ x0 ≤ 255) (h1 : 0 ≤ x1 ∧ x1 ≤ 255) (h2 : 0 ≤ x2 ∧ x2 ≤ 255) (h3 : 0 ≤ x3 ∧ x3 ≤ 255) (h4 : 0 ≤ x4 ∧ x4 ≤ 255) (h5 : 0 ≤ x5 ∧ x5 ≤ 255) (ho : 0 ≤ ops ∧ ops ≤ 255) (hk : 0 ≤ keep ∧ keep ≤ 18446744073709551615) :
    Calls Tryz.prog 3 #[.agg #[.int .u8 x0, .int .u8 x1, .int .u8 x2, .int .u8 x3, .int .u8 x4, .int .u8 x5], .slice A n c, .agg #[val x, val f], .int .u8 ops, .int .u64 keep] w fun e w' => e = .returned (.bool true) ∧ Below w.heap.size w w' := by
  obtain ⟨k, rfl⟩ : ∃ k : Nat, keep = (k : Int) := ⟨keep.toNat, by omega⟩
  exact cut_walk x0 x1 x2 x3 x4 x5 A n c xs hst x f ops k h0 h1 h2 h3 h4 h5 ho (by omega)
end Go.Proofs.YtapbphkhbhcdkaaGreat
