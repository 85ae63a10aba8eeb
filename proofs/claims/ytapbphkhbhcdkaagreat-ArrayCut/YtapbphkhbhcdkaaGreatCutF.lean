/-
  THE WALK OF THE CLOSURE OF ArrayCut, UNDER A LIMIT.
-/
import Derived.Test.YtapbphkhbhcdkaaGreatPutL
import Derived.Test.YtapbphkhbhcdkaaGreatBegin
import Derived.Test.YtapbphkhbhcdkaaGreatRun
namespace Go.Proofs.YtapbphkhbhcdkaaGreat
open Go.RowKit Go.Maps
set_option linter.unusedVariables false
set_option maxRecDepth 100000

section
variable {w w' : World} {P : Pl} {O : Nat → Prop} {s : AS} {l : Int}

/-- What the law holds when the put is cut: the rig, and the boxes of the law's variables. -/
structure Bx (w : World) (b1 b2 b3 R q cap : Nat) (P : Pl) (O : Nat → Prop) (s : AS) (t : Int) (x f : BitVec 8) : Prop where
  rg : At w b1 #[ptr R] 29
  st : At w b2 #[.int .i64 t] 3
  la : At w b3 #[val x, val f] 26
  rig : At w R (rcells s.M s.b s.g s.s s.n s.l P.p (.slice (some ⟨q, 0, none⟩) s.M cap) (ptr P.n) (ptr P.a)) 42
  off : ¬ O b1 ∧ ¬ O b2 ∧ ¬ O b3 ∧ ¬ O R
section
variable {b1 b2 b3 R q cap : Nat} {t : Int} {x f : BitVec 8}
theorem Bx.but {S : Nat → Prop} (h : Bx w b1 b2 b3 R q cap P O s t x f) (hb : But S w w') (hS : ∀ k, S k → k ≠ b1 ∧ k ≠ b2 ∧ k ≠ b3 ∧ k ≠ R) : Bx w' b1 b2 b3 R q cap P O s t x f :=
  ⟨h.rg.but hb (fun e => (hS _ e).1 rfl), h.st.but hb (fun e => (hS _ e).2.1 rfl), h.la.but hb (fun e => (hS _ e).2.2.1 rfl), h.rig.but hb (fun e => (hS _ e).2.2.2 rfl), h.off⟩
theorem Bx.up (h : Bx w b1 b2 b3 R q cap P O s t x f) (hb : Below w.heap.size w w') : Bx w' b1 b2 b3 R q cap P O s t x f := h.but (S := fun _ => False) (But.of_below hb) (fun _ h => h.elim)
theorem Bx.did (h : Bx w b1 b2 b3 R q cap P O s t x f) (hb : But O w w') : Bx w' b1 b2 b3 R q cap P O s t x f :=
  h.but hb (fun k hk => ⟨fun e => h.off.1 (e ▸ hk), fun e => h.off.2.1 (e ▸ hk), fun e => h.off.2.2.1 (e ▸ hk), fun e => h.off.2.2.2 (e ▸ hk)⟩)
theorem Bx.range (h : Bx w b1 b2 b3 R q cap P O s t x f) : w.rangeAt R 0 s.sh := by
  intro j v hv
  rw [Nat.zero_add]
  have hj : j < 6 := by have := (List.getElem?_eq_some_iff.1 hv).1; simpa [AS.sh] using this
  rw [h.rig.cell]
  match j, hj, hv with
  | 0, _, hv => exact hv
  | 1, _, hv => exact hv
  | 2, _, hv => exact hv
  | 3, _, hv => exact hv
  | 4, _, hv => exact hv
  | 5, _, hv => exact hv
theorem Bx.five (h : Bx w b1 b2 b3 R q cap P O s t x f) : w.cell? ⟨b1, 0, none⟩ = some (ptr R) ∧ w.cell? ⟨b2, 0, none⟩ = some (.int .i64 t) ∧ w.cell? ⟨b3, 1, none⟩ = some (.int .u8 (f.toNat : Int)) ∧ w.cell? ⟨R, 9, none⟩ = some (ptr P.a) ∧ w.rangeAt R 0 s.sh :=
  ⟨h.rg.cell 0, h.st.cell 0, h.la.cell 1, h.rig.cell 9, h.range⟩
end

/-- What the put under a limit comes to. -/
def CutR (i : Int) (B : Nat → Bytes) (w : World) (P : Pl) (O : Nat → Prop) (s : AS) (gone : Bool) (w' : World) : Prop :=
  (gone = false ∧ ∃ s' l', Dil w P O s' l' w' ∧ PutAs i B s s' 0) ∨ (gone = true ∧ ∃ s', Dil w P O s' 0 w' ∧ Rel (fun j d d' => Some1 i (B j) d d') 20 s s')

set_option maxHeartbeats 3200000 in
theorem cut_any (b1 b2 b3 R q cap : Nat) (t : Int) (x f : BitVec 8) (ht : 0 ≤ t ∧ t < s.N) (hx : Bx w b1 b2 b3 R q cap P O s t x f) (h : Arl w P O s l) (hu : s.u ≤ 700000) (hcalm : Calm s) (hl : 0 ≤ l ∧ l ≤ 1000) :
    Calls Tryz.prog 11 #[.pointer (some ⟨b1, 0, none⟩), .pointer (some ⟨b2, 0, none⟩), .pointer (some ⟨b3, 0, none⟩)] w fun e w' => ∃ gone, e = (if gone then .panicked out else .returned (.tuple #[])) ∧ CutR (s.at_ t) (partF s.M s.b.toNat t f) w P O s gone w' := by
  have HA := Lib.hid h
  have HX := Lib.hid hx
  have T1 := Lib.hid ht
  have hMs := h.many
  have nb1 : (s.b.toNat : Int) = s.b := by have := h.wf.small.hb; omega
  have NB := Lib.hid nb1
  have b48 := Lib.hid h.wf.small.hb
  have HC := Lib.hid hcalm
  have HL := Lib.hid hl
  clear h hx ht nb1 hcalm hl
  go_enter Tryz.func11, Tryz.ntmps11
  go_wp2_with fail
  have S0 : (fun w' : World => w'.cell? ⟨b1, 0, none⟩ = some (ptr R) ∧ w'.cell? ⟨b2, 0, none⟩ = some (.int .i64 t) ∧ w'.cell? ⟨b3, 1, none⟩ = some (.int .u8 (f.toNat : Int)) ∧ w'.cell? ⟨R, 9, none⟩ = some (ptr P.a) ∧ w'.rangeAt R 0 s.sh) w.drew := (HX.out.but (S := fun _ => False) ((But.refl _ _).drew) (fun _ h => h.elim)).five
  refine wp_region_early (fun w' : World => w'.cell? ⟨b1, 0, none⟩ = some (ptr R) ∧ w'.cell? ⟨b2, 0, none⟩ = some (.int .i64 t) ∧ w'.cell? ⟨b3, 1, none⟩ = some (.int .u8 (f.toNat : Int)) ∧ w'.cell? ⟨R, 9, none⟩ = some (ptr P.a) ∧ w'.rangeAt R 0 s.sh) (fun _ => true) (by kernel_rfl) ?_
  change wpEarly _ _ _ _ _ _ 13 (Array.replicate 13 false) _ w.drew
  refine early_take (i := 0) 3 (ptr R) rfl rfl (by kernel_rfl) (by kernel_rfl) (by kernel_rfl) (by kernel_rfl) rfl (fun _ _ _ h => h) (fun w' hw' => by obtain ⟨k1, k2, k3, k4, k5⟩ := hw'; go_simp) S0 ?_
  simp only [Act.put, List.setIfInBounds_toArray, List.set_cons_zero, List.set_cons_succ]
  refine early_take (i := 1) 4 (ptr R) rfl rfl (by kernel_rfl) (by kernel_rfl) (by kernel_rfl) (by kernel_rfl) rfl (fun _ _ _ h => h) (fun w' hw' => by obtain ⟨k1, k2, k3, k4, k5⟩ := hw'; go_simp) S0 ?_
  simp only [Act.put, List.setIfInBounds_toArray, List.set_cons_zero, List.set_cons_succ]
  refine early_take (i := 2) 5 (.pointer (some ⟨R, 9, none⟩)) rfl rfl (by kernel_rfl) (by kernel_rfl) (by kernel_rfl) (by kernel_rfl) rfl (fun _ _ _ h => h) (fun w' hw' => by obtain ⟨k1, k2, k3, k4, k5⟩ := hw'; go_simp) S0 ?_
  simp only [Act.put, List.setIfInBounds_toArray, List.set_cons_zero, List.set_cons_succ]
  refine early_take (i := 3) 6 (ptr P.a) rfl rfl (by kernel_rfl) (by kernel_rfl) (by kernel_rfl) (by kernel_rfl) rfl (fun _ _ _ h => h) (fun w' hw' => by obtain ⟨k1, k2, k3, k4, k5⟩ := hw'; go_simp) S0 ?_
  simp only [Act.put, List.setIfInBounds_toArray, List.set_cons_zero, List.set_cons_succ]
  refine early_take (i := 4) 7 (.int .i64 t) rfl rfl (by kernel_rfl) (by kernel_rfl) (by kernel_rfl) (by kernel_rfl) rfl (fun _ _ _ h => h) (fun w' hw' => by obtain ⟨k1, k2, k3, k4, k5⟩ := hw'; go_simp) S0 ?_
  simp only [Act.put, List.setIfInBounds_toArray, List.set_cons_zero, List.set_cons_succ]
  refine early_take (i := 5) 8 (ptr R) rfl rfl (by kernel_rfl) (by kernel_rfl) (by kernel_rfl) (by kernel_rfl) rfl (fun _ _ _ h => h) (fun w' hw' => by obtain ⟨k1, k2, k3, k4, k5⟩ := hw'; go_simp) S0 ?_
  simp only [Act.put, List.setIfInBounds_toArray, List.set_cons_zero, List.set_cons_succ]
  refine early_take (i := 6) 9 (ptr R) rfl rfl (by kernel_rfl) (by kernel_rfl) (by kernel_rfl) (by kernel_rfl) rfl (fun _ _ _ h => h) (fun w' hw' => by obtain ⟨k1, k2, k3, k4, k5⟩ := hw'; go_simp) S0 ?_
  simp only [Act.put, List.setIfInBounds_toArray, List.set_cons_zero, List.set_cons_succ]
  refine early_take (i := 7) 10 (ptr R) rfl rfl (by kernel_rfl) (by kernel_rfl) (by kernel_rfl) (by kernel_rfl) rfl (fun _ _ _ h => h) (fun w' hw' => by obtain ⟨k1, k2, k3, k4, k5⟩ := hw'; go_simp) S0 ?_
  simp only [Act.put, List.setIfInBounds_toArray, List.set_cons_zero, List.set_cons_succ]
  refine early_take (i := 8) 11 (sv (s.M : Int) s.b s.g s.s s.n s.l) rfl rfl (by kernel_rfl) (by kernel_rfl) (by kernel_rfl) (by kernel_rfl) rfl (fun _ _ _ h => h) (fun w' hw' => exec_shape (s := s) (x := .tmp 10) rfl rfl hw'.2.2.2.2) S0 ?_
  simp only [Act.put, List.setIfInBounds_toArray, List.set_cons_zero, List.set_cons_succ]
  refine early_take (i := 9) 12 (.pointer (some ⟨b3, 1, none⟩)) rfl rfl (by kernel_rfl) (by kernel_rfl) (by kernel_rfl) (by kernel_rfl) rfl (fun _ _ _ h => h) (fun w' hw' => by obtain ⟨k1, k2, k3, k4, k5⟩ := hw'; go_simp) S0 ?_
  simp only [Act.put, List.setIfInBounds_toArray, List.set_cons_zero, List.set_cons_succ]
  refine early_take (i := 10) 13 (.int .u8 (f.toNat : Int)) rfl rfl (by kernel_rfl) (by kernel_rfl) (by kernel_rfl) (by kernel_rfl) rfl (fun _ _ _ h => h) (fun w' hw' => by obtain ⟨k1, k2, k3, k4, k5⟩ := hw'; go_simp) S0 ?_
  simp only [Act.put, List.setIfInBounds_toArray, List.set_cons_zero, List.set_cons_succ]
  refine early_only (i := 11) (by kernel_rfl) rfl (fun K hK => ?_)
  simp only [opWp, List.getElem?_toArray, List.getElem?_cons_succ, List.getElem?_cons_zero]
  go_simp
  go_at_call 13
  refine (Chunks_any s.M s.b s.g s.s s.n s.l s.b.toNat NB.out.symm (by have := b48.out; omega) (by omega) f _ rfl w.drew).mono ?_
  rintro e w4 ⟨v, L, rfl, hcl, hll, hlm, hln, hbl⟩
  have A4 := Lib.hid (HA.out.drew.up hbl)
  have X4 := Lib.hid (Bx.up (w := w.drew) (HX.out.but (S := fun _ => False) ((But.refl _ _).drew) (fun _ h => h.elim)) hbl)
  have B4 := Lib.hid (But.of_drewN 1 (But.of_below (S := O) hbl))
  have CL := Lib.hid hcl
  have LL := Lib.hid hll
  have LM := Lib.hid hlm
  have LN := Lib.hid hln
  have S7 : (fun w' : World => w'.cell? ⟨b1, 0, none⟩ = some (ptr R) ∧ w'.cell? ⟨b2, 0, none⟩ = some (.int .i64 t) ∧ w'.cell? ⟨b3, 1, none⟩ = some (.int .u8 (f.toNat : Int)) ∧ w'.cell? ⟨R, 9, none⟩ = some (ptr P.a) ∧ w'.rangeAt R 0 s.sh) w4 := X4.out.five
  clear hcl hll hlm hln hbl
  refine hK _ _ (fun _ => S7) ?_
  refine early_only (i := 12) (by kernel_rfl) rfl (fun K hK => ?_)
  simp only [opWp, List.getElem?_toArray, List.getElem?_cons_succ, List.getElem?_cons_zero]
  obtain ⟨A5, c5, rfl, hln5⟩ := CL.out.ln (by have := LL.out; omega)
  have no1 : ∀ k, w.heap.size ≤ k → ¬ O k := fun k hk e => by have := HA.out.lt k e; omega
  go_simp
  go_at_call 12
  refine (Put_anyL t T1.out A5 L.length c5 L (by have := LL.out; omega) hln5 (fun y hy => by rw [LN.out y hy]; exact NB.out) (CL.out.off2 no1) A4.out hu HC.out HL.out).mono ?_
  rw [spread_same LL.out LM.out]
  rintro e w5 (⟨s5, l5, hD, hP⟩ | ⟨s5, hD, hP⟩)
  · have R5 := Lib.hid (show CutR (s.at_ t) (partF s.M s.b.toNat t f) w P O s false w5 from .inl ⟨rfl, s5, l5, hD.trans (fun _ h => .inl h) B4.out, hP⟩)
    obtain ⟨O5, k1, k2, k3⟩ := hD
    have S8 : (fun w' : World => w'.cell? ⟨b1, 0, none⟩ = some (ptr R) ∧ w'.cell? ⟨b2, 0, none⟩ = some (.int .i64 t) ∧ w'.cell? ⟨b3, 1, none⟩ = some (.int .u8 (f.toNat : Int)) ∧ w'.cell? ⟨R, 9, none⟩ = some (ptr P.a) ∧ w'.rangeAt R 0 s.sh) w5 := (X4.out.did k3).five
    clear hP k1 k2 k3 no1 hln5
    refine hK _ _ (fun _ => S8) ?_
    refine early_done (by kernel_rfl) ?_
    clear S0 S7 S8
    go_wp2
    go_end0
    first | exact ⟨false, rfl, R5.out⟩ | exact .inl ⟨rfl, R5.out⟩
  · have R5 := Lib.hid (show CutR (s.at_ t) (partF s.M s.b.toNat t f) w P O s true w5 from .inr ⟨rfl, s5, hD.trans (fun _ h => .inl h) B4.out, hP⟩)
    clear hP hD no1 hln5 S0 S7
    unfold out
    go_wp2
    exact ⟨rfl, true, rfl, R5.out⟩
end
end Go.Proofs.YtapbphkhbhcdkaaGreat
