/-
  THE WALK OF Chunk.
-/
import Derived.Test.YtapbphkhbhcdkaaGreatRest
namespace Go.Proofs.YtapbphkhbhcdkaaGreat
open Go.RowKit Go.Maps
set_option linter.unusedVariables false
set_option maxRecDepth 100000

section
variable {w w' : World} {P : Pl} {O : Nat → Prop} {s : AS}

theorem others_aged {s1 : AS} {c : Int} {m : Nat} {i : Int} (h : Rel (fun _ => Aged) c s s1) (j : Nat) (hj : j < s.M) : others s1 m i j = others s m i j := by
  unfold others
  rw [(h.disk j hj).read]
theorem mend_aged {s1 : AS} {c : Int} {m : Nat} {i : Int} (h : Rel (fun _ => Aged) c s s1) : mend s1 m i = mend s m i := by
  unfold mend
  rw [h.same.M, h.same.b]
  exact xorB_congr (fun j hj => others_aged h j hj)
theorem at_in (h : s.Wf) {t : Int} (ht : 0 ≤ t ∧ t < s.N) : 0 ≤ s.at_ t ∧ s.at_ t < (s.S : Int) := by
  have h1 := h.total
  have h2 := h.some_
  unfold AS.at_ at *
  omega
theorem Rel.aged2 {s1 s2 : AS} {c d : Int} (h : Rel (fun _ => Aged) c s s1) (k : Rel (fun _ => Aged) d s1 s2) : Rel (fun _ => Aged) (c + d) s s2 :=
  h.trans k (fun _ _ _ _ _ a b => a.trans b) (fun _ _ _ _ a b => a.dies b)

/-- What reading a chunk that lies on member m comes to. -/
inductive ChunkAs (w w' : World) (s s' : AS) (m : Nat) (i : Int) : Value → Int → Prop
  | got (v : Value) (hr : Rel (fun _ => Aged) 12 s s') (hs : s.stale ≠ (m : Int)) (he : s'.stale = s.stale) (hv : NewRow w w' v ((s.d m).read i)) (hl : (s'.d m).dead = false) : ChunkAs w w' s s' m i v 0
  | rest (v : Value) (hr : Rel (fun _ => Aged) 12 s s') (hs : s'.stale = (m : Int)) (hv : NewRow w w' v (mend s m i)) : ChunkAs w w' s s' m i v 0
  | gone (hg : Gone 12 s s') : ChunkAs w w' s s' m i (.slice none 0 0) 3

set_option maxHeartbeats 1600000 in
theorem Chunk_any (t k : Int) (m : Nat) (ht : 0 ≤ t ∧ t < s.N) (hk : 0 ≤ k ∧ k < (s.M : Int) - 1) (hm : (t + 1 + k) % (s.M : Int) = (m : Int)) (h : Arr w P O s) (hu : s.u ≤ 700000) :
    Calls Tryz.prog 19 #[.pointer (some ⟨P.a, 0, none⟩), .int .i64 t, .int .i64 k] w fun e w' => ∃ v er s', e = .returned (.tuple #[v, .int .i64 er]) ∧ Arr w' P O s' ∧ But O w w' ∧ ChunkAs w w' s s' m (s.at_ t) v er := by
  have HA := Lib.hid h
  have hM := h.many
  have hN := Lib.hid h.wf.n
  have HT := Lib.hid ht
  have HK := Lib.hid hk
  have HM := Lib.hid hm
  have hml := Lib.hid (show m < s.M by have := Int.emod_lt_of_pos (t + 1 + k) (show 0 < (s.M : Int) by omega); omega)
  have t1 : decide (0 ≤ t ∧ t < s.N) = true := decide_eq_true ht
  have t2 : decide (0 ≤ k ∧ k < (s.M : Int) - 1) = true := decide_eq_true hk
  obtain ⟨c0, c1, c2, c3, c4, c5⟩ := h.shape
  clear h ht hk hm
  go_enter Tryz.func19, Tryz.ntmps19
  go_wp2_with fail
  refine (all_call HA.out.wf w).mono ?_
  rintro e w1 ⟨rfl, hb⟩
  have A1 := Lib.hid (HA.out.up hb)
  have B1 := Lib.hid (But.of_below (S := O) hb)
  clear hb c0 c1 c2 c3 c4 c5
  go_wp2_with fail
  refine (inside_any t s.N w1).mono ?_
  rintro e w1 ⟨rfl, rfl⟩
  rw [t1]
  go_wp2_with fail
  refine (chunks_any A1.out).mono ?_
  rintro e w1 ⟨rfl, rfl⟩
  go_wp2_with fail
  refine (inside_any k ((s.M : Int) - 1) w1).mono ?_
  rintro e w1 ⟨rfl, rfl⟩
  rw [t2]
  clear t1 t2
  go_wp2_with fail
  have S0 : (fun w' : World => Arr w' P O s) w1.drew := A1.out.drew
  refine wp_region_early (fun w' : World => Arr w' P O s) (fun _ => true) (by kernel_rfl) ?_
  change wpEarly _ _ _ _ _ _ 15 (Array.replicate 15 false) _ w1.drew
  refine early_take (i := 0) 27 (.pointer (some ⟨P.a, 0, none⟩)) rfl rfl (by kernel_rfl) (by kernel_rfl) (by kernel_rfl) (by kernel_rfl) rfl (fun _ _ _ h => h) (fun w' hw' => by go_simp) S0 ?_
  simp only [Act.put, List.setIfInBounds_toArray, List.set_cons_zero, List.set_cons_succ]
  refine early_take (i := 1) 28 (.pointer (some ⟨P.a, 0, none⟩)) rfl rfl (by kernel_rfl) (by kernel_rfl) (by kernel_rfl) (by kernel_rfl) rfl (fun _ _ _ h => h) (fun w' hw' => by go_simp) S0 ?_
  simp only [Act.put, List.setIfInBounds_toArray, List.set_cons_zero, List.set_cons_succ]
  refine early_take (i := 2) 29 (.pointer (some ⟨P.a, 0, none⟩)) rfl rfl (by kernel_rfl) (by kernel_rfl) (by kernel_rfl) (by kernel_rfl) rfl (fun _ _ _ h => h) (fun w' hw' => by go_simp) S0 ?_
  simp only [Act.put, List.setIfInBounds_toArray, List.set_cons_zero, List.set_cons_succ]
  refine early_take (i := 3) 30 (sv (s.M : Int) s.b s.g s.s s.n s.l) rfl rfl (by kernel_rfl) (by kernel_rfl) (by kernel_rfl) (by kernel_rfl) rfl (fun _ _ _ h => h) (fun w' hw' => exec_shape (x := .tmp 29) rfl rfl hw'.range) S0 ?_
  simp only [Act.put, List.setIfInBounds_toArray, List.set_cons_zero, List.set_cons_succ]
  refine early_take (i := 4) 31 (.int .i64 t) rfl rfl (by kernel_rfl) (by kernel_rfl) (by kernel_rfl) (by kernel_rfl) rfl (fun _ _ _ h => h) (fun w' hw' => by go_simp) S0 ?_
  simp only [Act.put, List.setIfInBounds_toArray, List.set_cons_zero, List.set_cons_succ]
  refine early_take (i := 5) 32 (.int .i64 k) rfl rfl (by kernel_rfl) (by kernel_rfl) (by kernel_rfl) (by kernel_rfl) rfl (fun _ _ _ h => h) (fun w' hw' => by go_simp) S0 ?_
  simp only [Act.put, List.setIfInBounds_toArray, List.set_cons_zero, List.set_cons_succ]
  refine early_take (i := 7) 34 (.pointer (some ⟨P.a, 0, none⟩)) rfl rfl (by kernel_rfl) (by kernel_rfl) (by kernel_rfl) (by kernel_rfl) rfl (fun _ _ _ h => h) (fun w' hw' => by go_simp) S0 ?_
  simp only [Act.put, List.setIfInBounds_toArray, List.set_cons_zero, List.set_cons_succ]
  refine early_take (i := 8) 35 (.pointer (some ⟨P.a, 0, none⟩)) rfl rfl (by kernel_rfl) (by kernel_rfl) (by kernel_rfl) (by kernel_rfl) rfl (fun _ _ _ h => h) (fun w' hw' => by go_simp) S0 ?_
  simp only [Act.put, List.setIfInBounds_toArray, List.set_cons_zero, List.set_cons_succ]
  refine early_take (i := 9) 36 (.pointer (some ⟨P.a, 0, none⟩)) rfl rfl (by kernel_rfl) (by kernel_rfl) (by kernel_rfl) (by kernel_rfl) rfl (fun _ _ _ h => h) (fun w' hw' => by go_simp) S0 ?_
  simp only [Act.put, List.setIfInBounds_toArray, List.set_cons_zero, List.set_cons_succ]
  refine early_take (i := 10) 37 (sv (s.M : Int) s.b s.g s.s s.n s.l) rfl rfl (by kernel_rfl) (by kernel_rfl) (by kernel_rfl) (by kernel_rfl) rfl (fun _ _ _ h => h) (fun w' hw' => exec_shape (x := .tmp 36) rfl rfl hw'.range) S0 ?_
  simp only [Act.put, List.setIfInBounds_toArray, List.set_cons_zero, List.set_cons_succ]
  refine early_take (i := 11) 38 (.int .i64 t) rfl rfl (by kernel_rfl) (by kernel_rfl) (by kernel_rfl) (by kernel_rfl) rfl (fun _ _ _ h => h) (fun w' hw' => by go_simp) S0 ?_
  simp only [Act.put, List.setIfInBounds_toArray, List.set_cons_zero, List.set_cons_succ]
  refine early_only (i := 6) (by kernel_rfl) rfl (fun K hK => ?_)
  simp only [opWp, List.getElem?_toArray, List.getElem?_cons_succ, List.getElem?_cons_zero]
  go_simp
  go_at_call 17
  refine (member_call HA.out.wf t (by have := HT.out; have := hN.out; omega) k (by have := HK.out; omega) _).mono ?_
  rintro e w2 ⟨rfl, hb2⟩
  rw [HM.out]
  have S2 : (fun w' : World => Arr w' P O s) w2 := S0.up hb2
  have B2 := Lib.hid (B1.out.trans (But.of_drewN 1 (But.of_below (S := fun _ => False) hb2)) (fun _ h _ => h.elim))
  clear hb2
  refine hK _ _ (fun _ => S2) ?_
  refine early_only (i := 12) (by kernel_rfl) rfl (fun K hK => ?_)
  simp only [opWp, List.getElem?_toArray, List.getElem?_cons_succ, List.getElem?_cons_zero]
  go_simp
  go_at_call 37
  refine (at_call HA.out.wf t (by have := HT.out; have := hN.out; omega) _).mono ?_
  rintro e w3 ⟨rfl, hb3⟩
  have S3 : (fun w' : World => Arr w' P O s) w3 := S2.up hb3
  have B3 := Lib.hid (B2.out.trans (But.of_below (S := fun _ => False) hb3) (fun _ h _ => h.elim))
  clear hb3
  refine hK _ _ (fun _ => S3) ?_
  refine early_take (i := 13) 8 (.int .i64 (m : Int)) rfl rfl (by kernel_rfl) (by kernel_rfl) (by kernel_rfl) (by kernel_rfl) rfl (fun _ _ _ h => h) (fun w' hw' => by go_simp) S3 ?_
  simp only [Act.put, List.setIfInBounds_toArray, List.set_cons_zero, List.set_cons_succ]
  refine early_take (i := 14) 9 (.int .i64 (s.at_ t)) rfl rfl (by kernel_rfl) (by kernel_rfl) (by kernel_rfl) (by kernel_rfl) rfl (fun _ _ _ h => h) (fun w' hw' => by go_simp) S3 ?_
  simp only [Act.put, List.setIfInBounds_toArray, List.set_cons_zero, List.set_cons_succ]
  refine early_done (by kernel_rfl) ?_
  have A3 := Lib.hid S3
  have IN := Lib.hid (at_in HA.out.wf HT.out)
  clear S0 S2 S3
  go_wp2_with fail
  refine (read_any m hml.out (s.at_ t) IN.out A3.out (by omega)).mono ?_
  rintro e w4 ⟨v, er, s1, rfl, k1, k2, k3⟩
  have A4 := Lib.hid k1
  have B4 := Lib.hid (B3.out.trans k2 (fun _ h _ => h))
  have R4 := Lib.hid k3
  have Z3 := Lib.hid B3.out.size
  clear k1 k2 k3
  have R5 := R4.out
  cases R5 with
  | got v hr hs hst hv hl =>
    have X := Lib.hid (show ChunkAs w w4 s s1 m (s.at_ t) v 0 from .got v (hr.mono (fun _ _ _ _ h => h) (by omega)) hs hst (own_base hv (fun j hj => Nat.le_trans Z3.out (hv.lt j hj).1)) hl)
    clear R4 hr hs hst hv hl
    go_wp2
    go_ret2
    exact ⟨_, _, s1, rfl, A4.out, B4.out, X.out⟩
  | lost hr hs =>
    have R6 := Lib.hid hr
    have S6 := Lib.hid hs
    clear R4 hr hs
    go_wp2_with fail
    refine (restore_any m (by rw [R6.out.same.M]; exact hml.out) (s.at_ t) (by rw [R6.out.same.S]; exact IN.out) S6.out R6.out.whole.2 A4.out (by have := R6.out.u.2; omega)).mono ?_
    rintro e w5 ⟨v, er, s2, rfl, k1, k2, k3⟩
    have A5 := Lib.hid k1
    have B5 := Lib.hid (B4.out.trans k2 (fun _ h _ => h))
    have Z4 := Lib.hid B4.out.size
    have X := Lib.hid (show ChunkAs w w5 s s2 m (s.at_ t) v er by
      cases k3 with
      | got _ hr hs hv => exact .rest _ ((R6.out.aged2 hr).mono (fun _ _ _ _ h => h) (by omega)) hs (by rw [mend_aged R6.out] at hv; exact own_base hv (fun j hj => Nat.le_trans Z4.out (hv.lt j hj).1))
      | gone hg => exact .gone ((R6.out.gone hg).mono (by omega)))
    clear k1 k2 k3
    go_wp2
    go_ret2
    exact ⟨_, _, s2, rfl, A5.out, B5.out, X.out⟩
  | gone hg =>
    have X := Lib.hid (show ChunkAs w w4 s s1 m (s.at_ t) (.slice none 0 0) 3 from .gone (hg.mono (by omega)))
    clear R4 hg
    go_wp2
    go_ret2
    exact ⟨_, _, s1, rfl, A4.out, B4.out, X.out⟩
end
end Go.Proofs.YtapbphkhbhcdkaaGreat
