/-
  TEXTS JOINED: Awake.
-/
import Derived.Test.YtplmdmchkaacoaaGreatJ18

/-
  THE WALK OF THE LAW'S Awake.
-/
namespace Go.Proofs.YtplmdmchkaacoaaGreat
open Go.RowKit Go.Maps
set_option linter.unusedVariables false
set_option maxRecDepth 100000

theorem sh_range {w : World} {X : Nat} {s : AS} (h : At w X #[.int .i64 (s.M : Int), .int .i64 s.b, .int .i64 s.g, .int .i64 s.s, .int .i64 s.n, .int .i64 s.l] 27) : w.rangeAt X 0 s.sh := by
  intro j v hv
  rw [Nat.zero_add]
  have hj : j < 6 := by have := (List.getElem?_eq_some_iff.1 hv).1; simpa [AS.sh] using this
  rw [h.cell]
  match j, hj, hv with
  | 0, _, hv => exact hv
  | 1, _, hv => exact hv
  | 2, _, hv => exact hv
  | 3, _, hv => exact hv
  | 4, _, hv => exact hv
  | 5, _, hv => exact hv
theorem init_facts {w w' : World} {B R q cap : Nat} {P : Pl} {O : Nat → Prop} {M : Nat} {b g s n l : Int} {S z : Nat} (h : Sys B w w' R q cap P O (AS.init M b g s n l S z)) (hz : (z : Int) = b) : ∃ s1 : AS, Sys B w w' R q cap P O s1 ∧ Calm s1 ∧ s1.u = 1 ∧ s1.M = M ∧ s1.b = b ∧ s1.g = g ∧ s1.s = s ∧ s1.n = n ∧ s1.l = l ∧ (∀ m, s1.d m = blank S z) :=
  ⟨_, h, init_calm M b g s n l S z, rfl, rfl, rfl, rfl, rfl, rfl, rfl, fun _ => rfl⟩

set_option maxHeartbeats 3200000 in
theorem awake_any (w : World) : Calls Tryz.prog 43 #[] w fun e w' => e = .returned (.bool true) ∧ Below w.heap.size w w' := by
  obtain ⟨M0, b, g, sg, n, l, hsm, hshape⟩ := shape_small 0 0 0 0 0 0 (by decide) (by decide) (by decide) (by decide) (by decide) (by decide)
  obtain ⟨M, rfl⟩ : ∃ M : Nat, M0 = (M : Int) := ⟨M0.toNat, by have := hsm.hm; omega⟩
  have SM := Lib.hid hsm
  clear hsm
  go_enter Tryz.func43, Tryz.ntmps43
  go_wp2_with fail
  refine (hshape w).mono ?_
  rintro e w1 ⟨rfl, hbl⟩
  have B1 := Lib.hid hbl
  clear hbl hshape
  go_wp2_with fail
  have A0 := Lib.hid (show At (w1.alloc (.cells #[.int .i64 (M : Int), .int .i64 b, .int .i64 g, .int .i64 sg, .int .i64 n, .int .i64 l] 27)) w1.heap.size #[.int .i64 (M : Int), .int .i64 b, .int .i64 g, .int .i64 sg, .int .i64 n, .int .i64 l] 27 from At.new _ 27 rfl)
  have B2 := Lib.hid (B1.out.alloc B1.out.size (.cells #[.int .i64 (M : Int), .int .i64 b, .int .i64 g, .int .i64 sg, .int .i64 n, .int .i64 l] 27))
  obtain ⟨X, hX⟩ : ∃ X, X = w1.heap.size := ⟨_, rfl⟩
  rw [← hX] at A0 ⊢
  have Z2 := Lib.hid (show w.heap.size ≤ X by rw [hX]; exact B1.out.size)
  generalize w1.alloc (.cells #[.int .i64 (M : Int), .int .i64 b, .int .i64 g, .int .i64 sg, .int .i64 n, .int .i64 l] 27) = w2 at *
  clear hX B1
  refine (New_any M b g sg n l SM.out w2).mono ?_
  rintro e w3 ⟨R, q, cap, P, O, S, z, rfl, hsys, hS, hz⟩
  obtain ⟨s, hy, hcalm, hu, rfl, rfl, rfl, rfl, rfl, rfl, hd⟩ := init_facts hsys hz
  have HY := Lib.hid hy
  have CM := Lib.hid hcalm
  have HU := Lib.hid hu
  have A3 := Lib.hid (A0.out.below hy.below A0.out.lt)
  have B3 := Lib.hid (B2.out.trans (hy.below.mono B2.out.size))
  have OX := Lib.hid (show ∀ k, O k → X ≠ k from fun k hk => by have := hy.own k hk; have := A0.out.lt; omega)
  clear hsys hS hz hy hcalm hu hd B2
  go_wp2_with fail
  refine (geomAwake_any w3).mono ?_
  rintro e w4 ⟨rfl, hbl⟩
  have Y4 := Lib.hid (HY.out.up hbl)
  have A4 := Lib.hid (A3.out.below hbl A3.out.lt)
  have B4 := Lib.hid (B3.out.trans (hbl.mono B3.out.size))
  have SM4 := Lib.hid Y4.out.rg.arr.wf.small
  have hMs := Y4.out.rg.arr.many
  clear hbl HY A3 B3
  go_wp2_with fail
  have nb1 : (s.b.toNat : Int) = s.b := by have := SM4.out.hb; omega
  have NB := Lib.hid nb1
  have b48 := Lib.hid SM4.out.hb
  clear nb1
  have S0 : (fun w' : World => w'.cell? ⟨R, 9, none⟩ = some (ptr P.a) ∧ w'.rangeAt X 0 s.sh) w4.drew := ⟨Y4.out.rg.rig.cell 9, sh_range A4.out⟩
  refine wp_region_early (fun w' : World => w'.cell? ⟨R, 9, none⟩ = some (ptr P.a) ∧ w'.rangeAt X 0 s.sh) (fun _ => true) (by kernel_rfl) ?_
  change wpEarly _ _ _ _ _ _ 8 (Array.replicate 8 false) _ w4.drew
  refine early_take (i := 0) 20 (ptr R) rfl rfl (by kernel_rfl) (by kernel_rfl) (by kernel_rfl) (by kernel_rfl) rfl (fun _ _ _ h => h) (fun w' hw' => by go_simp) S0 ?_
  simp only [Act.put, List.setIfInBounds_toArray, List.set_cons_zero, List.set_cons_succ]
  refine early_take (i := 1) 21 (ptr R) rfl rfl (by kernel_rfl) (by kernel_rfl) (by kernel_rfl) (by kernel_rfl) rfl (fun _ _ _ h => h) (fun w' hw' => by go_simp) S0 ?_
  simp only [Act.put, List.setIfInBounds_toArray, List.set_cons_zero, List.set_cons_succ]
  refine early_take (i := 2) 22 (.pointer (some ⟨R, 9, none⟩)) rfl rfl (by kernel_rfl) (by kernel_rfl) (by kernel_rfl) (by kernel_rfl) rfl (fun _ _ _ h => h) (fun w' hw' => by go_simp) S0 ?_
  simp only [Act.put, List.setIfInBounds_toArray, List.set_cons_zero, List.set_cons_succ]
  refine early_take (i := 3) 23 (ptr P.a) rfl rfl (by kernel_rfl) (by kernel_rfl) (by kernel_rfl) (by kernel_rfl) rfl (fun _ _ _ h => h) (fun w' hw' => by obtain ⟨k1, k2⟩ := hw'; go_simp) S0 ?_
  simp only [Act.put, List.setIfInBounds_toArray, List.set_cons_zero, List.set_cons_succ]
  refine early_take (i := 4) 24 (sv (s.M : Int) s.b s.g s.s s.n s.l) rfl rfl (by kernel_rfl) (by kernel_rfl) (by kernel_rfl) (by kernel_rfl) rfl (fun _ _ _ h => h) (fun w' hw' => exec_shape (s := s) (x := .tmp 1) rfl rfl hw'.2) S0 ?_
  simp only [Act.put, List.setIfInBounds_toArray, List.set_cons_zero, List.set_cons_succ]
  refine early_only (i := 5) (by kernel_rfl) rfl (fun K hK => ?_)
  simp only [opWp, List.getElem?_toArray, List.getElem?_cons_succ, List.getElem?_cons_zero]
  go_simp
  go_at_call 93
  refine (Chunks_any s.M s.b s.g s.s s.n s.l s.b.toNat NB.out.symm (by have := b48.out; omega) (by omega) 1#8 _ rfl w4.drew).mono ?_
  rintro e w5 ⟨v, L, rfl, hcl, hll, hlm, hln, hbl⟩
  have Y5 := Lib.hid ((Y4.out.drewN 1).up hbl)
  have A5 := Lib.hid (show At w5 X _ 27 from At.below (w := w4.drew) A4.out hbl (At.lt A4.out))
  have B5 := Lib.hid ((show Below w.heap.size w w4.drew from ⟨B4.out.os, B4.out.tape, B4.out.output, B4.out.size, B4.out.block⟩).trans (hbl.mono B4.out.size))
  have CL := Lib.hid hcl
  have LL := Lib.hid hll
  have LM := Lib.hid hlm
  have LN := Lib.hid hln
  have S1 : (fun w' : World => w'.cell? ⟨R, 9, none⟩ = some (ptr P.a) ∧ w'.rangeAt X 0 s.sh) w5 := ⟨Y5.out.rg.rig.cell 9, sh_range A5.out⟩
  clear hcl hll hlm hln hbl
  refine hK _ _ (fun _ => S1) ?_
  refine early_only (i := 6) (by kernel_rfl) rfl (fun K hK => ?_)
  simp only [opWp, List.getElem?_toArray, List.getElem?_cons_succ, List.getElem?_cons_zero]
  obtain ⟨A6, c6, rfl, hln5⟩ := CL.out.ln (by have := LL.out; omega)
  have no1 : ∀ k, w4.heap.size ≤ k → ¬ O k := fun k hk => (Y4.out.new k hk).1
  have HN := Lib.hid Y5.out.rg.arr.wf.n
  go_simp
  go_at_call 85
  refine (Put_any 0 (by have := HN.out; omega) A6 L.length c6 L (by have := LL.out; omega) hln5 (fun y hy => by rw [LN.out y hy]; exact NB.out) (CL.out.off2 no1) Y5.out.rg.arr (by have := HU.out; omega)).mono ?_
  rintro e w6 ⟨er, s6, rfl, hD, hP⟩
  rw [spread_same LL.out LM.out] at hP
  obtain ⟨hr6, ht6, rfl⟩ : Rel (fun j d d' => ∃ u1 u2, d' = (d.put u1 (s.at_ 0) (partF s.M s.b.toNat 0 1#8 j)).fl u2) 20 s s6 ∧ (∀ j : Nat, j < s.M → (s6.d j).dead = true → s6.stale = (j : Int)) ∧ er = 0 := by
    cases hP with
    | done hr ht => exact ⟨hr, ht, rfl⟩
    | gone hg => exact absurd (CM.out 0) (hg.unsound 0)
  have I6 := Lib.hid (inv_put (inv_none s) hr6 ht6)
  have CM6 := Lib.hid (CM.out.rel hr6)
  have sm6 := hr6.same
  have SM6 := Lib.hid sm6
  have U6 := Lib.hid (show s6.u ≤ 100 by have := hr6.u.2; have := HU.out; omega)
  obtain ⟨O6, k1, k2, k3⟩ := Y5.out.did sm6 hD
  have Y6 := Lib.hid k1
  have O6H := Lib.hid k2
  have A7 := Lib.hid (A5.out.but k3 (fun e => OX.out _ e rfl))
  have B6 := Lib.hid (B5.out.trans (k3.below (fun k hk => by have := Y5.out.own k hk; have := A0.out.lt; have := Z2.out; omega) B5.out.size))
  have S2 : (fun w' : World => w'.cell? ⟨R, 9, none⟩ = some (ptr P.a) ∧ w'.rangeAt X 0 s.sh) w6 := ⟨Y6.out.rg.rig.cell 9, sh_range A7.out⟩
  clear hD hP k1 k2 k3 hr6 ht6 sm6 no1 hln5
  refine hK _ _ (fun _ => S2) ?_
  refine early_take (i := 7) 4 (.int .i64 0) rfl rfl (by kernel_rfl) (by kernel_rfl) (by kernel_rfl) (by kernel_rfl) rfl (fun _ _ _ h => h) (fun w' hw' => by go_simp) S2 ?_
  simp only [Act.put, List.setIfInBounds_toArray, List.set_cons_zero, List.set_cons_succ]
  refine early_done (by kernel_rfl) ?_
  clear S0 S1 S2
  go_wp2_with fail
  have A8 := Lib.hid (show At w6 X #[.int .i64 (s6.M : Int), .int .i64 s6.b, .int .i64 s6.g, .int .i64 s6.s, .int .i64 s6.n, .int .i64 s6.l] 27 by have h1 := A7.out; have h2 := SM6.out; unfold Same at h2; rw [h2]; exact h1)
  have OX6 := Lib.hid (show ∀ k, O6 k → X ≠ k from fun k hk e => by
    rcases O6H.out k hk with h | h
    · exact OX.out k h e
    · have := A5.out.lt; omega)
  have Z6 := Lib.hid (show w.heap.size ≤ w2.heap.size from by have := Z2.out; have := A0.out.lt; omega)
  have XL := Lib.hid (show X < w2.heap.size from A0.out.lt)
  have hMs6 := Y6.out.rg.arr.many
  obtain ⟨m, hm⟩ : ∃ m : Nat, (0 + 1 + 1 : Int) % (s6.M : Int) = (m : Int) := ⟨((0 + 1 + 1 : Int) % (s6.M : Int)).toNat, by have := Int.emod_nonneg (0 + 1 + 1 : Int) (show (s6.M : Int) ≠ 0 by omega); omega⟩
  have HM := Lib.hid hm
  have ML := Lib.hid (show m < s6.M by have := Int.emod_lt_of_pos (0 + 1 + 1 : Int) (show 0 < (s6.M : Int) by omega); omega)
  clear hm CM SM HU OX A0 Z2 B4 A4 B5 A5 Y5 Y4 A7 LL LM LN CL SM4 NB b48 O6H hMs HN SM6
  have S0 : (fun w' : World => w'.cell? ⟨R, 7, none⟩ = some (.slice (some ⟨q, 0, none⟩) s6.M cap) ∧ w'.rangeAt X 0 s6.sh ∧ ∀ i, i < s6.M → w'.cell? ⟨q, i, none⟩ = some (ptr (P.g i))) w6.drew := ⟨Y6.out.rg.rig.cell 7, sh_range A8.out, Y6.out.rg.row.2⟩
  refine wp_region_early (fun w' : World => w'.cell? ⟨R, 7, none⟩ = some (.slice (some ⟨q, 0, none⟩) s6.M cap) ∧ w'.rangeAt X 0 s6.sh ∧ ∀ i, i < s6.M → w'.cell? ⟨q, i, none⟩ = some (ptr (P.g i))) (fun _ => true) (by kernel_rfl) ?_
  change wpEarly _ _ _ _ _ _ 9 (Array.replicate 9 false) _ w6.drew
  refine early_take (i := 0) 27 (ptr R) rfl rfl (by kernel_rfl) (by kernel_rfl) (by kernel_rfl) (by kernel_rfl) rfl (fun _ _ _ h => h) (fun w' hw' => by go_simp) S0 ?_
  simp only [Act.put, List.setIfInBounds_toArray, List.set_cons_zero, List.set_cons_succ]
  refine early_take (i := 1) 28 (ptr R) rfl rfl (by kernel_rfl) (by kernel_rfl) (by kernel_rfl) (by kernel_rfl) rfl (fun _ _ _ h => h) (fun w' hw' => by go_simp) S0 ?_
  simp only [Act.put, List.setIfInBounds_toArray, List.set_cons_zero, List.set_cons_succ]
  refine early_take (i := 2) 29 (.pointer (some ⟨R, 7, none⟩)) rfl rfl (by kernel_rfl) (by kernel_rfl) (by kernel_rfl) (by kernel_rfl) rfl (fun _ _ _ h => h) (fun w' hw' => by go_simp) S0 ?_
  simp only [Act.put, List.setIfInBounds_toArray, List.set_cons_zero, List.set_cons_succ]
  refine early_take (i := 3) 30 (.slice (some ⟨q, 0, none⟩) s6.M cap) rfl rfl (by kernel_rfl) (by kernel_rfl) (by kernel_rfl) (by kernel_rfl) rfl (fun _ _ _ h => h) (fun w' hw' => by obtain ⟨k1, k2, k3⟩ := hw'; go_simp) S0 ?_
  simp only [Act.put, List.setIfInBounds_toArray, List.set_cons_zero, List.set_cons_succ]
  refine early_take (i := 4) 31 (sv (s6.M : Int) s6.b s6.g s6.s s6.n s6.l) rfl rfl (by kernel_rfl) (by kernel_rfl) (by kernel_rfl) (by kernel_rfl) rfl (fun _ _ _ h => h) (fun w' hw' => exec_shape (s := s6) (x := .tmp 1) rfl rfl hw'.2.1) S0 ?_
  simp only [Act.put, List.setIfInBounds_toArray, List.set_cons_zero, List.set_cons_succ]
  refine early_only (i := 5) (by kernel_rfl) rfl (fun K hK => ?_)
  simp only [opWp, List.getElem?_toArray, List.getElem?_cons_succ, List.getElem?_cons_zero]
  go_simp
  go_at_call 67
  refine (member_call Y6.out.rg.arr.wf 0 (by omega) 1 (by omega) _).mono ?_
  rintro e w7 ⟨rfl, hbl⟩
  have Y7 := Lib.hid ((Y6.out.drewN 1).up hbl)
  have A9 := Lib.hid (show At w7 X _ 27 from At.below (w := w6.drew) A8.out hbl (At.lt A8.out))
  have B7 := Lib.hid ((show Below w.heap.size w w6.drew from ⟨B6.out.os, B6.out.tape, B6.out.output, B6.out.size, B6.out.block⟩).trans (hbl.mono B6.out.size))
  have S1 : (fun w' : World => w'.cell? ⟨R, 7, none⟩ = some (.slice (some ⟨q, 0, none⟩) s6.M cap) ∧ w'.rangeAt X 0 s6.sh ∧ ∀ i, i < s6.M → w'.cell? ⟨q, i, none⟩ = some (ptr (P.g i))) w7 := ⟨Y7.out.rg.rig.cell 7, sh_range A9.out, Y7.out.rg.row.2⟩
  clear hbl
  refine hK _ _ (fun _ => S1) ?_
  refine early_take (i := 6) 33 (.pointer (some ⟨q, m, none⟩)) rfl rfl (by kernel_rfl) (by kernel_rfl) (by kernel_rfl) (by kernel_rfl) rfl (fun _ _ _ h => h) (fun w' hw' => by rw [HM.out]; have m1 := ML.out; have m2 : (m : Int) < (s6.M : Int) := (by omega); go_simp) S1 ?_
  simp only [Act.put, List.setIfInBounds_toArray, List.set_cons_zero, List.set_cons_succ]
  refine early_take (i := 7) 34 (ptr (P.g m)) rfl rfl (by kernel_rfl) (by kernel_rfl) (by kernel_rfl) (by kernel_rfl) rfl (fun _ _ _ h => h) (fun w' hw' => by obtain ⟨k1, k2, k3⟩ := hw'; have k4 := k3 m ML.out; go_simp) S1 ?_
  simp only [Act.put, List.setIfInBounds_toArray, List.set_cons_zero, List.set_cons_succ]
  refine early_only (i := 8) (by kernel_rfl) rfl (fun K hK => ?_)
  simp only [opWp, List.getElem?_toArray, List.getElem?_cons_succ, List.getElem?_cons_zero]
  go_simp
  go_at_call 94
  refine (fail_sys ML.out Y7.out).mono ?_
  rintro e w8 ⟨rfl, k1, k2, k3⟩
  have I8 := Lib.hid (inv_hurt (m := m) (d := { s6.d m with dead := true }) I6.out rfl)
  have D8 := Lib.hid ((CM6.out m).hurt { s6.d m with dead := true })
  have dead8 := Lib.hid (show ((s6.hurt m { s6.d m with dead := true }).d m).dead = true by show (if m = m then ({ s6.d m with dead := true } : DS) else s6.d m).dead = true; rw [if_pos rfl])
  have A10 := Lib.hid (show At w8 X #[.int .i64 ((s6.hurt m { s6.d m with dead := true }).M : Int), .int .i64 (s6.hurt m { s6.d m with dead := true }).b, .int .i64 (s6.hurt m { s6.d m with dead := true }).g, .int .i64 (s6.hurt m { s6.d m with dead := true }).s, .int .i64 (s6.hurt m { s6.d m with dead := true }).n, .int .i64 (s6.hurt m { s6.d m with dead := true }).l] 27 from A9.out.but k3 (fun e => OX6.out _ e rfl))
  have B8 := Lib.hid (B7.out.trans (k3.below (fun k hk => by have := Y7.out.own k hk; have := Z6.out; omega) B7.out.size))
  have U8 := Lib.hid (show (s6.hurt m { s6.d m with dead := true }).u ≤ 100 from U6.out)
  have HM8 := Lib.hid (show (0 + 1 + 1 : Int) % ((s6.hurt m { s6.d m with dead := true }).M : Int) = (m : Int) from HM.out)
  have ML8 := Lib.hid (show m < (s6.hurt m { s6.d m with dead := true }).M from ML.out)
  have S2 : (fun w' : World => w'.cell? ⟨R, 7, none⟩ = some (.slice (some ⟨q, 0, none⟩) s6.M cap) ∧ w'.rangeAt X 0 s6.sh ∧ ∀ i, i < s6.M → w'.cell? ⟨q, i, none⟩ = some (ptr (P.g i))) w8 := ⟨k2.rg.rig.cell 7, sh_range A10.out, k2.rg.row.2⟩
  have Y8 := Lib.hid k2
  clear k1 k2 k3
  refine hK _ _ (fun _ => S2) ?_
  clear S0 S1
  refine early_done (by kernel_rfl) ?_
  clear S2 Y6 Y7 A8 A9 B6 B7 CM6 I6 U6 HM ML hMs6
  generalize s6.hurt m { s6.d m with dead := true } = s8 at *
  have r9 : w8.cell? ⟨R, 9, none⟩ = some (ptr P.a) := Y8.out.rg.rig.cell 9
  have HN := Lib.hid Y8.out.rg.arr.wf.n
  have hMs := Y8.out.rg.arr.many
  go_wp2_with fail
  refine (Chunk_any 0 1 m (by have := HN.out; omega) (by omega) HM8.out Y8.out.rg.arr (by have := U8.out; omega)).mono ?_
  rintro e w9 ⟨v, er, s9, rfl, k1, k2, k3⟩
  have er0 : er = 0 := by
    cases k3 with
    | got _ _ _ _ _ _ => rfl
    | rest _ _ _ _ => rfl
    | gone hg => exact absurd D8.out (hg.unsound m)
  subst er0
  obtain ⟨hr9, hv9⟩ := inv_chunk (f := 1#8) (k := 1) Y8.out.rg.arr.wf I8.out (by have := HN.out; omega) (by omega) HM8.out rfl k3
  have st9 : s9.stale = (m : Int) := by
    generalize hz : (0 : Int) = z at k3
    cases k3 with
    | got _ hr hs he hv hl => have := (hr.disk m ML8.out).dies dead8.out; rw [hl] at this; cases this
    | rest _ hr hs hv => exact hs
    | gone hg => cases hz
  have Y9 := Lib.hid (Y8.out.keep hr9.same k1 k2)
  have ST9 := Lib.hid st9
  have NR9 := Lib.hid hv9
  have SM9 := Lib.hid hr9.same
  have A11 := Lib.hid (A10.out.but k2 (fun e => OX6.out _ e rfl))
  have A12 := Lib.hid (show At w9 X #[.int .i64 (s9.M : Int), .int .i64 s9.b, .int .i64 s9.g, .int .i64 s9.s, .int .i64 s9.n, .int .i64 s9.l] 27 by have h1 := A11.out; have h2 := SM9.out; unfold Same at h2; rw [h2]; exact h1)
  have B9 := Lib.hid (B8.out.trans (k2.below (fun k hk => by have := Y8.out.own k hk; have := Z6.out; omega) B8.out.size))
  have HM9 := Lib.hid (show (0 + 1 + 1 : Int) % (s9.M : Int) = (m : Int) by rw [SM9.out.M]; exact HM8.out)
  have EB9 := Lib.hid (show s8.b.toNat = s9.b.toNat by rw [SM9.out.b])
  clear k1 k2 k3 hr9 hv9 st9 r9 A11
  rw [EB9.out] at NR9
  obtain ⟨A13, c13, rfl, h13, _, lt13⟩ := own_form NR9.out
  rw [chunk_len] at h13
  have H13 := Lib.hid h13
  have LT13 := Lib.hid lt13
  rw [chunk_len]
  clear h13 lt13
  clear Y8 A10 B8 I8 D8 dead8 U8 HM8 ML8 HN hMs
  go_wp2_with fail
  have nb1 : (s9.b.toNat : Int) = s9.b := by have := Y9.out.rg.arr.wf.small.hb; omega
  have NB := Lib.hid nb1
  have b48 := Lib.hid Y9.out.rg.arr.wf.small.hb
  have BL := Lib.hid (show s9.b.toNat ≤ 48 by have := b48.out; omega)
  clear nb1
  have S0 : (fun w' : World => w'.cell? ⟨R, 9, none⟩ = some (ptr P.a) ∧ w'.rangeAt X 0 s9.sh) w9.drew := ⟨Y9.out.rg.rig.cell 9, sh_range A12.out⟩
  refine wp_region_early (fun w' : World => w'.cell? ⟨R, 9, none⟩ = some (ptr P.a) ∧ w'.rangeAt X 0 s9.sh) (fun _ => true) (by kernel_rfl) ?_
  change wpEarly _ _ _ _ _ _ 23 (Array.replicate 23 false) _ w9.drew
  refine early_take (i := 0) 44 (.int .i64 0) rfl rfl (by kernel_rfl) (by kernel_rfl) (by kernel_rfl) (by kernel_rfl) rfl (fun _ _ _ h => h) (fun w' hw' => by go_simp) S0 ?_
  simp only [Act.put, List.setIfInBounds_toArray, List.set_cons_zero, List.set_cons_succ]
  refine early_take (i := 1) 45 (.bool true) rfl rfl (by kernel_rfl) (by kernel_rfl) (by kernel_rfl) (by kernel_rfl) rfl (fun _ _ _ h => h) (fun w' hw' => by go_simp) S0 ?_
  simp only [Act.put, List.setIfInBounds_toArray, List.set_cons_zero, List.set_cons_succ]
  refine early_take (i := 2) 46 (.bool true) rfl rfl (by kernel_rfl) (by kernel_rfl) (by kernel_rfl) (by kernel_rfl) rfl (fun _ _ _ h => h) (fun w' hw' => by go_simp) S0 ?_
  simp only [Act.put, List.setIfInBounds_toArray, List.set_cons_zero, List.set_cons_succ]
  refine early_take (i := 3) 47 (.int .i64 0) rfl rfl (by kernel_rfl) (by kernel_rfl) (by kernel_rfl) (by kernel_rfl) rfl (fun _ _ _ h => h) (fun w' hw' => by go_simp) S0 ?_
  simp only [Act.put, List.setIfInBounds_toArray, List.set_cons_zero, List.set_cons_succ]
  refine early_take (i := 4) 48 (.bool true) rfl rfl (by kernel_rfl) (by kernel_rfl) (by kernel_rfl) (by kernel_rfl) rfl (fun _ _ _ h => h) (fun w' hw' => by go_simp) S0 ?_
  simp only [Act.put, List.setIfInBounds_toArray, List.set_cons_zero, List.set_cons_succ]
  refine early_take (i := 5) 49 (.bool true) rfl rfl (by kernel_rfl) (by kernel_rfl) (by kernel_rfl) (by kernel_rfl) rfl (fun _ _ _ h => h) (fun w' hw' => by go_simp) S0 ?_
  simp only [Act.put, List.setIfInBounds_toArray, List.set_cons_zero, List.set_cons_succ]
  refine early_take (i := 6) 50 (.bool true) rfl rfl (by kernel_rfl) (by kernel_rfl) (by kernel_rfl) (by kernel_rfl) rfl (fun _ _ _ h => h) (fun w' hw' => by go_simp) S0 ?_
  simp only [Act.put, List.setIfInBounds_toArray, List.set_cons_zero, List.set_cons_succ]
  refine early_take (i := 7) 51 (.slice A13 s9.b.toNat c13) rfl rfl (by kernel_rfl) (by kernel_rfl) (by kernel_rfl) (by kernel_rfl) rfl (fun _ _ _ h => h) (fun w' hw' => by go_simp) S0 ?_
  simp only [Act.put, List.setIfInBounds_toArray, List.set_cons_zero, List.set_cons_succ]
  refine early_take (i := 8) 52 (sv (s9.M : Int) s9.b s9.g s9.s s9.n s9.l) rfl rfl (by kernel_rfl) (by kernel_rfl) (by kernel_rfl) (by kernel_rfl) rfl (fun _ _ _ h => h) (fun w' hw' => exec_shape (s := s9) (x := .tmp 1) rfl rfl hw'.2) S0 ?_
  simp only [Act.put, List.setIfInBounds_toArray, List.set_cons_zero, List.set_cons_succ]
  refine early_only (i := 9) (by kernel_rfl) rfl (fun K hK => ?_)
  simp only [opWp, List.getElem?_toArray, List.getElem?_cons_succ, List.getElem?_cons_zero]
  go_simp
  go_at_call 36
  refine (Block_any s9.M s9.b s9.g s9.s s9.n s9.l s9.b.toNat NB.out.symm (by have := b48.out; omega) 38#8 _ rfl w9.drew).mono ?_
  rintro e w10 ⟨Bk, rfl, hown, hbl⟩
  have Y10 := Lib.hid ((Y9.out.drewN 1).up hbl)
  have A14 := Lib.hid (show At w10 X _ 27 from At.below (w := w9.drew) A12.out hbl (At.lt A12.out))
  have B10 := Lib.hid ((show Below w.heap.size w w9.drew from ⟨B9.out.os, B9.out.tape, B9.out.output, B9.out.size, B9.out.block⟩).trans (hbl.mono B9.out.size))
  have H14 := Lib.hid (own_slice hown).1
  have H15 := Lib.hid (show Has w10 A13 s9.b.toNat (chunkB s9.b.toNat 1#8 1) from Has.below (w := w9.drew) H13.out hbl)
  have S1 : (fun w' : World => w'.cell? ⟨R, 9, none⟩ = some (ptr P.a) ∧ w'.rangeAt X 0 s9.sh) w10 := ⟨Y10.out.rg.rig.cell 9, sh_range A14.out⟩
  clear hown hbl
  refine hK _ _ (fun _ => S1) ?_
  refine early_only (i := 10) (by kernel_rfl) rfl (fun K hK => ?_)
  simp only [opWp, List.getElem?_toArray, List.getElem?_cons_succ, List.getElem?_cons_zero]
  go_simp
  go_at_call 22
  refine (equal_any A13 (some ⟨Bk, 0, none⟩) s9.b.toNat s9.b.toNat c13 s9.b.toNat _ _ w10 (by have := BL.out; omega) (by have := BL.out; omega) H15.out H14.out).mono ?_
  rintro e w11 ⟨rfl, m11, rfl⟩
  have Y11 := Lib.hid (Y10.out.drewN m11)
  have S2 : (fun w' : World => w'.cell? ⟨R, 9, none⟩ = some (ptr P.a) ∧ w'.rangeAt X 0 s9.sh) (w10.drewN m11) := ⟨Y11.out.rg.rig.cell 9, sh_range A14.out⟩
  refine hK _ _ (fun _ => S2) ?_
  have ef : decide (chunkB s9.b.toNat 1#8 1 = List.replicate s9.b.toNat 38#8) = true := decide_eq_true (by unfold chunkB; rw [show fillAt 1#8 1 = 38#8 from rfl])
  rw [ef]
  refine early_take (i := 11) 55 (.bool true) rfl rfl (by kernel_rfl) (by kernel_rfl) (by kernel_rfl) (by kernel_rfl) rfl (fun _ _ _ h => h) (fun w' hw' => by go_simp) S2 ?_
  simp only [Act.put, List.setIfInBounds_toArray, List.set_cons_zero, List.set_cons_succ]
  refine early_take (i := 12) 56 (.bool true) rfl rfl (by kernel_rfl) (by kernel_rfl) (by kernel_rfl) (by kernel_rfl) rfl (fun _ _ _ h => h) (fun w' hw' => by go_simp) S2 ?_
  simp only [Act.put, List.setIfInBounds_toArray, List.set_cons_zero, List.set_cons_succ]
  refine early_take (i := 13) 57 (ptr R) rfl rfl (by kernel_rfl) (by kernel_rfl) (by kernel_rfl) (by kernel_rfl) rfl (fun _ _ _ h => h) (fun w' hw' => by go_simp) S2 ?_
  simp only [Act.put, List.setIfInBounds_toArray, List.set_cons_zero, List.set_cons_succ]
  refine early_take (i := 14) 58 (ptr R) rfl rfl (by kernel_rfl) (by kernel_rfl) (by kernel_rfl) (by kernel_rfl) rfl (fun _ _ _ h => h) (fun w' hw' => by go_simp) S2 ?_
  simp only [Act.put, List.setIfInBounds_toArray, List.set_cons_zero, List.set_cons_succ]
  refine early_take (i := 15) 59 (.pointer (some ⟨R, 9, none⟩)) rfl rfl (by kernel_rfl) (by kernel_rfl) (by kernel_rfl) (by kernel_rfl) rfl (fun _ _ _ h => h) (fun w' hw' => by go_simp) S2 ?_
  simp only [Act.put, List.setIfInBounds_toArray, List.set_cons_zero, List.set_cons_succ]
  refine early_take (i := 16) 60 (ptr P.a) rfl rfl (by kernel_rfl) (by kernel_rfl) (by kernel_rfl) (by kernel_rfl) rfl (fun _ _ _ h => h) (fun w' hw' => by obtain ⟨k1, k2⟩ := hw'; go_simp) S2 ?_
  simp only [Act.put, List.setIfInBounds_toArray, List.set_cons_zero, List.set_cons_succ]
  refine early_take (i := 18) 62 (sv (s9.M : Int) s9.b s9.g s9.s s9.n s9.l) rfl rfl (by kernel_rfl) (by kernel_rfl) (by kernel_rfl) (by kernel_rfl) rfl (fun _ _ _ h => h) (fun w' hw' => exec_shape (s := s9) (x := .tmp 1) rfl rfl hw'.2) S2 ?_
  simp only [Act.put, List.setIfInBounds_toArray, List.set_cons_zero, List.set_cons_succ]
  refine early_only (i := 17) (by kernel_rfl) rfl (fun K hK => ?_)
  simp only [opWp, List.getElem?_toArray, List.getElem?_cons_succ, List.getElem?_cons_zero]
  go_simp
  go_at_call 95
  refine (stale_any Y11.out.rg.arr).mono ?_
  rintro e w12 ⟨rfl, hbl⟩
  have Y12 := Lib.hid (Y11.out.up hbl)
  have A15 := Lib.hid (show At w12 X _ 27 from At.below (w := w10.drewN m11) A14.out hbl (At.lt A14.out))
  have B12 := Lib.hid ((show Below w.heap.size w (w10.drewN m11) from ⟨B10.out.os, B10.out.tape, B10.out.output, B10.out.size, B10.out.block⟩).trans (hbl.mono B10.out.size))
  have S3 : (fun w' : World => w'.cell? ⟨R, 9, none⟩ = some (ptr P.a) ∧ w'.rangeAt X 0 s9.sh) w12 := ⟨Y12.out.rg.rig.cell 9, sh_range A15.out⟩
  clear hbl
  refine hK _ _ (fun _ => S3) ?_
  refine early_only (i := 19) (by kernel_rfl) rfl (fun K hK => ?_)
  simp only [opWp, List.getElem?_toArray, List.getElem?_cons_succ, List.getElem?_cons_zero]
  go_simp
  go_at_call 67
  refine (member_call Y12.out.rg.arr.wf 0 (by omega) 1 (by omega) _).mono ?_
  rintro e w13 ⟨rfl, hbl⟩
  have Y13 := Lib.hid (Y12.out.up hbl)
  have A16 := Lib.hid (show At w13 X _ 27 from At.below (w := w12) A15.out hbl (At.lt A15.out))
  have B13 := Lib.hid (B12.out.trans (hbl.mono B12.out.size))
  have S4 : (fun w' : World => w'.cell? ⟨R, 9, none⟩ = some (ptr P.a) ∧ w'.rangeAt X 0 s9.sh) w13 := ⟨Y13.out.rg.rig.cell 9, sh_range A16.out⟩
  clear hbl
  refine hK _ _ (fun _ => S4) ?_
  clear S0 S1 S2 S3
  rw [HM9.out, ST9.out]
  refine early_take (i := 20) 64 (.bool true) rfl rfl (by kernel_rfl) (by kernel_rfl) (by kernel_rfl) (by kernel_rfl) rfl (fun _ _ _ h => h) (fun w' hw' => by go_simp) S4 ?_
  simp only [Act.put, List.setIfInBounds_toArray, List.set_cons_zero, List.set_cons_succ]
  refine early_take (i := 21) 65 (.bool true) rfl rfl (by kernel_rfl) (by kernel_rfl) (by kernel_rfl) (by kernel_rfl) rfl (fun _ _ _ h => h) (fun w' hw' => by go_simp) S4 ?_
  simp only [Act.put, List.setIfInBounds_toArray, List.set_cons_zero, List.set_cons_succ]
  refine early_take (i := 22) 0 (.bool true) rfl rfl (by kernel_rfl) (by kernel_rfl) (by kernel_rfl) (by kernel_rfl) rfl (fun _ _ _ h => h) (fun w' hw' => by go_simp) S4 ?_
  simp only [Act.put, List.setIfInBounds_toArray, List.set_cons_zero]
  refine early_done (by kernel_rfl) ?_
  clear S4
  go_wp2
  go_ret
  exact ⟨rfl, B13.out⟩
end Go.Proofs.YtplmdmchkaacoaaGreat
