/-
  THE WALK OF ArrayMends.
-/
import Derived.Test.YtapbphkhbhcdkaaMendZ
namespace Go.Proofs.Ytapbphkhbhcdkaa
open Go.RowKit Go.Maps
set_option linter.unusedVariables false
set_option maxRecDepth 100000

theorem put_same {s s' : AS} {H : Hv} {c : Bytes} {er : Int} (h : Kept s H) (wf : s.Wf) (hm : EachAs (fun _ d u => d.put u 1 c) s s' er) : er = 0 ∧ Kept s' H ∧ (∀ j, j < s'.M → (s'.d j).read 1 = c) ∧ Same s s' ∧ s'.u ≤ s.u + 10 := by
  cases hm with
  | gone hg => exact absurd (h.1 0) (hg.unsound 0)
  | done hr ht =>
    have hc := h.1.rel hr
    have rd : ∀ j, j < s.M → ∀ x, (s'.d j).read x = with1 (s.d j).read 1 c x := fun j hj => by
      obtain ⟨u, e⟩ := hr.disk j hj
      have := ((put_turns (s.d j) u 1 c).live (h.1.live hj)).2
      rw [e]
      exact this
    refine ⟨rfl, ⟨hc, ?_⟩, ?_, hr.same, hr.u.2⟩
    · intro j hj hne t f h0 h1 hf
      rw [hr.same.M] at hj
      rw [hr.same.N] at h1
      rw [hr.same.M, hr.same.b, hr.same.at_, rd j hj]
      unfold with1
      rw [if_neg (fun e => (at_one wf h0).1 e.symm)]
      exact h.2 j hj (by rw [h.1.stale]; omega) t f h0 h1 hf
    · intro j hj
      rw [hr.same.M] at hj
      rw [rd j hj]
      unfold with1
      rw [if_pos rfl]
set_option maxHeartbeats 6400000 in
theorem mends_walk (x0 x1 x2 x3 x4 x5 : Int) (A : Option Addr) (n c : Nat) (xs : List (BitVec 8 × BitVec 8)) {w : World} (hst : St w A n xs) (A' : Option Addr) (n' c' : Nat) (xs' : List (BitVec 8 × BitVec 8)) (hst' : St w A' n' xs') (m other : Int) (h0 : 0 ≤ x0 ∧ x0 ≤ 255) (h1 : 0 ≤ x1 ∧ x1 ≤ 255) (h2 : 0 ≤ x2 ∧ x2 ≤ 255) (h3 : 0 ≤ x3 ∧ x3 ≤ 255) (h4 : 0 ≤ x4 ∧ x4 ≤ 255) (h5 : 0 ≤ x5 ∧ x5 ≤ 255) (hm0 : 0 ≤ m ∧ m ≤ 255) (ho : 0 ≤ other ∧ other ≤ 255) :
    Calls Try.prog 5 #[.agg #[.int .u8 x0, .int .u8 x1, .int .u8 x2, .int .u8 x3, .int .u8 x4, .int .u8 x5], .slice A n c, .slice A' n' c', .int .u8 m, .int .u8 other] w fun e w' => e = .returned (.bool true) ∧ Below w.heap.size w w' := by
  have ST := Lib.hid hst
  have ST' := Lib.hid hst'
  clear hst hst'
  obtain ⟨M0, b, g, sg, n0, l0, hsm, hshape⟩ := shape_small x0 x1 x2 x3 x4 x5 h0 h1 h2 h3 h4 h5
  obtain ⟨M, rfl⟩ : ∃ M : Nat, M0 = (M : Int) := ⟨M0.toNat, by have := hsm.hm; omega⟩
  have SM := Lib.hid hsm
  have SH := Lib.hid hshape
  clear hsm hshape
  go_enter Try.func5, Try.ntmps5
  go_wp2_with fail
  have A0 := Lib.hid (show At (w.alloc (.cells #[.int .u8 x0, .int .u8 x1, .int .u8 x2, .int .u8 x3, .int .u8 x4, .int .u8 x5] 23)) w.heap.size #[.int .u8 x0, .int .u8 x1, .int .u8 x2, .int .u8 x3, .int .u8 x4, .int .u8 x5] 23 from At.new _ 23 rfl)
  have B0 := Lib.hid ((Below.refl w.heap.size w).alloc (Nat.le_refl _) (.cells #[.int .u8 x0, .int .u8 x1, .int .u8 x2, .int .u8 x3, .int .u8 x4, .int .u8 x5] 23))
  refine (awake_any _).mono ?_
  rintro e w1 ⟨rfl, hbl⟩
  have A1 := Lib.hid (A0.out.below hbl A0.out.lt)
  have B1 := Lib.hid (B0.out.trans (hbl.mono B0.out.size))
  clear hbl A0 B0
  have c0 : w1.cell? ⟨w.heap.size, 0, none⟩ = some (.int .u8 x0) := A1.out.cell 0
  have c1 : w1.cell? ⟨w.heap.size, 1, none⟩ = some (.int .u8 x1) := A1.out.cell 1
  have c2 : w1.cell? ⟨w.heap.size, 2, none⟩ = some (.int .u8 x2) := A1.out.cell 2
  have c3 : w1.cell? ⟨w.heap.size, 3, none⟩ = some (.int .u8 x3) := A1.out.cell 3
  have c4 : w1.cell? ⟨w.heap.size, 4, none⟩ = some (.int .u8 x4) := A1.out.cell 4
  have c5 : w1.cell? ⟨w.heap.size, 5, none⟩ = some (.int .u8 x5) := A1.out.cell 5
  by_cases hn0 : 8 < n
  · have hn0' : (8 : Int) < (n : Int) := by omega
    clear c0 c1 c2 c3 c4 c5
    go_wp2
    go_ret
    exact ⟨rfl, B1.out⟩
  by_cases hn1 : 8 < n'
  · have hn1' : (8 : Int) < (n' : Int) := by omega
    clear c0 c1 c2 c3 c4 c5
    go_wp2
    go_ret
    exact ⟨rfl, B1.out⟩
  go_wp2_with fail
  refine (SH.out w1).mono ?_
  rintro e w2 ⟨rfl, hbl⟩
  have B2 := Lib.hid (B1.out.trans (hbl.mono B1.out.size))
  clear hbl A1 c0 c1 c2 c3 c4 c5 SH
  go_wp2_with fail
  refine (New_any M b g sg n0 l0 SM.out w2).mono ?_
  rintro e w3 ⟨R, q, cap, P, O, S0, z, rfl, hsys, hS, hz⟩
  obtain ⟨s, hy, hcalm, hu, rfl, rfl, rfl, rfl, rfl, rfl, hd⟩ := init_facts hsys hz
  have HY := Lib.hid hy
  have CM := Lib.hid hcalm
  have HU := Lib.hid hu
  have HD := Lib.hid hd
  have B3 := Lib.hid (B2.out.trans (hy.below.mono B2.out.size))
  have hMs := hy.rg.arr.many
  obtain ⟨r0, r1, r2, r3, r4, r5⟩ := hy.shape
  clear hsys hS hz hy hcalm hu hd SM B1
  have ST2 := Lib.hid (ST.out.below B2.out)
  have ST2' := Lib.hid (ST'.out.below B2.out)
  have hmk : ∀ w : World, (Instr.makeMap 38 none).run Try.prog w = .ok (.map (some w.heap.size)) (w.alloc (.map #[] 0)) := fun w => by kernel_rfl
  obtain ⟨k, hk⟩ : ∃ k : Nat, m % (s.M : Int) = (k : Int) := ⟨(m % (s.M : Int)).toNat, by have := Int.emod_nonneg m (show (s.M : Int) ≠ 0 by omega); omega⟩
  have ML := Lib.hid (show k < s.M by have := Int.emod_lt_of_pos m (show 0 < (s.M : Int) by omega); omega)
  have e0 : IntKind.i64.wrap m = m := wrap_of (by omega) (by omega)
  have e1 : m.tmod (s.M : Int) = (k : Int) := by rw [Int.tmod_eq_emod_of_nonneg hm0.1]; exact hk
  have e2 : ¬ s.M = 0 := by omega
  clear r1 r2 r3 r4 r5 hk
  go_wp2_with fail
  clear hmk e0 e1 e2 r0
  have L4 := Lib.hid HY.out.begin_
  obtain ⟨hb, hhb⟩ : ∃ hb, hb = w3.heap.size := ⟨_, rfl⟩
  rw [← hhb] at L4 ⊢
  generalize w3.alloc (.map #[] 0) = w4 at *
  clear hhb B3 HY ST ST'
  have SMS := Lib.hid (Same.refl s)
  have S0 : (fun w' : World => w'.cell? ⟨R, 9, none⟩ = some (ptr P.a) ∧ w'.rangeAt R 0 s.sh) w4.drew := ⟨L4.out.sys.rg.rig.cell 9, by have h1 := L4.out.sys.range; have h2 := SMS.out; unfold Same at h2; rw [h2] at h1; exact h1⟩
  refine wp_region_early (fun w' : World => w'.cell? ⟨R, 9, none⟩ = some (ptr P.a) ∧ w'.rangeAt R 0 s.sh) (fun _ => true) (by kernel_rfl) ?_
  change wpEarly _ _ _ _ _ _ 36 (Array.replicate 36 false) _ w4.drew
  refine early_take (i := 0) 47 (ptr R) rfl rfl (by kernel_rfl) (by kernel_rfl) (by kernel_rfl) (by kernel_rfl) rfl (fun _ _ _ h => h) (fun w' hw' => by go_simp) S0 ?_
  simp only [Act.put, List.setIfInBounds_toArray, List.set_cons_zero, List.set_cons_succ]
  refine early_take (i := 1) 48 (.slice A n c) rfl rfl (by kernel_rfl) (by kernel_rfl) (by kernel_rfl) (by kernel_rfl) rfl (fun _ _ _ h => h) (fun w' hw' => by go_simp) S0 ?_
  simp only [Act.put, List.setIfInBounds_toArray, List.set_cons_zero, List.set_cons_succ]
  refine early_take (i := 2) 49 (.map (some hb)) rfl rfl (by kernel_rfl) (by kernel_rfl) (by kernel_rfl) (by kernel_rfl) rfl (fun _ _ _ h => h) (fun w' hw' => by go_simp) S0 ?_
  simp only [Act.put, List.setIfInBounds_toArray, List.set_cons_zero, List.set_cons_succ]
  refine early_only (i := 3) (by kernel_rfl) rfl (fun K hK => ?_)
  simp only [opWp, List.getElem?_toArray, List.getElem?_cons_succ, List.getElem?_cons_zero]
  go_simp
  go_at_call 16
  refine (put_any false Kept put_calm A n c xs (by omega) ST2.out rfl L4.out.drew ⟨CM.out, inv_none s⟩ (by have := HU.out; omega)).mono ?_
  rintro e w5 ⟨rfl, O5, s5, H5, k1, k2, k3, k4, k5, k6⟩
  have L5 := Lib.hid k1
  have SM5 := Lib.hid k2
  have Q5 := Lib.hid k3
  have U5 := Lib.hid (show s5.u ≤ 300 by have := HU.out; omega)
  have S1 : (fun w' : World => w'.cell? ⟨R, 9, none⟩ = some (ptr P.a) ∧ w'.rangeAt R 0 s.sh) w5 := ⟨L5.out.sys.rg.rig.cell 9, by have h1 := L5.out.sys.range; have h2 := SM5.out; unfold Same at h2; rw [h2] at h1; exact h1⟩
  clear k1 k2 k3 k4 k5 k6 L4 HD HU CM
  refine hK _ _ (fun _ => S1) ?_
  clear S0
  refine early_take (i := 4) 51 (.bool false) rfl rfl (by kernel_rfl) (by kernel_rfl) (by kernel_rfl) (by kernel_rfl) rfl (fun _ _ _ h => h) (fun w' hw' => by go_simp) S1 ?_
  simp only [Act.put, List.setIfInBounds_toArray, List.set_cons_zero, List.set_cons_succ]
  refine early_take (i := 5) 52 (.bool false) rfl rfl (by kernel_rfl) (by kernel_rfl) (by kernel_rfl) (by kernel_rfl) rfl (fun _ _ _ h => h) (fun w' hw' => by go_simp) S1 ?_
  simp only [Act.put, List.setIfInBounds_toArray, List.set_cons_zero, List.set_cons_succ]
  refine early_take (i := 6) 53 (ptr R) rfl rfl (by kernel_rfl) (by kernel_rfl) (by kernel_rfl) (by kernel_rfl) rfl (fun _ _ _ h => h) (fun w' hw' => by go_simp) S1 ?_
  simp only [Act.put, List.setIfInBounds_toArray, List.set_cons_zero, List.set_cons_succ]
  refine early_take (i := 7) 54 (ptr R) rfl rfl (by kernel_rfl) (by kernel_rfl) (by kernel_rfl) (by kernel_rfl) rfl (fun _ _ _ h => h) (fun w' hw' => by go_simp) S1 ?_
  simp only [Act.put, List.setIfInBounds_toArray, List.set_cons_zero, List.set_cons_succ]
  refine early_take (i := 8) 55 (.pointer (some ⟨R, 9, none⟩)) rfl rfl (by kernel_rfl) (by kernel_rfl) (by kernel_rfl) (by kernel_rfl) rfl (fun _ _ _ h => h) (fun w' hw' => by go_simp) S1 ?_
  simp only [Act.put, List.setIfInBounds_toArray, List.set_cons_zero, List.set_cons_succ]
  refine early_take (i := 9) 56 (ptr P.a) rfl rfl (by kernel_rfl) (by kernel_rfl) (by kernel_rfl) (by kernel_rfl) rfl (fun _ _ _ h => h) (fun w' hw' => by obtain ⟨k1, k2⟩ := hw'; go_simp) S1 ?_
  simp only [Act.put, List.setIfInBounds_toArray, List.set_cons_zero, List.set_cons_succ]
  refine early_take (i := 10) 57 (ptr R) rfl rfl (by kernel_rfl) (by kernel_rfl) (by kernel_rfl) (by kernel_rfl) rfl (fun _ _ _ h => h) (fun w' hw' => by go_simp) S1 ?_
  simp only [Act.put, List.setIfInBounds_toArray, List.set_cons_zero, List.set_cons_succ]
  refine early_take (i := 11) 58 (ptr R) rfl rfl (by kernel_rfl) (by kernel_rfl) (by kernel_rfl) (by kernel_rfl) rfl (fun _ _ _ h => h) (fun w' hw' => by go_simp) S1 ?_
  simp only [Act.put, List.setIfInBounds_toArray, List.set_cons_zero, List.set_cons_succ]
  refine early_take (i := 12) 59 (ptr R) rfl rfl (by kernel_rfl) (by kernel_rfl) (by kernel_rfl) (by kernel_rfl) rfl (fun _ _ _ h => h) (fun w' hw' => by go_simp) S1 ?_
  simp only [Act.put, List.setIfInBounds_toArray, List.set_cons_zero, List.set_cons_succ]
  refine early_take (i := 13) 60 (sv (s.M : Int) s.b s.g s.s s.n s.l) rfl rfl (by kernel_rfl) (by kernel_rfl) (by kernel_rfl) (by kernel_rfl) rfl (fun _ _ _ h => h) (fun w' hw' => exec_shape (s := s) (x := .tmp 59) rfl rfl hw'.2) S1 ?_
  simp only [Act.put, List.setIfInBounds_toArray, List.set_cons_zero, List.set_cons_succ]
  refine early_only (i := 14) (by kernel_rfl) rfl (fun K hK => ?_)
  simp only [opWp, List.getElem?_toArray, List.getElem?_cons_succ, List.getElem?_cons_zero]
  have NB := Lib.hid (show (s.b.toNat : Int) = s.b by have := L5.out.sys.rg.arr.wf.small.hb; rw [SM5.out.b] at this; omega)
  have b48 := Lib.hid (show 32 ≤ s.b ∧ s.b ≤ 48 by have := L5.out.sys.rg.arr.wf.small.hb; rw [SM5.out.b] at this; exact this)
  go_simp
  go_at_call 28
  refine (Block_any s.M s.b s.g s.s s.n s.l s.b.toNat (by have := b48.out; omega) (by have := b48.out; omega) 9#8 _ rfl _).mono ?_
  rintro e w6 ⟨Bk, rfl, hown, hbl⟩
  have L6 := Lib.hid (L5.out.up hbl)
  have H6 := Lib.hid (own_slice hown)
  have NO := Lib.hid (show ∀ x, some (⟨Bk, 0, none⟩ : Addr) = some x → ¬ O5 x.block from fun x hx => (L5.out.sys.new _ (H6.out.2.2 x hx).1).1)
  have S2 : (fun w' : World => w'.cell? ⟨R, 9, none⟩ = some (ptr P.a) ∧ w'.rangeAt R 0 s.sh) w6 := ⟨L6.out.sys.rg.rig.cell 9, by have h1 := L6.out.sys.range; have h2 := SM5.out; unfold Same at h2; rw [h2] at h1; exact h1⟩
  clear hown hbl
  refine hK _ _ (fun _ => S2) ?_
  refine early_only (i := 15) (by kernel_rfl) rfl (fun K hK => ?_)
  simp only [opWp, List.getElem?_toArray, List.getElem?_cons_succ, List.getElem?_cons_zero]
  go_simp
  go_at_call 27
  refine (PutSame_any 1 (by have h1 := L6.out.sys.rg.arr.wf.sect; have h2 := L6.out.sys.rg.arr.wf.some_; have h3 := L6.out.sys.rg.arr.wf.n; unfold AS.N at h3; omega) (some ⟨Bk, 0, none⟩) s.b.toNat s.b.toNat _ (by rw [SM5.out.b]; exact NB.out) H6.out.1 NO.out L6.out.sys.rg.arr (by have := U5.out; omega)).mono ?_
  rintro e w7 ⟨er, s7, rfl, hD, hX⟩
  obtain ⟨rfl, q1, q2, q3, q4⟩ := put_same Q5.out L6.out.sys.rg.arr.wf hX
  obtain ⟨O7, k1, k2, k3⟩ := L6.out.did q3 hD
  have L7 := Lib.hid k1
  have Q7 := Lib.hid q1
  have ON7 := Lib.hid q2
  have SM7 := Lib.hid (SM5.out.trans q3)
  have U7 := Lib.hid (show s7.u ≤ 400 by have := U5.out; omega)
  have S3 : (fun w' : World => w'.cell? ⟨R, 9, none⟩ = some (ptr P.a) ∧ w'.rangeAt R 0 s.sh) w7 := ⟨L7.out.sys.rg.rig.cell 9, by have h1 := L7.out.sys.range; have h2 := SM7.out; unfold Same at h2; rw [h2] at h1; exact h1⟩
  clear k1 k2 k3 hD hX q1 q2 q3 q4 L6 L5 Q5 SM5 U5 H6 NO
  refine hK _ _ (fun _ => S3) ?_
  clear S1 S2
  refine early_take (i := 16) 63 (.bool false) rfl rfl (by kernel_rfl) (by kernel_rfl) (by kernel_rfl) (by kernel_rfl) rfl (fun _ _ _ h => h) (fun w' hw' => by go_simp) S3 ?_
  simp only [Act.put, List.setIfInBounds_toArray, List.set_cons_zero, List.set_cons_succ]
  refine early_take (i := 17) 64 (.bool false) rfl rfl (by kernel_rfl) (by kernel_rfl) (by kernel_rfl) (by kernel_rfl) rfl (fun _ _ _ h => h) (fun w' hw' => by go_simp) S3 ?_
  simp only [Act.put, List.setIfInBounds_toArray, List.set_cons_zero, List.set_cons_succ]
  refine early_take (i := 18) 65 (.bool false) rfl rfl (by kernel_rfl) (by kernel_rfl) (by kernel_rfl) (by kernel_rfl) rfl (fun _ _ _ h => h) (fun w' hw' => by go_simp) S3 ?_
  simp only [Act.put, List.setIfInBounds_toArray, List.set_cons_zero, List.set_cons_succ]
  refine early_take (i := 19) 66 (ptr R) rfl rfl (by kernel_rfl) (by kernel_rfl) (by kernel_rfl) (by kernel_rfl) rfl (fun _ _ _ h => h) (fun w' hw' => by go_simp) S3 ?_
  simp only [Act.put, List.setIfInBounds_toArray, List.set_cons_zero, List.set_cons_succ]
  refine early_take (i := 20) 67 (ptr R) rfl rfl (by kernel_rfl) (by kernel_rfl) (by kernel_rfl) (by kernel_rfl) rfl (fun _ _ _ h => h) (fun w' hw' => by go_simp) S3 ?_
  simp only [Act.put, List.setIfInBounds_toArray, List.set_cons_zero, List.set_cons_succ]
  refine early_take (i := 21) 68 (.pointer (some ⟨R, 9, none⟩)) rfl rfl (by kernel_rfl) (by kernel_rfl) (by kernel_rfl) (by kernel_rfl) rfl (fun _ _ _ h => h) (fun w' hw' => by go_simp) S3 ?_
  simp only [Act.put, List.setIfInBounds_toArray, List.set_cons_zero, List.set_cons_succ]
  refine early_take (i := 22) 69 (ptr P.a) rfl rfl (by kernel_rfl) (by kernel_rfl) (by kernel_rfl) (by kernel_rfl) rfl (fun _ _ _ h => h) (fun w' hw' => by obtain ⟨k1, k2⟩ := hw'; go_simp) S3 ?_
  simp only [Act.put, List.setIfInBounds_toArray, List.set_cons_zero, List.set_cons_succ]
  refine early_take (i := 23) 70 (.int .i64 (k : Int)) rfl rfl (by kernel_rfl) (by kernel_rfl) (by kernel_rfl) (by kernel_rfl) rfl (fun _ _ _ h => h) (fun w' hw' => by go_simp) S3 ?_
  simp only [Act.put, List.setIfInBounds_toArray, List.set_cons_zero, List.set_cons_succ]
  refine early_only (i := 24) (by kernel_rfl) rfl (fun K hK => ?_)
  simp only [opWp, List.getElem?_toArray, List.getElem?_cons_succ, List.getElem?_cons_zero]
  go_simp
  go_at_call 26
  refine (Lose_any k (by rw [SM7.out.M]; exact ML.out) L7.out.sys.rg.arr (by have := U7.out; omega)).mono ?_
  rintro e w8 hl
  obtain ⟨e1, e2⟩ := lose_first k Q7.out.1.stale
  rw [e1, e2] at hl
  obtain ⟨rfl, k1, k2⟩ : e = .returned (.int .i64 0) ∧ Arr w8 P O7 { s7 with stale := (k : Int), u := s7.u + 1 } ∧ But O7 w7 w8 := by
    rcases hl with ⟨e3, _⟩ | ⟨_, e3, e4, e5⟩
    · rw [Q7.out.1.whole] at e3; cases e3
    · exact ⟨e3, e4, e5⟩
  have sm8 : Same s7 { s7 with stale := (k : Int), u := s7.u + 1 } := rfl
  have L8 := Lib.hid (L7.out.keep sm8 k1 k2)
  have SM8 := Lib.hid (SM7.out.trans sm8)
  have Q8 := Lib.hid (show KD k { s7 with stale := (k : Int), u := s7.u + 1 } H5 from ⟨⟨Q7.out.1.whole, .inr rfl, fun j hj _ => Q7.out.1.live hj⟩, fun j hj hne t f h0 h1 hf => Q7.out.2 j hj (by rw [Q7.out.1.stale]; omega) t f h0 h1 hf, rfl, by show k < s7.M; rw [SM7.out.M]; exact ML.out⟩)
  have ON8 := Lib.hid (show ∀ j, j < ({ s7 with stale := (k : Int), u := s7.u + 1 } : AS).M → (({ s7 with stale := (k : Int), u := s7.u + 1 } : AS).d j).read 1 = List.replicate s.b.toNat 9#8 from ON7.out)
  have U8 := Lib.hid (show ({ s7 with stale := (k : Int), u := s7.u + 1 } : AS).u ≤ 500 by show s7.u + 1 ≤ 500; have := U7.out; omega)
  clear hl e1 e2 k1 k2 sm8 SM7 Q7 ON7 U7 L7
  generalize ({ s7 with stale := (k : Int), u := s7.u + 1 } : AS) = s8 at *
  have S4 : (fun w' : World => w'.cell? ⟨R, 9, none⟩ = some (ptr P.a) ∧ w'.rangeAt R 0 s.sh) w8 := ⟨L8.out.sys.rg.rig.cell 9, by have h1 := L8.out.sys.range; have h2 := SM8.out; unfold Same at h2; rw [h2] at h1; exact h1⟩
  refine hK _ _ (fun _ => S4) ?_
  clear S3
  refine early_take (i := 25) 72 (.bool false) rfl rfl (by kernel_rfl) (by kernel_rfl) (by kernel_rfl) (by kernel_rfl) rfl (fun _ _ _ h => h) (fun w' hw' => by go_simp) S4 ?_
  simp only [Act.put, List.setIfInBounds_toArray, List.set_cons_zero, List.set_cons_succ]
  refine early_take (i := 26) 73 (.bool false) rfl rfl (by kernel_rfl) (by kernel_rfl) (by kernel_rfl) (by kernel_rfl) rfl (fun _ _ _ h => h) (fun w' hw' => by go_simp) S4 ?_
  simp only [Act.put, List.setIfInBounds_toArray, List.set_cons_zero, List.set_cons_succ]
  refine early_take (i := 27) 74 (.bool false) rfl rfl (by kernel_rfl) (by kernel_rfl) (by kernel_rfl) (by kernel_rfl) rfl (fun _ _ _ h => h) (fun w' hw' => by go_simp) S4 ?_
  simp only [Act.put, List.setIfInBounds_toArray, List.set_cons_zero, List.set_cons_succ]
  refine early_take (i := 28) 75 (ptr R) rfl rfl (by kernel_rfl) (by kernel_rfl) (by kernel_rfl) (by kernel_rfl) rfl (fun _ _ _ h => h) (fun w' hw' => by go_simp) S4 ?_
  simp only [Act.put, List.setIfInBounds_toArray, List.set_cons_zero, List.set_cons_succ]
  refine early_take (i := 29) 76 (ptr R) rfl rfl (by kernel_rfl) (by kernel_rfl) (by kernel_rfl) (by kernel_rfl) rfl (fun _ _ _ h => h) (fun w' hw' => by go_simp) S4 ?_
  simp only [Act.put, List.setIfInBounds_toArray, List.set_cons_zero, List.set_cons_succ]
  refine early_take (i := 30) 77 (.pointer (some ⟨R, 9, none⟩)) rfl rfl (by kernel_rfl) (by kernel_rfl) (by kernel_rfl) (by kernel_rfl) rfl (fun _ _ _ h => h) (fun w' hw' => by go_simp) S4 ?_
  simp only [Act.put, List.setIfInBounds_toArray, List.set_cons_zero, List.set_cons_succ]
  refine early_take (i := 31) 78 (ptr P.a) rfl rfl (by kernel_rfl) (by kernel_rfl) (by kernel_rfl) (by kernel_rfl) rfl (fun _ _ _ h => h) (fun w' hw' => by obtain ⟨k1, k2⟩ := hw'; go_simp) S4 ?_
  simp only [Act.put, List.setIfInBounds_toArray, List.set_cons_zero, List.set_cons_succ]
  refine early_take (i := 32) 79 (.int .i64 (k : Int)) rfl rfl (by kernel_rfl) (by kernel_rfl) (by kernel_rfl) (by kernel_rfl) rfl (fun _ _ _ h => h) (fun w' hw' => by go_simp) S4 ?_
  simp only [Act.put, List.setIfInBounds_toArray, List.set_cons_zero, List.set_cons_succ]
  refine early_only (i := 33) (by kernel_rfl) rfl (fun K hK => ?_)
  simp only [opWp, List.getElem?_toArray, List.getElem?_cons_succ, List.getElem?_cons_zero]
  go_simp
  go_at_call 25
  refine (Replace_any k Q8.out.lt Q8.out.stale Q8.out.sound.whole L8.out.sys.rg.arr).mono ?_
  rintro e w9 ⟨rfl, k1, k2⟩
  have L9 := Lib.hid (L8.out.keep (Same.hurt s8 k (blank (s8.d k).sectors (s8.d k).size)) k1 k2)
  have Q9 := Lib.hid (show MK k (0 : Nat) (List.replicate s.b.toNat 9#8) (s8.hurt k (blank (s8.d k).sectors (s8.d k).size)) H5 from
    ⟨Q8.out.only (Same.hurt s8 k _) rfl rfl (fun j hj => by show (if j = k then _ else s8.d j) = _; rw [if_neg hj]), by show Live (if k = k then blank (s8.d k).sectors (s8.d k).size else s8.d k); rw [if_pos rfl]; exact ⟨rfl, by show (-1 : Int) < 0; decide⟩,
     fun j hj hne => by show (if j = k then blank (s8.d k).sectors (s8.d k).size else s8.d j).read 1 = _; rw [if_neg hne]; exact ON8.out j hj, fun t f h0 h1 => by omega⟩)
  have U9 := Lib.hid (show (s8.hurt k (blank (s8.d k).sectors (s8.d k).size)).u ≤ 500 from U8.out)
  have SM9 := Lib.hid (SM8.out.trans (Same.hurt s8 k (blank (s8.d k).sectors (s8.d k).size)))
  clear k1 k2 L8 Q8 ON8 U8 SM8
  generalize s8.hurt k (blank (s8.d k).sectors (s8.d k).size) = s9 at *
  have S5 : (fun w' : World => w'.cell? ⟨R, 9, none⟩ = some (ptr P.a) ∧ w'.rangeAt R 0 s.sh) w9 := ⟨L9.out.sys.rg.rig.cell 9, by have h1 := L9.out.sys.range; have h2 := SM9.out; unfold Same at h2; rw [h2] at h1; exact h1⟩
  refine hK _ _ (fun _ => S5) ?_
  clear S4
  refine early_take (i := 34) 81 (.bool false) rfl rfl (by kernel_rfl) (by kernel_rfl) (by kernel_rfl) (by kernel_rfl) rfl (fun _ _ _ h => h) (fun w' hw' => by go_simp) S5 ?_
  simp only [Act.put, List.setIfInBounds_toArray, List.set_cons_zero, List.set_cons_succ]
  refine early_take (i := 35) 82 (.bool false) rfl rfl (by kernel_rfl) (by kernel_rfl) (by kernel_rfl) (by kernel_rfl) rfl (fun _ _ _ h => h) (fun w' hw' => by go_simp) S5 ?_
  simp only [Act.put, List.setIfInBounds_toArray, List.set_cons_zero, List.set_cons_succ]
  refine early_done (by kernel_rfl) ?_
  clear S5
  obtain ⟨r0, r1, r2, r3, r4, r5⟩ := L9.out.sys.shape
  go_wp2_with fail
  refine (all_call L9.out.sys.rg.arr.wf w9).mono ?_
  rintro e w10 ⟨rfl, hbl⟩
  have L10 := Lib.hid (L9.out.up hbl)
  have HN := Lib.hid L10.out.sys.rg.arr.wf.n
  clear hbl r0 r1 r2 r3 r4 r5 L9
  go_wp2_with fail
  obtain ⟨N, hN⟩ : ∃ N : Nat, s9.N = (N : Int) := ⟨s9.N.toNat, by have := HN.out; omega⟩
  have EN := Lib.hid hN
  have n18 : N ≤ 18 := by have := HN.out; omega
  rw [hN]
  clear hN
  go_loopw [88] (fun i wr => ∃ j : Nat, j ≤ N ∧ i = .int .i64 (j : Int) ∧ ∃ O' s' H', Lw w2.heap.size w2 wr R q cap P O' s' hb H' ∧ MK k j (List.replicate s.b.toNat 9#8) s' H' ∧ s'.u ≤ 500 + 300 * (j : Int) ∧ Same s9 s') (fun i _ => N - (RowKit.intOf i).toNat)
  case atStart => exact ⟨0, Nat.zero_le _, rfl, O7, s9, H5, L10.out, Q9.out, by have := U9.out; omega, Same.refl s9⟩
  case round =>
    obtain ⟨j, hj, rfl, O1, s1, H1, k1, k2, k3, k4⟩ := hrel
    have L11 := Lib.hid k1
    have Q11 := Lib.hid k2
    have U11 := Lib.hid k3
    have SM11 := Lib.hid k4
    clear k1 k2 k3 k4 L10 Q9 U9
    by_cases hlt : j < N
    · have r9 := L11.out.cells.2.2.2.2
      have TN := Lib.hid (show 0 ≤ (j : Int) ∧ (j : Int) < s1.N by rw [SM11.out.N, EN.out]; omega)
      go_wp2_with fail
      refine (Mend_any (j : Int) k TN.out Q11.out.kd.lt Q11.out.kd.stale Q11.out.kd.sound.whole L11.out.sys.rg.arr L11.out.sys.rg.arr.wf.less.1 (by have := U11.out; omega)).mono ?_
      rintro e w12 ⟨er, s2, rfl, hD, hX⟩
      obtain ⟨rfl, q1, q2, q3⟩ := Q11.out.mend L11.out.sys.rg.arr.wf TN.out hX
      obtain ⟨O2, k1, k2, k3⟩ := L11.out.did q2 hD
      have L12 := Lib.hid k1
      have Q12 := Lib.hid q1
      have SM12 := Lib.hid (SM11.out.trans q2)
      have U12 := Lib.hid (show s2.u ≤ 520 + 300 * (j : Int) by have := U11.out; omega)
      clear k1 k2 k3 hD hX q1 q2 q3 r9 L11 Q11 U11 SM11 TN
      by_cases hj1 : j = 1
      · have hj2 : (j : Int) = 1 := by omega
        go_wp2_with fail
        refine (put_any false (MK k ((j : Int) + 1) (List.replicate s.b.toNat 9#8)) put_made A' n' c' xs' (by omega) ST2'.out rfl L12.out Q12.out (by have := U12.out; omega)).mono ?_
        rintro e w13 ⟨rfl, O3, s3, H3, k1, k2, k3, k4, k5, k6⟩
        have L13 := Lib.hid k1
        have SM13 := Lib.hid (SM12.out.trans k2)
        have Q13 := Lib.hid k3
        have U13 := Lib.hid (show s3.u ≤ 500 + 300 * ((j + 1 : Nat) : Int) by have := U12.out; omega)
        clear k1 k2 k3 k4 k5 k6 L12 Q12 SM12 U12
        go_wp2
        go_roundw
        case rel => exact ⟨j + 1, by omega, by go_num, O3, s3, H3, L13.out, Q13.out, U13.out, SM13.out⟩
        case measure => simp [RowKit.intOf]; omega
      · have hj2 : ¬ (j : Int) = 1 := by omega
        have hj3 : ¬ j = 1 := hj1
        go_wp2
        go_roundw
        case rel => exact ⟨j + 1, by omega, by go_num, O2, s2, H1, L12.out, Q12.out, by have := U12.out; omega, SM12.out⟩
        case measure => simp [RowKit.intOf]; omega
    · obtain rfl : j = N := by omega
      clear ST2 ST2'
      have SM11' := Lib.hid (SM9.out.trans SM11.out)
      have NS1 := Lib.hid (show s1.N = (j : Int) by rw [SM11.out.N, EN.out])
      have CB := Lib.hid (show List.replicate s.b.toNat 9#8 = List.replicate s1.b.toNat 9#8 by rw [SM11'.out.b])
      rw [CB.out] at Q11
      clear CB SM9 SM11' SMS 
      have SM1 := Lib.hid (Same.refl s1)
      clear SM11
      go_wp2_with fail
      have S0 : (fun w' : World => w'.cell? ⟨R, 9, none⟩ = some (ptr P.a) ∧ w'.rangeAt R 0 s1.sh) wr.drew := ⟨L11.out.sys.rg.rig.cell 9, L11.out.sys.range⟩
      refine wp_region_early (fun w' : World => w'.cell? ⟨R, 9, none⟩ = some (ptr P.a) ∧ w'.rangeAt R 0 s1.sh) (fun _ => true) (by kernel_rfl) ?_
      change wpEarly _ _ _ _ _ _ 27 (Array.replicate 27 false) _ wr.drew
      refine early_take (i := 0) 110 (ptr R) rfl rfl (by kernel_rfl) (by kernel_rfl) (by kernel_rfl) (by kernel_rfl) rfl (fun _ _ _ h => h) (fun w' hw' => by go_simp) S0 ?_
      simp only [Act.put, List.setIfInBounds_toArray, List.set_cons_zero, List.set_cons_succ]
      refine early_take (i := 1) 111 (ptr R) rfl rfl (by kernel_rfl) (by kernel_rfl) (by kernel_rfl) (by kernel_rfl) rfl (fun _ _ _ h => h) (fun w' hw' => by go_simp) S0 ?_
      simp only [Act.put, List.setIfInBounds_toArray, List.set_cons_zero, List.set_cons_succ]
      refine early_take (i := 2) 112 (.pointer (some ⟨R, 9, none⟩)) rfl rfl (by kernel_rfl) (by kernel_rfl) (by kernel_rfl) (by kernel_rfl) rfl (fun _ _ _ h => h) (fun w' hw' => by go_simp) S0 ?_
      simp only [Act.put, List.setIfInBounds_toArray, List.set_cons_zero, List.set_cons_succ]
      refine early_take (i := 3) 113 (ptr P.a) rfl rfl (by kernel_rfl) (by kernel_rfl) (by kernel_rfl) (by kernel_rfl) rfl (fun _ _ _ h => h) (fun w' hw' => by obtain ⟨k1, k2⟩ := hw'; go_simp) S0 ?_
      simp only [Act.put, List.setIfInBounds_toArray, List.set_cons_zero, List.set_cons_succ]
      refine early_take (i := 4) 114 (ptr R) rfl rfl (by kernel_rfl) (by kernel_rfl) (by kernel_rfl) (by kernel_rfl) rfl (fun _ _ _ h => h) (fun w' hw' => by go_simp) S0 ?_
      simp only [Act.put, List.setIfInBounds_toArray, List.set_cons_zero, List.set_cons_succ]
      refine early_take (i := 5) 115 (ptr R) rfl rfl (by kernel_rfl) (by kernel_rfl) (by kernel_rfl) (by kernel_rfl) rfl (fun _ _ _ h => h) (fun w' hw' => by go_simp) S0 ?_
      simp only [Act.put, List.setIfInBounds_toArray, List.set_cons_zero, List.set_cons_succ]
      refine early_take (i := 6) 116 (ptr R) rfl rfl (by kernel_rfl) (by kernel_rfl) (by kernel_rfl) (by kernel_rfl) rfl (fun _ _ _ h => h) (fun w' hw' => by go_simp) S0 ?_
      simp only [Act.put, List.setIfInBounds_toArray, List.set_cons_zero, List.set_cons_succ]
      refine early_take (i := 7) 117 (sv (s1.M : Int) s1.b s1.g s1.s s1.n s1.l) rfl rfl (by kernel_rfl) (by kernel_rfl) (by kernel_rfl) (by kernel_rfl) rfl (fun _ _ _ h => h) (fun w' hw' => exec_shape (s := s1) (x := .tmp 116) rfl rfl hw'.2) S0 ?_
      simp only [Act.put, List.setIfInBounds_toArray, List.set_cons_zero, List.set_cons_succ]
      refine early_only (i := 8) (by kernel_rfl) rfl (fun K hK => ?_)
      simp only [opWp, List.getElem?_toArray, List.getElem?_cons_succ, List.getElem?_cons_zero]
      have NB := Lib.hid (show (s1.b.toNat : Int) = s1.b by have := L11.out.sys.rg.arr.wf.small.hb; omega)
      have b48 := Lib.hid L11.out.sys.rg.arr.wf.small.hb
      go_simp
      go_at_call 28
      refine (Block_any s1.M s1.b s1.g s1.s s1.n s1.l s1.b.toNat (by have := b48.out; omega) (by have := b48.out; omega) 5#8 _ rfl _).mono ?_
      rintro e w12 ⟨Bk, rfl, hown, hbl⟩
      have L12 := Lib.hid (L11.out.drew.up hbl)
      have H12 := Lib.hid (own_slice hown)
      have NO2 := Lib.hid (show ∀ x, some (⟨Bk, 0, none⟩ : Addr) = some x → ¬ O1 x.block from fun x hx => (L11.out.drew.sys.new _ (H12.out.2.2 x hx).1).1)
      have S1 : (fun w' : World => w'.cell? ⟨R, 9, none⟩ = some (ptr P.a) ∧ w'.rangeAt R 0 s1.sh) w12 := ⟨L12.out.sys.rg.rig.cell 9, L12.out.sys.range⟩
      clear hown hbl
      refine hK _ _ (fun _ => S1) ?_
      refine early_only (i := 9) (by kernel_rfl) rfl (fun K hK => ?_)
      simp only [opWp, List.getElem?_toArray, List.getElem?_cons_succ, List.getElem?_cons_zero]
      go_simp
      go_at_call 29
      refine (Finish_any k Q11.out.kd.lt Q11.out.kd.stale Q11.out.kd.sound.whole (some ⟨Bk, 0, none⟩) s1.b.toNat s1.b.toNat _ NB.out H12.out.1 NO2.out L12.out.sys.rg.arr (by have := U11.out; omega)).mono ?_
      rintro e w13 ⟨er, s3, rfl, hD, hX⟩
      obtain ⟨rfl, q1, q2, q3, q4, q5, q6⟩ := Q11.out.finish L12.out.sys.rg.arr.wf (by rw [NS1.out]; exact Int.le_refl _) hX
      obtain ⟨O3, k1, k2, k3⟩ := L12.out.did q3 hD
      have L13 := Lib.hid k1
      have C13 := Lib.hid q1
      have I13 := Lib.hid q2
      have SM13 := Lib.hid q3
      have U13 := Lib.hid (show s3.u ≤ 20000 by have := U11.out; omega)
      have R0 := Lib.hid q5
      have R1 := Lib.hid q6
      have K13 := Lib.hid (show k < s3.M by rw [q3.M]; exact Q11.out.kd.lt)
      have S2 : (fun w' : World => w'.cell? ⟨R, 9, none⟩ = some (ptr P.a) ∧ w'.rangeAt R 0 s1.sh) w13 := ⟨L13.out.sys.rg.rig.cell 9, by have h1 := L13.out.sys.range; have h2 := SM13.out; unfold Same at h2; rw [h2] at h1; exact h1⟩
      clear k1 k2 k3 hD hX q1 q2 q3 q4 q5 q6 L12 L11 Q11 U11 H12 NO2 SM1
      refine hK _ _ (fun _ => S2) ?_
      clear S0 S1
      refine early_take (i := 10) 120 (.bool false) rfl rfl (by kernel_rfl) (by kernel_rfl) (by kernel_rfl) (by kernel_rfl) rfl (fun _ _ _ h => h) (fun w' hw' => by go_simp) S2 ?_
      simp only [Act.put, List.setIfInBounds_toArray, List.set_cons_zero, List.set_cons_succ]
      refine early_take (i := 11) 121 (.bool false) rfl rfl (by kernel_rfl) (by kernel_rfl) (by kernel_rfl) (by kernel_rfl) rfl (fun _ _ _ h => h) (fun w' hw' => by go_simp) S2 ?_
      simp only [Act.put, List.setIfInBounds_toArray, List.set_cons_zero, List.set_cons_succ]
      refine early_take (i := 12) 122 (ptr R) rfl rfl (by kernel_rfl) (by kernel_rfl) (by kernel_rfl) (by kernel_rfl) rfl (fun _ _ _ h => h) (fun w' hw' => by go_simp) S2 ?_
      simp only [Act.put, List.setIfInBounds_toArray, List.set_cons_zero, List.set_cons_succ]
      refine early_take (i := 13) 123 (ptr R) rfl rfl (by kernel_rfl) (by kernel_rfl) (by kernel_rfl) (by kernel_rfl) rfl (fun _ _ _ h => h) (fun w' hw' => by go_simp) S2 ?_
      simp only [Act.put, List.setIfInBounds_toArray, List.set_cons_zero, List.set_cons_succ]
      refine early_take (i := 14) 124 (.pointer (some ⟨R, 9, none⟩)) rfl rfl (by kernel_rfl) (by kernel_rfl) (by kernel_rfl) (by kernel_rfl) rfl (fun _ _ _ h => h) (fun w' hw' => by go_simp) S2 ?_
      simp only [Act.put, List.setIfInBounds_toArray, List.set_cons_zero, List.set_cons_succ]
      refine early_take (i := 15) 125 (ptr P.a) rfl rfl (by kernel_rfl) (by kernel_rfl) (by kernel_rfl) (by kernel_rfl) rfl (fun _ _ _ h => h) (fun w' hw' => by obtain ⟨k1, k2⟩ := hw'; go_simp) S2 ?_
      simp only [Act.put, List.setIfInBounds_toArray, List.set_cons_zero, List.set_cons_succ]
      refine early_only (i := 16) (by kernel_rfl) rfl (fun K hK => ?_)
      simp only [opWp, List.getElem?_toArray, List.getElem?_cons_succ, List.getElem?_cons_zero]
      go_simp
      go_at_call 18
      refine (stale_any L13.out.sys.rg.arr).mono ?_
      rintro e w14 ⟨rfl, hbl⟩
      have L14 := Lib.hid (L13.out.up hbl)
      have S3 : (fun w' : World => w'.cell? ⟨R, 9, none⟩ = some (ptr P.a) ∧ w'.rangeAt R 0 s1.sh) w14 := ⟨L14.out.sys.rg.rig.cell 9, by have h1 := L14.out.sys.range; have h2 := SM13.out; unfold Same at h2; rw [h2] at h1; exact h1⟩
      rw [C13.out.stale]
      clear hbl L13
      refine hK _ _ (fun _ => S3) ?_
      clear S2
      refine early_take (i := 17) 127 (.bool false) rfl rfl (by kernel_rfl) (by kernel_rfl) (by kernel_rfl) (by kernel_rfl) rfl (fun _ _ _ h => h) (fun w' hw' => by go_simp) S3 ?_
      simp only [Act.put, List.setIfInBounds_toArray, List.set_cons_zero, List.set_cons_succ]
      refine early_take (i := 18) 128 (.bool false) rfl rfl (by kernel_rfl) (by kernel_rfl) (by kernel_rfl) (by kernel_rfl) rfl (fun _ _ _ h => h) (fun w' hw' => by go_simp) S3 ?_
      simp only [Act.put, List.setIfInBounds_toArray, List.set_cons_zero, List.set_cons_succ]
      refine early_take (i := 19) 129 (.bool false) rfl rfl (by kernel_rfl) (by kernel_rfl) (by kernel_rfl) (by kernel_rfl) rfl (fun _ _ _ h => h) (fun w' hw' => by go_simp) S3 ?_
      simp only [Act.put, List.setIfInBounds_toArray, List.set_cons_zero, List.set_cons_succ]
      refine early_take (i := 20) 130 (ptr R) rfl rfl (by kernel_rfl) (by kernel_rfl) (by kernel_rfl) (by kernel_rfl) rfl (fun _ _ _ h => h) (fun w' hw' => by go_simp) S3 ?_
      simp only [Act.put, List.setIfInBounds_toArray, List.set_cons_zero, List.set_cons_succ]
      refine early_take (i := 21) 131 (ptr R) rfl rfl (by kernel_rfl) (by kernel_rfl) (by kernel_rfl) (by kernel_rfl) rfl (fun _ _ _ h => h) (fun w' hw' => by go_simp) S3 ?_
      simp only [Act.put, List.setIfInBounds_toArray, List.set_cons_zero, List.set_cons_succ]
      refine early_take (i := 22) 132 (.pointer (some ⟨R, 9, none⟩)) rfl rfl (by kernel_rfl) (by kernel_rfl) (by kernel_rfl) (by kernel_rfl) rfl (fun _ _ _ h => h) (fun w' hw' => by go_simp) S3 ?_
      simp only [Act.put, List.setIfInBounds_toArray, List.set_cons_zero, List.set_cons_succ]
      refine early_take (i := 23) 133 (ptr P.a) rfl rfl (by kernel_rfl) (by kernel_rfl) (by kernel_rfl) (by kernel_rfl) rfl (fun _ _ _ h => h) (fun w' hw' => by obtain ⟨k1, k2⟩ := hw'; go_simp) S3 ?_
      simp only [Act.put, List.setIfInBounds_toArray, List.set_cons_zero, List.set_cons_succ]
      refine early_only (i := 24) (by kernel_rfl) rfl (fun K hK => ?_)
      simp only [opWp, List.getElem?_toArray, List.getElem?_cons_succ, List.getElem?_cons_zero]
      have HN3 := Lib.hid L14.out.sys.rg.arr.wf.n
      have CAN := Lib.hid (show s3.can = 10 by unfold AS.can; rw [if_neg (by rw [C13.out.whole]; simp), if_pos C13.out.stale])
      go_simp
      go_at_call 24
      refine (Mend_not 0 (by have := HN3.out; omega) L14.out.sys.rg.arr (by rw [CAN.out]; decide)).mono ?_
      rintro e w15 ⟨rfl, hbl⟩
      rw [CAN.out]
      have L15 := Lib.hid (L14.out.up hbl)
      have S4 : (fun w' : World => w'.cell? ⟨R, 9, none⟩ = some (ptr P.a) ∧ w'.rangeAt R 0 s1.sh) w15 := ⟨L15.out.sys.rg.rig.cell 9, by have h1 := L15.out.sys.range; have h2 := SM13.out; unfold Same at h2; rw [h2] at h1; exact h1⟩
      clear hbl L14
      refine hK _ _ (fun _ => S4) ?_
      clear S3
      refine early_take (i := 25) 135 (.bool false) rfl rfl (by kernel_rfl) (by kernel_rfl) (by kernel_rfl) (by kernel_rfl) rfl (fun _ _ _ h => h) (fun w' hw' => by go_simp) S4 ?_
      simp only [Act.put, List.setIfInBounds_toArray, List.set_cons_zero, List.set_cons_succ]
      refine early_take (i := 26) 136 (.bool false) rfl rfl (by kernel_rfl) (by kernel_rfl) (by kernel_rfl) (by kernel_rfl) rfl (fun _ _ _ h => h) (fun w' hw' => by go_simp) S4 ?_
      simp only [Act.put, List.setIfInBounds_toArray, List.set_cons_zero, List.set_cons_succ]
      refine early_done (by kernel_rfl) ?_
      clear S4 CAN
      have NB3 := Lib.hid (show s1.b.toNat = s3.b.toNat by rw [SM13.out.b])
      have N3 := Lib.hid (show (s3.b.toNat : Int) = s3.b by have := L15.out.sys.rg.arr.wf.small.hb; omega)
      have b483 := Lib.hid L15.out.sys.rg.arr.wf.small.hb
      rw [NB3.out] at R0 R1
      clear NB b48 NB3 SM13
      have SL := Lib.hid L15.out.sys.rg.arr.wf.less.2
      have L15' := Lib.hid (show Lw w2.heap.size w2 w15 R q cap P O3 (s3.tick s3.u) hb H1 from L15.out)
      have r7 : w15.cell? ⟨R, 7, none⟩ = some (.slice (some ⟨q, 0, none⟩) s3.M cap) := L15.out.cells.2.2.1
      have hd := L15.out.sys.rg.row.2 k K13.out
      have m2 : (k : Int) < (s3.M : Int) := by have := K13.out; omega
      go_wp2_with fail
      refine (read_sys k C13.out K13.out 0 s3.u (by have := SL.out; omega) L15'.out (by have := U13.out; omega)).mono ?_
      rintro e w16 ⟨v, rfl, hr, k1, k2⟩
      rw [R0.out] at hr
      obtain ⟨Aa, ca, rfl, ha, _, hlta⟩ := own_form hr
      rw [List.length_replicate] at ha ⊢
      have HA := Lib.hid ha
      have L16 := Lib.hid k1
      have NA := Lib.hid (show ∀ x, Aa = some x → ¬ O3 x.block from fun x hx => (L15'.out.sys.new _ (hlta x hx).1).1)
      clear hr k1 k2 ha hlta r7 hd L15 L15'
      have r7 : w16.cell? ⟨R, 7, none⟩ = some (.slice (some ⟨q, 0, none⟩) s3.M cap) := L16.out.cells.2.2.1
      have hd := L16.out.sys.rg.row.2 k K13.out
      go_wp2_with fail
      refine (read_sys k C13.out K13.out 1 (s3.u + 1) (by have h1 := L16.out.sys.rg.arr.wf.sect; have h2 := L16.out.sys.rg.arr.wf.some_; have h3 := L16.out.sys.rg.arr.wf.n; unfold AS.N at h3; have h4 : ((s3.tick (s3.u + 1)).S : Int) = (s3.S : Int) := rfl; omega) L16.out (by have := U13.out; omega)).mono ?_
      rintro e w17 ⟨v, rfl, hr, k1, k2⟩
      rw [R1.out] at hr
      obtain ⟨Ab, cb, rfl, hb', _, _⟩ := own_form hr
      rw [List.length_replicate] at hb' ⊢
      have HB := Lib.hid hb'
      have HA2 := Lib.hid (HA.out.but k2 NA.out)
      have L17 := Lib.hid k1
      clear hr k1 k2 hb' r7 hd L16 HA NA m2
      obtain ⟨r0, r1, r2, r3, r4, r5⟩ := L17.out.sys.shape
      have q0 : w17.cell? ⟨R, 0, none⟩ = some (.int .i64 (s3.M : Int)) := r0
      have q1 : w17.cell? ⟨R, 1, none⟩ = some (.int .i64 s3.b) := r1
      have q2 : w17.cell? ⟨R, 2, none⟩ = some (.int .i64 s3.g) := r2
      have q3 : w17.cell? ⟨R, 3, none⟩ = some (.int .i64 s3.s) := r3
      have q4 : w17.cell? ⟨R, 4, none⟩ = some (.int .i64 s3.n) := r4
      have q5 : w17.cell? ⟨R, 5, none⟩ = some (.int .i64 s3.l) := r5
      clear r0 r1 r2 r3 r4 r5
      go_wp2_with fail
      refine (Block_any s3.M s3.b s3.g s3.s s3.n s3.l s3.b.toNat N3.out.symm (by have := b483.out; omega) 5#8 _ rfl w17).mono ?_
      rintro e w18 ⟨B5, rfl, hown, hbl⟩
      have L18 := Lib.hid (L17.out.up hbl)
      have HA3 := Lib.hid (HA2.out.below hbl)
      have HB3 := Lib.hid (HB.out.below hbl)
      have H5' := Lib.hid (own_slice hown).1
      clear hown hbl L17 HA2 HB q0 q1 q2 q3 q4 q5
      go_wp2_with fail
      refine (equal_any Aa (some ⟨B5, 0, none⟩) s3.b.toNat s3.b.toNat ca s3.b.toNat _ _ w18 (by have := b483.out; omega) (by have := b483.out; omega) HA3.out H5'.out).mono ?_
      rintro e w19 ⟨rfl, m19, rfl⟩
      rw [decide_eq_true (show List.replicate s3.b.toNat 5#8 = List.replicate s3.b.toNat 5#8 from rfl)]
      have L19 := Lib.hid (L18.out.drewN m19)
      have HB4 := Lib.hid (HB3.out.drewN m19)
      clear L18 HA3 HB3 H5'
      generalize w18.drewN m19 = w19 at *
      obtain ⟨r0, r1, r2, r3, r4, r5⟩ := L19.out.sys.shape
      have q0 : w19.cell? ⟨R, 0, none⟩ = some (.int .i64 (s3.M : Int)) := r0
      have q1 : w19.cell? ⟨R, 1, none⟩ = some (.int .i64 s3.b) := r1
      have q2 : w19.cell? ⟨R, 2, none⟩ = some (.int .i64 s3.g) := r2
      have q3 : w19.cell? ⟨R, 3, none⟩ = some (.int .i64 s3.s) := r3
      have q4 : w19.cell? ⟨R, 4, none⟩ = some (.int .i64 s3.n) := r4
      have q5 : w19.cell? ⟨R, 5, none⟩ = some (.int .i64 s3.l) := r5
      clear r0 r1 r2 r3 r4 r5
      go_wp2_with fail
      refine (Block_any s3.M s3.b s3.g s3.s s3.n s3.l s3.b.toNat N3.out.symm (by have := b483.out; omega) 9#8 _ rfl w19).mono ?_
      rintro e w20 ⟨B9, rfl, hown, hbl⟩
      have L20 := Lib.hid (L19.out.up hbl)
      have HB5 := Lib.hid (HB4.out.below hbl)
      have H9' := Lib.hid (own_slice hown).1
      clear hown hbl L19 HB4 q0 q1 q2 q3 q4 q5
      go_wp2_with fail
      refine (equal_any Ab (some ⟨B9, 0, none⟩) s3.b.toNat s3.b.toNat cb s3.b.toNat _ _ w20 (by have := b483.out; omega) (by have := b483.out; omega) HB5.out H9'.out).mono ?_
      rintro e w21 ⟨rfl, m21, rfl⟩
      rw [decide_eq_true (show List.replicate s3.b.toNat 9#8 = List.replicate s3.b.toNat 9#8 from rfl)]
      have L21 := Lib.hid (L20.out.drewN m21)
      clear L20 HB5 H9'
      generalize w20.drewN m21 = w21 at *
      have hM3 := L21.out.sys.rg.arr.many
      have hM3' : 3 ≤ (s3.M : Int) ∧ (s3.M : Int) ≤ 5 := hM3
      obtain ⟨oo, hoo⟩ : ∃ oo, other % ((s3.M : Int) - 1) = oo := ⟨_, rfl⟩
      have OO := Lib.hid hoo
      have o0 : 0 ≤ oo ∧ oo < (s3.M : Int) - 1 := by rw [← hoo]; exact ⟨Int.emod_nonneg _ (by omega), Int.emod_lt_of_pos _ (by omega)⟩
      obtain ⟨k2, hk2⟩ : ∃ k2 : Nat, ((k : Int) + 1 + oo) % (s3.M : Int) = (k2 : Int) := ⟨(((k : Int) + 1 + oo) % (s3.M : Int)).toNat, by have := Int.emod_nonneg ((k : Int) + 1 + oo) (show (s3.M : Int) ≠ 0 by omega); omega⟩
      have K2 := Lib.hid hk2
      have KL := Lib.hid (show k2 < s3.M by have := Int.emod_lt_of_pos ((k : Int) + 1 + oo) (show 0 < (s3.M : Int) by omega); omega)
      have KK := Lib.hid (show (k : Int) < (s3.M : Int) from by have := K13.out; omega)
      clear hoo hk2 hM3
      go_wp2_with fail
      have S0 : (fun w' : World => w'.cell? ⟨R, 7, none⟩ = some (.slice (some ⟨q, 0, none⟩) s3.M cap) ∧ w'.cell? ⟨R, 0, none⟩ = some (.int .i64 (s3.M : Int)) ∧ ∀ i, i < s3.M → w'.cell? ⟨q, i, none⟩ = some (ptr (P.g i))) w21.drew := ⟨L21.out.cells.2.2.1, L21.out.cells.1, L21.out.sys.rg.row.2⟩
      refine wp_region_early (fun w' : World => w'.cell? ⟨R, 7, none⟩ = some (.slice (some ⟨q, 0, none⟩) s3.M cap) ∧ w'.cell? ⟨R, 0, none⟩ = some (.int .i64 (s3.M : Int)) ∧ ∀ i, i < s3.M → w'.cell? ⟨q, i, none⟩ = some (ptr (P.g i))) (fun _ => true) (by kernel_rfl) ?_
      change wpEarly _ _ _ _ _ _ 25 (Array.replicate 25 false) _ w21.drew
      refine early_take (i := 0) 185 (ptr R) rfl rfl (by kernel_rfl) (by kernel_rfl) (by kernel_rfl) (by kernel_rfl) rfl (fun _ _ _ h => h) (fun w' hw' => by go_simp) S0 ?_
      simp only [Act.put, List.setIfInBounds_toArray, List.set_cons_zero, List.set_cons_succ]
      refine early_take (i := 1) 186 (ptr R) rfl rfl (by kernel_rfl) (by kernel_rfl) (by kernel_rfl) (by kernel_rfl) rfl (fun _ _ _ h => h) (fun w' hw' => by go_simp) S0 ?_
      simp only [Act.put, List.setIfInBounds_toArray, List.set_cons_zero, List.set_cons_succ]
      refine early_take (i := 2) 187 (.pointer (some ⟨R, 7, none⟩)) rfl rfl (by kernel_rfl) (by kernel_rfl) (by kernel_rfl) (by kernel_rfl) rfl (fun _ _ _ h => h) (fun w' hw' => by go_simp) S0 ?_
      simp only [Act.put, List.setIfInBounds_toArray, List.set_cons_zero, List.set_cons_succ]
      refine early_take (i := 3) 188 (.slice (some ⟨q, 0, none⟩) s3.M cap) rfl rfl (by kernel_rfl) (by kernel_rfl) (by kernel_rfl) (by kernel_rfl) rfl (fun _ _ _ h => h) (fun w' hw' => by obtain ⟨k3, k4, k5⟩ := hw'; go_simp) S0 ?_
      simp only [Act.put, List.setIfInBounds_toArray, List.set_cons_zero, List.set_cons_succ]
      refine early_take (i := 4) 189 (.int .i64 (k : Int)) rfl rfl (by kernel_rfl) (by kernel_rfl) (by kernel_rfl) (by kernel_rfl) rfl (fun _ _ _ h => h) (fun w' hw' => by go_simp) S0 ?_
      simp only [Act.put, List.setIfInBounds_toArray, List.set_cons_zero, List.set_cons_succ]
      refine early_take (i := 5) 190 (.int .i64 ((k : Int) + 1)) rfl rfl (by kernel_rfl) (by kernel_rfl) (by kernel_rfl) (by kernel_rfl) rfl (fun _ _ _ h => h) (fun w' hw' => by have e1 : IntKind.i64.wrap ((k : Int) + 1) = (k : Int) + 1 := wrap_of (by omega) (by have := KK.out; omega); go_simp) S0 ?_
      simp only [Act.put, List.setIfInBounds_toArray, List.set_cons_zero, List.set_cons_succ]
      refine early_take (i := 6) 191 (.int .u8 other) rfl rfl (by kernel_rfl) (by kernel_rfl) (by kernel_rfl) (by kernel_rfl) rfl (fun _ _ _ h => h) (fun w' hw' => by go_simp) S0 ?_
      simp only [Act.put, List.setIfInBounds_toArray, List.set_cons_zero, List.set_cons_succ]
      refine early_take (i := 7) 192 (.int .i64 other) rfl rfl (by kernel_rfl) (by kernel_rfl) (by kernel_rfl) (by kernel_rfl) rfl (fun _ _ _ h => h) (fun w' hw' => by have e1 : IntKind.i64.wrap other = other := wrap_of (by omega) (by omega); go_simp) S0 ?_
      simp only [Act.put, List.setIfInBounds_toArray, List.set_cons_zero, List.set_cons_succ]
      refine early_take (i := 8) 193 (ptr R) rfl rfl (by kernel_rfl) (by kernel_rfl) (by kernel_rfl) (by kernel_rfl) rfl (fun _ _ _ h => h) (fun w' hw' => by go_simp) S0 ?_
      simp only [Act.put, List.setIfInBounds_toArray, List.set_cons_zero, List.set_cons_succ]
      refine early_take (i := 9) 194 (ptr R) rfl rfl (by kernel_rfl) (by kernel_rfl) (by kernel_rfl) (by kernel_rfl) rfl (fun _ _ _ h => h) (fun w' hw' => by go_simp) S0 ?_
      simp only [Act.put, List.setIfInBounds_toArray, List.set_cons_zero, List.set_cons_succ]
      refine early_take (i := 10) 195 (ptr R) rfl rfl (by kernel_rfl) (by kernel_rfl) (by kernel_rfl) (by kernel_rfl) rfl (fun _ _ _ h => h) (fun w' hw' => by go_simp) S0 ?_
      simp only [Act.put, List.setIfInBounds_toArray, List.set_cons_zero, List.set_cons_succ]
      refine early_take (i := 11) 196 (ptr R) rfl rfl (by kernel_rfl) (by kernel_rfl) (by kernel_rfl) (by kernel_rfl) rfl (fun _ _ _ h => h) (fun w' hw' => by go_simp) S0 ?_
      simp only [Act.put, List.setIfInBounds_toArray, List.set_cons_zero, List.set_cons_succ]
      refine early_take (i := 12) 197 (.int .i64 (s3.M : Int)) rfl rfl (by kernel_rfl) (by kernel_rfl) (by kernel_rfl) (by kernel_rfl) rfl (fun _ _ _ h => h) (fun w' hw' => by obtain ⟨k3, k4, k5⟩ := hw'; go_simp) S0 ?_
      simp only [Act.put, List.setIfInBounds_toArray, List.set_cons_zero, List.set_cons_succ]
      refine early_take (i := 13) 198 (.int .i64 ((s3.M : Int) - 1)) rfl rfl (by kernel_rfl) (by kernel_rfl) (by kernel_rfl) (by kernel_rfl) rfl (fun _ _ _ h => h) (fun w' hw' => by have e1 : IntKind.i64.wrap ((s3.M : Int) - 1) = (s3.M : Int) - 1 := wrap_of (by omega) (by omega); go_simp) S0 ?_
      simp only [Act.put, List.setIfInBounds_toArray, List.set_cons_zero, List.set_cons_succ]
      refine early_take (i := 14) 199 (.int .i64 oo) rfl rfl (by kernel_rfl) (by kernel_rfl) (by kernel_rfl) (by kernel_rfl) rfl (fun _ _ _ h => h) (fun w' hw' => by have e1 : other.tmod ((s3.M : Int) - 1) = oo := (by rw [Int.tmod_eq_emod_of_nonneg ho.1]; exact OO.out); have e2 : ¬ (s3.M : Int) - 1 = 0 := (by omega); go_simp) S0 ?_
      simp only [Act.put, List.setIfInBounds_toArray, List.set_cons_zero, List.set_cons_succ]
      refine early_take (i := 15) 200 (.int .i64 ((k : Int) + 1 + oo)) rfl rfl (by kernel_rfl) (by kernel_rfl) (by kernel_rfl) (by kernel_rfl) rfl (fun _ _ _ h => h) (fun w' hw' => by have e1 : IntKind.i64.wrap ((k : Int) + 1 + oo) = (k : Int) + 1 + oo := wrap_of (by omega) (by have := KK.out; omega); go_simp) S0 ?_
      simp only [Act.put, List.setIfInBounds_toArray, List.set_cons_zero, List.set_cons_succ]
      refine early_take (i := 16) 201 (ptr R) rfl rfl (by kernel_rfl) (by kernel_rfl) (by kernel_rfl) (by kernel_rfl) rfl (fun _ _ _ h => h) (fun w' hw' => by go_simp) S0 ?_
      simp only [Act.put, List.setIfInBounds_toArray, List.set_cons_zero, List.set_cons_succ]
      refine early_take (i := 17) 202 (ptr R) rfl rfl (by kernel_rfl) (by kernel_rfl) (by kernel_rfl) (by kernel_rfl) rfl (fun _ _ _ h => h) (fun w' hw' => by go_simp) S0 ?_
      simp only [Act.put, List.setIfInBounds_toArray, List.set_cons_zero, List.set_cons_succ]
      refine early_take (i := 18) 203 (ptr R) rfl rfl (by kernel_rfl) (by kernel_rfl) (by kernel_rfl) (by kernel_rfl) rfl (fun _ _ _ h => h) (fun w' hw' => by go_simp) S0 ?_
      simp only [Act.put, List.setIfInBounds_toArray, List.set_cons_zero, List.set_cons_succ]
      refine early_take (i := 19) 204 (ptr R) rfl rfl (by kernel_rfl) (by kernel_rfl) (by kernel_rfl) (by kernel_rfl) rfl (fun _ _ _ h => h) (fun w' hw' => by go_simp) S0 ?_
      simp only [Act.put, List.setIfInBounds_toArray, List.set_cons_zero, List.set_cons_succ]
      refine early_take (i := 20) 205 (.int .i64 (s3.M : Int)) rfl rfl (by kernel_rfl) (by kernel_rfl) (by kernel_rfl) (by kernel_rfl) rfl (fun _ _ _ h => h) (fun w' hw' => by obtain ⟨k3, k4, k5⟩ := hw'; go_simp) S0 ?_
      simp only [Act.put, List.setIfInBounds_toArray, List.set_cons_zero, List.set_cons_succ]
      refine early_take (i := 21) 206 (.int .i64 (k2 : Int)) rfl rfl (by kernel_rfl) (by kernel_rfl) (by kernel_rfl) (by kernel_rfl) rfl (fun _ _ _ h => h) (fun w' hw' => by have e1 : ((k : Int) + 1 + oo).tmod (s3.M : Int) = (k2 : Int) := (by rw [Int.tmod_eq_emod_of_nonneg (by omega)]; exact K2.out); have e2 : ¬ s3.M = 0 := (by omega); go_simp) S0 ?_
      simp only [Act.put, List.setIfInBounds_toArray, List.set_cons_zero, List.set_cons_succ]
      refine early_take (i := 22) 207 (.pointer (some ⟨q, k2, none⟩)) rfl rfl (by kernel_rfl) (by kernel_rfl) (by kernel_rfl) (by kernel_rfl) rfl (fun _ _ _ h => h) (fun w' hw' => by have m1 := KL.out; have m2 : (k2 : Int) < (s3.M : Int) := (by omega); go_simp) S0 ?_
      simp only [Act.put, List.setIfInBounds_toArray, List.set_cons_zero, List.set_cons_succ]
      refine early_take (i := 23) 208 (ptr (P.g k2)) rfl rfl (by kernel_rfl) (by kernel_rfl) (by kernel_rfl) (by kernel_rfl) rfl (fun _ _ _ h => h) (fun w' hw' => by obtain ⟨k3, k4, k5⟩ := hw'; have k6 := k5 k2 KL.out; go_simp) S0 ?_
      simp only [Act.put, List.setIfInBounds_toArray, List.set_cons_zero, List.set_cons_succ]
      refine early_only (i := 24) (by kernel_rfl) rfl (fun K hK => ?_)
      simp only [opWp, List.getElem?_toArray, List.getElem?_cons_succ, List.getElem?_cons_zero]
      go_simp
      go_at_call 33
      refine (fail_sys (s := s3.tick (s3.u + 1 + 1)) KL.out L21.out.drew.sys).mono ?_
      rintro e w22 ⟨rfl, k1, k3, k4⟩
      have L22 := Lib.hid (L21.out.drew.keep (Same.hurt (s3.tick (s3.u + 1 + 1)) k2 { (s3.tick (s3.u + 1 + 1)).d k2 with dead := true }) k1 k4)
      have Q22 := Lib.hid (show Kept0 k2 ((s3.tick (s3.u + 1 + 1)).hurt k2 { (s3.tick (s3.u + 1 + 1)).d k2 with dead := true }) H1 from
        ⟨(show Sound k2 (s3.tick (s3.u + 1 + 1)) from ⟨(C13.out k2).whole, (C13.out k2).stale, (C13.out k2).live⟩).hurt _, inv_hurt (s := s3.tick (s3.u + 1 + 1)) (m := k2) (show Inv (s3.tick (s3.u + 1 + 1)) H1 from I13.out) rfl⟩)
      have U22 := Lib.hid (show ((s3.tick (s3.u + 1 + 1)).hurt k2 { (s3.tick (s3.u + 1 + 1)).d k2 with dead := true }).u ≤ 30000 by show s3.u + 1 + 1 ≤ 30000; have := U13.out; omega)
      have S1 : (fun w' : World => w'.cell? ⟨R, 7, none⟩ = some (.slice (some ⟨q, 0, none⟩) s3.M cap) ∧ w'.cell? ⟨R, 0, none⟩ = some (.int .i64 (s3.M : Int)) ∧ ∀ i, i < s3.M → w'.cell? ⟨q, i, none⟩ = some (ptr (P.g i))) w22 := ⟨L22.out.cells.2.2.1, L22.out.cells.1, L22.out.sys.rg.row.2⟩
      clear k1 k3 k4
      refine hK _ _ (fun _ => S1) ?_
      clear S0
      refine early_done (by kernel_rfl) ?_
      clear S1
      go_wp2_with fail
      refine (holds_any false (Kept0 k2) read_kept L22.out Q22.out (by have := U22.out; omega)).mono ?_
      rintro e w23 ⟨rfl, s23, k1, k2', k3, k4, k5⟩
      have B23 := Lib.hid (B2.out.trans (k1.sys.below.mono B2.out.size))
      clear k1 k2' k3 k4 k5
      go_wp2
      go_ret
      exact ⟨rfl, B23.out⟩
end Go.Proofs.Ytapbphkhbhcdkaa
