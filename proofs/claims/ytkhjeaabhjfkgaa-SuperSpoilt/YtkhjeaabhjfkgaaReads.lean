/-
  THE WALK OF reads: the document's own reading of bytes as a label.
-/
import Derived.Test.YtkhjeaabhjfkgaaReadAt
import Derived.Deep.CutRange
import Derived.Deep.CutBlock
import Derived.Deep.DeepCutAuto
namespace Go.Proofs.Ytkhjeaabhjfkgaa
open Go.RowKit
set_option linter.unusedVariables false
set_option maxRecDepth 100000

/-- The bytes' header in the first block, the answer in the second. -/
structure Rds (w0 w : World) (v : Value) (A : Option Addr) (n : Nat) (L : List (BitVec 8)) : Prop where
  box : At w w0.heap.size #[v] 30
  res : At w (w0.heap.size + 1) Lab.zero.cs 29
  has : Has w A n L
  bel : Below w0.heap.size w0 w
theorem Rds.up {w0 w w' : World} {v : Value} {A : Option Addr} {n : Nat} {L : List (BitVec 8)} (h : Rds w0 w v A n L) (hb : Below w.heap.size w w') : Rds w0 w' v A n L :=
  ⟨h.box.below hb h.box.lt, h.res.below hb h.res.lt, h.has.below hb, h.bel.trans (hb.mono h.bel.size)⟩
theorem Rds.start {w : World} {A : Option Addr} {n : Nat} {L : List (BitVec 8)} (v : Value) (h : Has w A n L) : Rds w ((w.alloc (.cells #[v] 30)).alloc (.cells #[.int .i64 0, .int .i64 0, .int .i64 0, .int .i64 0, .int .i64 0, .int .i64 0, .int .i64 0] 29)) v A n L :=
  ⟨(At.new _ _ rfl).alloc _, At.new _ _ (by simp), h.below (((Below.refl _ _).alloc (Nat.le_refl _) _).alloc (by simp) _), ((Below.refl _ _).alloc (Nat.le_refl _) _).alloc (by simp) _⟩
theorem Rds.drewN {w0 w : World} {v : Value} {A : Option Addr} {n : Nat} {L : List (BitVec 8)} (h : Rds w0 w v A n L) (k : Nat) : Rds w0 (w.drewN k) v A n L := ⟨h.box, h.res, h.has, below_drewN h.bel k⟩
theorem Rds.done {w0 w w' : World} {v : Value} {A : Option Addr} {n : Nat} {L : List (BitVec 8)} (h : Rds w0 w v A n L) (hb : But (fun k => k = w0.heap.size + 1) w w') : Below w0.heap.size w0 w' :=
  h.bel.trans (hb.below (fun k e => by omega) h.bel.size)

set_option maxHeartbeats 400000 in
theorem reads_size (A : Option Addr) (n c : Nat) (L : List (BitVec 8)) (w : World) (hn : n < 22) (h : Has w A n L) : Calls Try.prog 14 #[.slice A n c] w (Answers w Lab.zero 6) := by
  have T := Lib.hid (Rds.start (.slice A n c) h)
  clear h
  go_enter Try.func14, Try.ntmps14
  go_wp2
  refine bodyPost_ret (results_cell_slot (p := 2) (u := 3) (ty := 29) rfl _ _ (w.heap.size + 1) Lab.zero.cs _ rfl T.out.res Try.underlying29 size29) rfl ?_
  exact ⟨rfl, T.out.bel⟩

set_option maxHeartbeats 800000 in
theorem reads_sum (ab off q c : Nat) (L : List (BitVec 8)) (w : World) (hc : q + 22 ≤ c) (hcm : c ≤ 9223372036854775807) (hn6 : q + 22 ≤ 1000000) (h : Has w (some ⟨ab, off, none⟩) (q + 22) L) (HE : Hid (¬ L.take 22 = sealL (L.take 18))) :
    Calls Try.prog 14 #[(.slice (some ⟨ab, off, none⟩) (q + 22) c)] w (Answers w Lab.zero 5) := by
  have T := Lib.hid (Rds.start (.slice (some ⟨ab, off, none⟩) (q + 22) c) h)
  clear h
  go_enter Try.func14, Try.ntmps14
  go_wp2_with fail
  obtain ⟨u1, hu1⟩ : ∃ u, u = (((w.alloc (.cells #[(.slice (some ⟨ab, off, none⟩) (q + 22) c)] 30)).alloc (.cells #[.int .i64 0, .int .i64 0, .int .i64 0, .int .i64 0, .int .i64 0, .int .i64 0, .int .i64 0] 29))).drew := ⟨_, rfl⟩
  have T := Lib.hid (show Rds w u1 (.slice (some ⟨ab, off, none⟩) (q + 22) c) (some ⟨ab, off, none⟩) (q + 22) L by rw [hu1]; exact T.out.drewN 1)
  refine wp_region_early (fun w' : World => Rds w w' (.slice (some ⟨ab, off, none⟩) (q + 22) c) (some ⟨ab, off, none⟩) (q + 22) L) (fun _ => true) (by kernel_rfl) ?_
  change wpEarly _ _ _ _ _ _ 7 (Array.replicate 7 false) _ (((w.alloc (.cells #[(.slice (some ⟨ab, off, none⟩) (q + 22) c)] 30)).alloc (.cells #[.int .i64 0, .int .i64 0, .int .i64 0, .int .i64 0, .int .i64 0, .int .i64 0, .int .i64 0] 29))).drew
  rw [← hu1]
  clear hu1
  refine early_take (i := 0) 13 (.slice (some ⟨ab, off, none⟩) (q + 22) c) rfl rfl (by kernel_rfl) (by kernel_rfl) (by kernel_rfl) (by kernel_rfl) rfl (fun _ _ _ h => h) (fun w' hw' => by have hc := hw'.box.cell 0; go_simp) T.out ?_
  simp only [Act.put, List.setIfInBounds_toArray, List.set_cons_zero, List.set_cons_succ]
  refine early_take (i := 1) 14 (.slice (some ⟨ab, off, none⟩) 22 c) rfl rfl (by kernel_rfl) (by kernel_rfl) (by kernel_rfl) (by kernel_rfl) rfl (fun _ _ _ h => h) (fun w' hw' => by go_simp; intro h; exfalso; omega) T.out ?_
  simp only [Act.put, List.setIfInBounds_toArray, List.set_cons_zero, List.set_cons_succ]
  refine early_take (i := 2) 15 (.slice (some ⟨ab, off, none⟩) (q + 22) c) rfl rfl (by kernel_rfl) (by kernel_rfl) (by kernel_rfl) (by kernel_rfl) rfl (fun _ _ _ h => h) (fun w' hw' => by have hc := hw'.box.cell 0; go_simp) T.out ?_
  simp only [Act.put, List.setIfInBounds_toArray, List.set_cons_zero, List.set_cons_succ]
  refine early_take (i := 3) 16 (.slice (some ⟨ab, off, none⟩) 18 c) rfl rfl (by kernel_rfl) (by kernel_rfl) (by kernel_rfl) (by kernel_rfl) rfl (fun _ _ _ h => h) (fun w' hw' => by go_simp; intro h; exfalso; omega) T.out ?_
  simp only [Act.put, List.setIfInBounds_toArray, List.set_cons_zero, List.set_cons_succ]
  refine early_only (i := 4) (by kernel_rfl) rfl (fun K hK => ?_)
  simp only [opWp, List.getElem?_toArray, List.getElem?_cons_succ, List.getElem?_cons_zero]
  go_simp
  go_at_call 13
  refine (sealed_any _ 18 c (L.take 18) u1 (by omega) (T.out.has.take 18 (by omega))).mono ?_
  rintro e u2 ⟨v2, rfl, hf2⟩
  obtain ⟨A2, c2, rfl, _, _, _, hh2, _⟩ := own_slice hf2.1
  have T := Lib.hid (T.out.up hf2.2)
  have H2 := Lib.hid hh2
  clear hf2 hh2
  refine hK _ _ (fun _ => T.out) ?_
  refine early_only (i := 5) (by kernel_rfl) rfl (fun K hK => ?_)
  simp only [opWp, List.getElem?_toArray, List.getElem?_cons_succ, List.getElem?_cons_zero]
  go_simp
  go_at_call 11
  refine (equal_any _ A2 22 22 c c2 (L.take 22) (sealL (L.take 18)) u2 (by omega) (by omega) (T.out.has.take 22 (by omega)) H2.out).mono ?_
  rintro e u3 ⟨rfl, k3, hw3⟩
  rw [decide_eq_false HE.out]
  have T := Lib.hid (show Rds w u3 (.slice (some ⟨ab, off, none⟩) (q + 22) c) (some ⟨ab, off, none⟩) (q + 22) L by rw [hw3]; exact T.out.drewN k3)
  clear hw3 H2
  refine hK _ _ (fun _ => T.out) ?_
  refine early_take (i := 6) 19 (.bool true) rfl rfl (by kernel_rfl) (by kernel_rfl) (by kernel_rfl) (by kernel_rfl) rfl (fun _ _ _ h => h) (fun w' hw' => by go_simp) T.out ?_
  simp only [Act.put, List.setIfInBounds_toArray, List.set_cons_zero, List.set_cons_succ]
  refine early_done (by kernel_rfl) ?_
  go_wp2_with (refine wpList_store_part rfl 29 (.tmp 2) (.tmp 20) rfl (w.heap.size + 1) 0 29 Lab.zero.cs Lab.zero.cs rfl rfl T.out.res size29 (by simp [cs_size]) (cs_all _) ?_; intro w9 hat9 hb9; rw [part_lab] at hat9; have R := Lib.hid hat9; have BB := Lib.hid (T.out.done hb9); clear hat9 hb9)
  refine bodyPost_ret (results_cell_slot (p := 2) (u := 3) (ty := 29) rfl _ _ (w.heap.size + 1) Lab.zero.cs _ rfl R.out Try.underlying29 size29) rfl ?_
  exact ⟨rfl, BB.out⟩

set_option maxHeartbeats 2000000 in
theorem reads_form (ab off q c : Nat) (L : List (BitVec 8)) (w : World) (hc : q + 22 ≤ c) (hcm : c ≤ 9223372036854775807) (hn6 : q + 22 ≤ 1000000) (h : Has w (some ⟨ab, off, none⟩) (q + 22) L) (HE : Hid (L.take 22 = sealL (L.take 18))) (m b g s nv l k y : Nat) (HL : Hid (lab L = ⟨m, b, g, s, nv, l, k⟩)) (HF : Hid (fld L 0 4 = y)) :
    Calls Try.prog 14 #[(.slice (some ⟨ab, off, none⟩) (q + 22) c)] w fun e w' => (good L → Answers w ⟨m, b, g, s, nv, l, k⟩ 0 e w') ∧ (¬ good L → Answers w Lab.zero 4 e w') := by
  have HG := Lib.hid (show good L ↔ (y = 827540562 ∧ Ok (m : Int) b g s nv l ∧ k < m ∧ b = q + 22) ∧ None0 (L.drop 22) by
    unfold good
    rw [HL.out, HF.out, h.1]
    exact ⟨fun ⟨h1, h2, h3, h4, h5⟩ => ⟨⟨h1, h2, h3, h4⟩, h5⟩, fun ⟨⟨h1, h2, h3, h4⟩, h5⟩ => ⟨h1, h2, h3, h4, h5⟩⟩)
  obtain ⟨d, hd⟩ : ∃ d : Bool, (d = true ↔ (y = 827540562 ∧ Ok (m : Int) b g s nv l ∧ k < m ∧ b = q + 22)) := by
    by_cases hh : y = 827540562 ∧ Ok (m : Int) b g s nv l ∧ k < m ∧ b = q + 22
    · exact ⟨true, fun _ => hh, fun _ => rfl⟩
    · exact ⟨false, fun e => (by cases e), fun e => (hh e).elim⟩
  have HD := Lib.hid hd
  clear hd
  have E1 := Lib.hid (show fld L 5 1 = m from congrArg Lab.m HL.out)
  have E2 := Lib.hid (show fld L 6 2 = b from congrArg Lab.b HL.out)
  have E3 := Lib.hid (show fld L 8 2 = g from congrArg Lab.g HL.out)
  have E4 := Lib.hid (show fld L 10 2 = s from congrArg Lab.s HL.out)
  have E5 := Lib.hid (show fld L 12 2 = nv from congrArg Lab.n HL.out)
  have E6 := Lib.hid (show fld L 14 4 = l from congrArg Lab.l HL.out)
  have E7 := Lib.hid (show fld L 4 1 = k from congrArg Lab.k HL.out)
  have T := Lib.hid (Rds.start (.slice (some ⟨ab, off, none⟩) (q + 22) c) h)
  clear h
  go_enter Try.func14, Try.ntmps14
  go_wp2_with fail
  obtain ⟨u1, hu1⟩ : ∃ u, u = (((w.alloc (.cells #[(.slice (some ⟨ab, off, none⟩) (q + 22) c)] 30)).alloc (.cells #[.int .i64 0, .int .i64 0, .int .i64 0, .int .i64 0, .int .i64 0, .int .i64 0, .int .i64 0] 29))).drew := ⟨_, rfl⟩
  have T := Lib.hid (show Rds w u1 (.slice (some ⟨ab, off, none⟩) (q + 22) c) (some ⟨ab, off, none⟩) (q + 22) L by rw [hu1]; exact T.out.drewN 1)
  refine wp_region_early (fun w' : World => Rds w w' (.slice (some ⟨ab, off, none⟩) (q + 22) c) (some ⟨ab, off, none⟩) (q + 22) L) (fun _ => true) (by kernel_rfl) ?_
  change wpEarly _ _ _ _ _ _ 7 (Array.replicate 7 false) _ (((w.alloc (.cells #[(.slice (some ⟨ab, off, none⟩) (q + 22) c)] 30)).alloc (.cells #[.int .i64 0, .int .i64 0, .int .i64 0, .int .i64 0, .int .i64 0, .int .i64 0, .int .i64 0] 29))).drew
  rw [← hu1]
  clear hu1
  refine early_take (i := 0) 13 (.slice (some ⟨ab, off, none⟩) (q + 22) c) rfl rfl (by kernel_rfl) (by kernel_rfl) (by kernel_rfl) (by kernel_rfl) rfl (fun _ _ _ h => h) (fun w' hw' => by have hc := hw'.box.cell 0; go_simp) T.out ?_
  simp only [Act.put, List.setIfInBounds_toArray, List.set_cons_zero, List.set_cons_succ]
  refine early_take (i := 1) 14 (.slice (some ⟨ab, off, none⟩) 22 c) rfl rfl (by kernel_rfl) (by kernel_rfl) (by kernel_rfl) (by kernel_rfl) rfl (fun _ _ _ h => h) (fun w' hw' => by go_simp; intro h; exfalso; omega) T.out ?_
  simp only [Act.put, List.setIfInBounds_toArray, List.set_cons_zero, List.set_cons_succ]
  refine early_take (i := 2) 15 (.slice (some ⟨ab, off, none⟩) (q + 22) c) rfl rfl (by kernel_rfl) (by kernel_rfl) (by kernel_rfl) (by kernel_rfl) rfl (fun _ _ _ h => h) (fun w' hw' => by have hc := hw'.box.cell 0; go_simp) T.out ?_
  simp only [Act.put, List.setIfInBounds_toArray, List.set_cons_zero, List.set_cons_succ]
  refine early_take (i := 3) 16 (.slice (some ⟨ab, off, none⟩) 18 c) rfl rfl (by kernel_rfl) (by kernel_rfl) (by kernel_rfl) (by kernel_rfl) rfl (fun _ _ _ h => h) (fun w' hw' => by go_simp; intro h; exfalso; omega) T.out ?_
  simp only [Act.put, List.setIfInBounds_toArray, List.set_cons_zero, List.set_cons_succ]
  refine early_only (i := 4) (by kernel_rfl) rfl (fun K hK => ?_)
  simp only [opWp, List.getElem?_toArray, List.getElem?_cons_succ, List.getElem?_cons_zero]
  go_simp
  go_at_call 13
  refine (sealed_any _ 18 c (L.take 18) u1 (by omega) (T.out.has.take 18 (by omega))).mono ?_
  rintro e u2 ⟨v2, rfl, hf2⟩
  obtain ⟨A2, c2, rfl, _, _, _, hh2, _⟩ := own_slice hf2.1
  have T := Lib.hid (T.out.up hf2.2)
  have H2 := Lib.hid hh2
  clear hf2 hh2
  refine hK _ _ (fun _ => T.out) ?_
  refine early_only (i := 5) (by kernel_rfl) rfl (fun K hK => ?_)
  simp only [opWp, List.getElem?_toArray, List.getElem?_cons_succ, List.getElem?_cons_zero]
  go_simp
  go_at_call 11
  refine (equal_any _ A2 22 22 c c2 (L.take 22) (sealL (L.take 18)) u2 (by omega) (by omega) (T.out.has.take 22 (by omega)) H2.out).mono ?_
  rintro e u3 ⟨rfl, k3, hw3⟩
  rw [decide_eq_true HE.out]
  have T := Lib.hid (show Rds w u3 (.slice (some ⟨ab, off, none⟩) (q + 22) c) (some ⟨ab, off, none⟩) (q + 22) L by rw [hw3]; exact T.out.drewN k3)
  clear hw3 H2
  refine hK _ _ (fun _ => T.out) ?_
  refine early_take (i := 6) 19 (.bool false) rfl rfl (by kernel_rfl) (by kernel_rfl) (by kernel_rfl) (by kernel_rfl) rfl (fun _ _ _ h => h) (fun w' hw' => by go_simp) T.out ?_
  simp only [Act.put, List.setIfInBounds_toArray, List.set_cons_zero, List.set_cons_succ]
  refine early_done (by kernel_rfl) ?_
  go_wp2_with fail
  refine (at_any w.heap.size _ (q + 22) c L 4 1 u3 hn6 (by omega) (by omega) T.out.box T.out.has).mono ?_
  rintro e uq ⟨rfl, rfl⟩
  rw [E7.out]
  go_wp2_with fail
  refine (at_any w.heap.size _ (q + 22) c L 5 1 u3 hn6 (by omega) (by omega) T.out.box T.out.has).mono ?_
  rintro e uq ⟨rfl, rfl⟩
  rw [E1.out]
  go_wp2_with fail
  refine (at_any w.heap.size _ (q + 22) c L 6 2 u3 hn6 (by omega) (by omega) T.out.box T.out.has).mono ?_
  rintro e uq ⟨rfl, rfl⟩
  rw [E2.out]
  go_wp2_with fail
  refine (at_any w.heap.size _ (q + 22) c L 8 2 u3 hn6 (by omega) (by omega) T.out.box T.out.has).mono ?_
  rintro e uq ⟨rfl, rfl⟩
  rw [E3.out]
  go_wp2_with fail
  refine (at_any w.heap.size _ (q + 22) c L 10 2 u3 hn6 (by omega) (by omega) T.out.box T.out.has).mono ?_
  rintro e uq ⟨rfl, rfl⟩
  rw [E4.out]
  go_wp2_with fail
  refine (at_any w.heap.size _ (q + 22) c L 12 2 u3 hn6 (by omega) (by omega) T.out.box T.out.has).mono ?_
  rintro e uq ⟨rfl, rfl⟩
  rw [E5.out]
  go_wp2_with fail
  refine (at_any w.heap.size _ (q + 22) c L 14 4 u3 hn6 (by omega) (by omega) T.out.box T.out.has).mono ?_
  rintro e uq ⟨rfl, rfl⟩
  rw [E6.out]
  have T := Lib.hid (T.out.up ((Below.refl _ _).alloc (Nat.le_refl _) (.cells #[.int .i64 (m : Int), .int .i64 (b : Int), .int .i64 (g : Int), .int .i64 (s : Int), .int .i64 (nv : Int), .int .i64 (l : Int), .int .i64 (k : Int)] 29)))
  have PB := Lib.hid (At.new (w := u3) (g := u3.heap.size) #[.int .i64 (m : Int), .int .i64 (b : Int), .int .i64 (g : Int), .int .i64 (s : Int), .int .i64 (nv : Int), .int .i64 (l : Int), .int .i64 (k : Int)] 29 rfl)
  go_upto_region 7 with (fail)
  generalize u3.alloc (.cells #[.int .i64 (m : Int), .int .i64 (b : Int), .int .i64 (g : Int), .int .i64 (s : Int), .int .i64 (nv : Int), .int .i64 (l : Int), .int .i64 (k : Int)] 29) = U at *
  generalize u3.heap.size = P at *
  go_cut [6] (fun s6 wc => s6 = .bool d ∧ Rds w wc (.slice (some ⟨ab, off, none⟩) (q + 22) c) (some ⟨ab, off, none⟩) (q + 22) L ∧ At wc P #[.int .i64 (m : Int), .int .i64 (b : Int), .int .i64 (g : Int), .int .i64 (s : Int), .int .i64 (nv : Int), .int .i64 (l : Int), .int .i64 (k : Int)] 29)
  case first =>
    go_wp2_with fail
    refine (at_any w.heap.size _ (q + 22) c L 0 4 U hn6 (by omega) (by omega) T.out.box T.out.has).mono ?_
    rintro e uq ⟨rfl, rfl⟩
    rw [HF.out]
    have c0 := PB.out.cell 0; have c1 := PB.out.cell 1; have c2 := PB.out.cell 2; have c3 := PB.out.cell 3; have c4 := PB.out.cell 4; have c5 := PB.out.cell 5; have c6 := PB.out.cell 6
    by_cases h1 : y = 827540562
    · subst h1
      by_cases h2 : Ok (m : Int) b g s nv l
      · have H2 := Lib.hid h2
        clear h2
        go_wp2_with fail
        refine (may_ok (m : Int) b g s nv l H2.out _).mono ?_
        rintro e u4 ⟨rfl, hb4⟩
        have T := Lib.hid (T.out.up hb4)
        have PB := Lib.hid (PB.out.below hb4 PB.out.lt)
        clear hb4 c0 c1 c2 c3 c4 c5 c6
        have c0 := PB.out.cell 0; have c1 := PB.out.cell 1; have c6 := PB.out.cell 6; have cb := T.out.box.cell 0
        by_cases h3 : k < m
        · have H3 := Lib.hid h3
          have d3 : decide ((k : Int) < (m : Int)) = true := decide_eq_true (by omega)
          by_cases h4 : b = q + 22
          · have H4 := Lib.hid h4
            have d4 : ((b : Int) == ((q + 22 : Nat) : Int)) = true := by rw [h4]; simp
            have d4' : ((b : Int) == (q : Int) + 22) = true := by rw [h4]; simp
            obtain rfl : d = true := HD.out.2 (by refine ⟨?_, H2.out, H3.out, H4.out⟩; first | rfl | trivial)
            clear h3 h4
            go_wp2_with fail
            go_meet
            exact ⟨rfl, T.out, PB.out⟩
          · have H4 := Lib.hid h4
            have d4 : ((b : Int) == ((q + 22 : Nat) : Int)) = false := by simp; omega
            have d4' : ((b : Int) == (q : Int) + 22) = false := by simp; omega
            obtain rfl : d = false := Bool.eq_false_iff.2 (fun e => H4.out (HD.out.1 e).2.2.2)
            clear h3 h4
            go_wp2_with fail
            go_meet
            exact ⟨rfl, T.out, PB.out⟩
        · have H3 := Lib.hid h3
          have d3 : decide ((k : Int) < (m : Int)) = false := decide_eq_false (by omega)
          obtain rfl : d = false := Bool.eq_false_iff.2 (fun e => H3.out (HD.out.1 e).2.2.1)
          clear h3
          go_wp2_with fail
          go_meet
          exact ⟨rfl, T.out, PB.out⟩
      · have H2 := Lib.hid h2
        clear h2
        obtain rfl : d = false := Bool.eq_false_iff.2 (fun e => H2.out (HD.out.1 e).2.1)
        go_wp2_with fail
        refine (may_bad (m : Int) b g s nv l H2.out _).mono ?_
        rintro e u4 ⟨rfl, hb4⟩
        have T := Lib.hid (T.out.up hb4)
        have PB := Lib.hid (PB.out.below hb4 PB.out.lt)
        clear hb4 c0 c1 c2 c3 c4 c5 c6
        go_wp2_with fail
        go_meet
        exact ⟨rfl, T.out, PB.out⟩
    · have H1 := Lib.hid h1
      have d1 : ((y : Int) == 827540562) = false := by simp; omega
      obtain rfl : d = false := Bool.eq_false_iff.2 (fun e => H1.out (HD.out.1 e).1)
      clear h1 c0 c1 c2 c3 c4 c5 c6
      go_wp2_with fail
      go_meet
      exact ⟨rfl, T.out, PB.out⟩
  case rest =>
    obtain ⟨rfl, hT, hP⟩ := hcut
    have T := Lib.hid hT
    have PB := Lib.hid hP
    clear hT hP
    generalize wc = U2 at *
    have cb := T.out.box.cell 0
    go_upto_region 8 with (fail)
    go_cut [63, 64, 65] (fun s63 s64 s65 wd => ∃ A2 c2, s63 = .slice A2 q c2 ∧ s64 = .int .i64 (q : Int) ∧ s65 = .int .i64 0 ∧ Has U2 A2 q (L.drop 22) ∧ wd = U2)
    case first =>
      by_cases h22 : c = 22
      · subst h22
        obtain rfl : q = 0 := by omega
        have hl0 := Lib.hid (show L.drop 22 = [] from List.drop_eq_nil_of_le (by rw [T.out.has.1]; omega))
        go_wp2_with fail
        go_meet
        exact ⟨_, _, rfl, rfl, rfl, by rw [hl0.out]; exact Has.nil _ _, rfl⟩
      · have hdr := Lib.hid (show Has U2 (some ⟨ab, off + 22, none⟩) q (L.drop 22) by have := T.out.has.drop 22 (by omega); rw [show q + 22 - 22 = q by omega] at this; exact this)
        go_wp2_with fail
        go_meet
        exact ⟨_, _, rfl, rfl, rfl, hdr.out, rfl⟩
    case rest =>
      obtain ⟨A2, c2, rfl, rfl, rfl, hA, hw⟩ := hcut
      subst hw
      have H := Lib.hid hA
      have HN := Lib.hid hA.1
      clear hA cb
      go_wp2
      go_loop [6, 65] (fun u i => ∃ (j : Nat) (e : Bool), j ≤ q ∧ i = .int .i64 j ∧ u = .bool e ∧ Hid (e = true ↔ d = true ∧ None0 ((L.drop 22).take j))) (fun _ i => q - (intOf i).toNat)
      case atStart => exact ⟨0, d, Nat.zero_le _, rfl, rfl, Lib.hid ⟨fun e => ⟨e, fun x hx => (by simp at hx)⟩, fun e => e.1⟩⟩
      case round =>
        obtain ⟨j, e, hj, rfl, rfl, HE2⟩ := hrel
        by_cases hlt : j < q
        · obtain ⟨b2, o2, rfl⟩ := H.out.some_ (by omega)
          have hjl : j < (L.drop 22).length := by rw [HN.out]; omega
          have hc2 : wc.cell? ⟨b2, o2 + j, none⟩ = some (.int .u8 ((L.drop 22)[j].toNat : Int)) := H.out.cell j hlt
          obtain ⟨x, hx⟩ : ∃ x, (L.drop 22)[j] = x := ⟨_, rfl⟩
          rw [hx] at hc2
          have HX := Lib.hid (show (L.drop 22).take (j + 1) = (L.drop 22).take j ++ [x] by rw [List.take_succ_eq_append_getElem hjl, hx])
          have hxl := lt8 x
          clear hx
          have stop := Lib.hid (show ∀ e' : Bool, (e' = true ↔ e = true ∧ x = 0#8) → (e' = true ↔ d = true ∧ None0 ((L.drop 22).take (j + 1))) from fun e' he => by
            rw [he, HE2.out, HX.out]
            unfold None0
            constructor
            · rintro ⟨⟨h1, h2⟩, h3⟩
              refine ⟨h1, fun y hy => ?_⟩
              rcases List.mem_append.1 hy with hy | hy
              · exact h2 y hy
              · simp at hy; rw [hy]; exact h3
            · rintro ⟨h1, h2⟩
              exact ⟨⟨h1, fun y hy => h2 y (List.mem_append_left _ hy)⟩, h2 x (by simp)⟩)
          cases e with
          | false =>
            go_wp2
            go_round
            case rel => exact ⟨j + 1, false, by omega, by go_num, rfl, Lib.hid (stop.out false (by simp))⟩
            case measure => simp [intOf]; omega
          | true =>
            by_cases hs : (x.toNat : Int) = 0
            · have HS := Lib.hid (show x = 0#8 from BitVec.eq_of_toNat_eq (by show x.toNat = 0; omega))
              have hd1 : ((x.toNat : Int) == 0) = true := by simp [hs]
              clear hs
              go_wp2
              go_round
              case rel => exact ⟨j + 1, true, by omega, by go_num, by simp_all, Lib.hid (stop.out true (by simp [HS.out]))⟩
              case measure => simp [intOf]; omega
            · have HS := Lib.hid (show ¬ x = 0#8 from fun e => hs (by rw [e]; rfl))
              have hd1 : ((x.toNat : Int) == 0) = false := by simp; omega
              clear hs
              go_wp2
              go_round
              case rel => exact ⟨j + 1, false, by omega, by go_num, by simp_all, Lib.hid (stop.out false (by simp [HS.out]))⟩
              case measure => simp [intOf]; omega
        · obtain rfl : j = q := by omega
          have HZ := Lib.hid (show e = true ↔ good L by rw [HE2.out, HG.out, HD.out, List.take_of_length_le (by rw [HN.out]; exact Nat.le_refl _)])
          cases e with
          | false =>
            have NG := Lib.hid (show ¬ good L from fun hg => by have := HZ.out.2 hg; cases this)
            go_wp2_with (refine wpList_store_part rfl 29 (.tmp 2) (.tmp 77) rfl (w.heap.size + 1) 0 29 Lab.zero.cs Lab.zero.cs rfl rfl T.out.res size29 (by simp [cs_size]) (cs_all _) ?_; intro w9 hat9 hb9; rw [part_lab] at hat9; have R := Lib.hid hat9; have BB := Lib.hid (T.out.done hb9); clear hat9 hb9)
            refine bodyPost_ret (results_cell_slot (p := 2) (u := 3) (ty := 29) rfl _ _ (w.heap.size + 1) Lab.zero.cs _ rfl R.out Try.underlying29 size29) rfl ?_
            exact ⟨fun hg => (NG.out hg).elim, fun _ => ⟨rfl, BB.out⟩⟩
          | true =>
            have NG := Lib.hid (show good L from HZ.out.1 rfl)
            have c0 := PB.out.cell 0; have c1 := PB.out.cell 1; have c2' := PB.out.cell 2; have c3 := PB.out.cell 3; have c4 := PB.out.cell 4; have c5 := PB.out.cell 5; have c6 := PB.out.cell 6
            go_wp2_with (refine wpList_store_part rfl 29 (.tmp 2) (.tmp 78) rfl (w.heap.size + 1) 0 29 Lab.zero.cs (Lab.mk m b g s nv l k).cs rfl rfl T.out.res size29 (by simp [cs_size]) (cs_all _) ?_; intro w9 hat9 hb9; rw [part_lab] at hat9; have R := Lib.hid hat9; have BB := Lib.hid (T.out.done hb9); clear hat9 hb9)
            refine bodyPost_ret (results_cell_slot (p := 2) (u := 3) (ty := 29) rfl _ _ (w.heap.size + 1) (Lab.mk m b g s nv l k).cs _ rfl R.out Try.underlying29 size29) rfl ?_
            exact ⟨fun _ => ⟨rfl, BB.out⟩, fun hg => (hg NG.out).elim⟩

end Go.Proofs.Ytkhjeaabhjfkgaa
