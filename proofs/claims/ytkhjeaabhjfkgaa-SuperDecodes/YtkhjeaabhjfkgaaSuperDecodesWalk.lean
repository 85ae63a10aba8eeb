/-
  THE WALK OF SuperDecodes: any bytes, sealed anew or not.
-/
import Derived.Test.YtkhjeaabhjfkgaaTells
import Derived.Test.YtkhjeaabhjfkgaaReadsAny
namespace Go.Proofs.Ytkhjeaabhjfkgaa
open Go.RowKit
set_option linter.unusedVariables false
set_option maxRecDepth 100000

set_option maxHeartbeats 400000 in
theorem decodes_long (A : Option Addr) (n c : Nat) (sl : Bool) (w : World) (hn : 600 < n) (hm : n ≤ 9223372036854775807) : Calls Try.prog 4 #[.slice A n c, .bool sl] w fun e w' => e = .returned (.bool true) ∧ Below w.heap.size w w' := by
  go_enter Try.func4, Try.ntmps4
  go_wp2_with fail
  refine (awake_any _).mono ?_
  rintro e w1 ⟨rfl, hb1⟩
  have BB := Lib.hid hb1
  clear hb1
  go_wp2
  go_ret
  exact ⟨rfl, BB.out⟩

set_option maxHeartbeats 800000 in
theorem decodes_bare (A : Option Addr) (n c : Nat) (L : List (BitVec 8)) (w : World) (hn : n ≤ 600) (hc : n ≤ c) (hcm : c ≤ 9223372036854775807) (h : Has w A n L) : Calls Try.prog 4 #[.slice A n c, .bool false] w fun e w' => e = .returned (.bool true) ∧ Below w.heap.size w w' := by
  have H := Lib.hid h
  clear h
  go_enter Try.func4, Try.ntmps4
  go_wp2_with fail
  refine (awake_any _).mono ?_
  rintro e w1 ⟨rfl, hb1⟩
  have H := Lib.hid (H.out.below hb1)
  have BB := Lib.hid hb1
  clear hb1
  obtain ⟨X, EC, hD⟩ : ∃ X EC, dec L = (X, EC) := ⟨_, _, rfl⟩
  obtain ⟨M0, M1, M2, M3, M4, M5, M6⟩ := X
  have HD := Lib.hid hD
  have heq := fun w => (show (binOp .eql 29 (.agg #[.int .i64 (M0 : Int), .int .i64 (M1 : Int), .int .i64 (M2 : Int), .int .i64 (M3 : Int), .int .i64 (M4 : Int), .int .i64 (M5 : Int), .int .i64 (M6 : Int)]) (.agg #[.int .i64 (M0 : Int), .int .i64 (M1 : Int), .int .i64 (M2 : Int), .int .i64 (M3 : Int), .int .i64 (M4 : Int), .int .i64 (M5 : Int), .int .i64 (M6 : Int)])).run Try.prog w = .ok (.bool true) w from lab_eql ⟨M0, M1, M2, M3, M4, M5, M6⟩ w)
  clear hD
  go_wp2_with fail
  refine (decode_any A n c L w1 hc (by unfold maxLen; omega) (by omega) H.out).mono ?_
  rintro e wD ⟨rfl, hbD⟩
  rw [HD.out]
  simp only [Lab.cs]
  have H := Lib.hid (H.out.below hbD)
  have BB := Lib.hid (BB.out.trans (hbD.mono BB.out.size))
  clear hbD
  have H := Lib.hid (H.out.below ((Below.refl _ _).alloc (Nat.le_refl _) (.cells #[.int .i64 (M0 : Int), .int .i64 (M1 : Int), .int .i64 (M2 : Int), .int .i64 (M3 : Int), .int .i64 (M4 : Int), .int .i64 (M5 : Int), .int .i64 (M6 : Int)] 29)))
  have PX := Lib.hid (At.new (w := wD) (g := wD.heap.size) #[.int .i64 (M0 : Int), .int .i64 (M1 : Int), .int .i64 (M2 : Int), .int .i64 (M3 : Int), .int .i64 (M4 : Int), .int .i64 (M5 : Int), .int .i64 (M6 : Int)] 29 rfl)
  have BB := Lib.hid (BB.out.alloc BB.out.size (.cells #[.int .i64 (M0 : Int), .int .i64 (M1 : Int), .int .i64 (M2 : Int), .int .i64 (M3 : Int), .int .i64 (M4 : Int), .int .i64 (M5 : Int), .int .i64 (M6 : Int)] 29))
  go_wp2_with fail
  refine (reads_any A n c L _ hc (by unfold maxLen; omega) (by omega) H.out).mono ?_
  rintro e wE ⟨rfl, hbE⟩
  rw [HD.out]
  simp only [Lab.cs]
  have PX := Lib.hid (PX.out.below hbE PX.out.lt)
  have BB := Lib.hid (BB.out.trans (hbE.mono BB.out.size))
  clear hbE
  have PX := Lib.hid (PX.out.alloc (.cells #[.int .i64 (M0 : Int), .int .i64 (M1 : Int), .int .i64 (M2 : Int), .int .i64 (M3 : Int), .int .i64 (M4 : Int), .int .i64 (M5 : Int), .int .i64 (M6 : Int)] 29))
  have BB := Lib.hid (BB.out.alloc BB.out.size (.cells #[.int .i64 (M0 : Int), .int .i64 (M1 : Int), .int .i64 (M2 : Int), .int .i64 (M3 : Int), .int .i64 (M4 : Int), .int .i64 (M5 : Int), .int .i64 (M6 : Int)] 29))
  have c0 := PX.out.cell 0; have c1 := PX.out.cell 1; have c2 := PX.out.cell 2; have c3 := PX.out.cell 3; have c4 := PX.out.cell 4; have c5 := PX.out.cell 5; have c6 := PX.out.cell 6
  go_wp2
  go_ret
  exact ⟨by simp, BB.out⟩
set_option maxHeartbeats 800000 in
theorem decodes_few (A : Option Addr) (n c : Nat) (L : List (BitVec 8)) (w : World) (hn : n ≤ 600) (hc : n ≤ c) (hcm : c ≤ 9223372036854775807) (h : Has w A n L) (h22 : n < 22) : Calls Try.prog 4 #[.slice A n c, .bool true] w fun e w' => e = .returned (.bool true) ∧ Below w.heap.size w w' := by
  have hd : decide ((22 : Int) ≤ (n : Int)) = false := decide_eq_false (by omega)
  have H := Lib.hid h
  clear h
  go_enter Try.func4, Try.ntmps4
  go_wp2_with fail
  refine (awake_any _).mono ?_
  rintro e w1 ⟨rfl, hb1⟩
  have H := Lib.hid (H.out.below hb1)
  have BB := Lib.hid hb1
  clear hb1
  obtain ⟨X, EC, hD⟩ : ∃ X EC, dec L = (X, EC) := ⟨_, _, rfl⟩
  obtain ⟨M0, M1, M2, M3, M4, M5, M6⟩ := X
  have HD := Lib.hid hD
  have heq := fun w => (show (binOp .eql 29 (.agg #[.int .i64 (M0 : Int), .int .i64 (M1 : Int), .int .i64 (M2 : Int), .int .i64 (M3 : Int), .int .i64 (M4 : Int), .int .i64 (M5 : Int), .int .i64 (M6 : Int)]) (.agg #[.int .i64 (M0 : Int), .int .i64 (M1 : Int), .int .i64 (M2 : Int), .int .i64 (M3 : Int), .int .i64 (M4 : Int), .int .i64 (M5 : Int), .int .i64 (M6 : Int)])).run Try.prog w = .ok (.bool true) w from lab_eql ⟨M0, M1, M2, M3, M4, M5, M6⟩ w)
  clear hD
  go_wp2_with fail
  refine (decode_any A n c L w1 hc (by unfold maxLen; omega) (by omega) H.out).mono ?_
  rintro e wD ⟨rfl, hbD⟩
  rw [HD.out]
  simp only [Lab.cs]
  have H := Lib.hid (H.out.below hbD)
  have BB := Lib.hid (BB.out.trans (hbD.mono BB.out.size))
  clear hbD
  have H := Lib.hid (H.out.below ((Below.refl _ _).alloc (Nat.le_refl _) (.cells #[.int .i64 (M0 : Int), .int .i64 (M1 : Int), .int .i64 (M2 : Int), .int .i64 (M3 : Int), .int .i64 (M4 : Int), .int .i64 (M5 : Int), .int .i64 (M6 : Int)] 29)))
  have PX := Lib.hid (At.new (w := wD) (g := wD.heap.size) #[.int .i64 (M0 : Int), .int .i64 (M1 : Int), .int .i64 (M2 : Int), .int .i64 (M3 : Int), .int .i64 (M4 : Int), .int .i64 (M5 : Int), .int .i64 (M6 : Int)] 29 rfl)
  have BB := Lib.hid (BB.out.alloc BB.out.size (.cells #[.int .i64 (M0 : Int), .int .i64 (M1 : Int), .int .i64 (M2 : Int), .int .i64 (M3 : Int), .int .i64 (M4 : Int), .int .i64 (M5 : Int), .int .i64 (M6 : Int)] 29))
  go_wp2_with fail
  refine (reads_any A n c L _ hc (by unfold maxLen; omega) (by omega) H.out).mono ?_
  rintro e wE ⟨rfl, hbE⟩
  rw [HD.out]
  simp only [Lab.cs]
  have PX := Lib.hid (PX.out.below hbE PX.out.lt)
  have BB := Lib.hid (BB.out.trans (hbE.mono BB.out.size))
  clear hbE
  have PX := Lib.hid (PX.out.alloc (.cells #[.int .i64 (M0 : Int), .int .i64 (M1 : Int), .int .i64 (M2 : Int), .int .i64 (M3 : Int), .int .i64 (M4 : Int), .int .i64 (M5 : Int), .int .i64 (M6 : Int)] 29))
  have BB := Lib.hid (BB.out.alloc BB.out.size (.cells #[.int .i64 (M0 : Int), .int .i64 (M1 : Int), .int .i64 (M2 : Int), .int .i64 (M3 : Int), .int .i64 (M4 : Int), .int .i64 (M5 : Int), .int .i64 (M6 : Int)] 29))
  have c0 := PX.out.cell 0; have c1 := PX.out.cell 1; have c2 := PX.out.cell 2; have c3 := PX.out.cell 3; have c4 := PX.out.cell 4; have c5 := PX.out.cell 5; have c6 := PX.out.cell 6
  go_wp2
  go_ret
  exact ⟨by simp, BB.out⟩
set_option maxHeartbeats 1600000 in
theorem decodes_seal (ab off : Nat) (n c : Nat) (L : List (BitVec 8)) (w : World) (hn : n ≤ 600) (hc : n ≤ c) (hcm : c ≤ 9223372036854775807) (h : Has w (some ⟨ab, off, none⟩) n L) (h22 : 22 ≤ n) : Calls Try.prog 4 #[.slice (some ⟨ab, off, none⟩) n c, .bool true] w fun e w' => e = .returned (.bool true) ∧ Below w.heap.size w w' := by
  have hd : decide ((22 : Int) ≤ (n : Int)) = true := decide_eq_true (by omega)
  have H := Lib.hid h
  clear h
  go_enter Try.func4, Try.ntmps4
  go_wp2_with fail
  refine (awake_any _).mono ?_
  rintro e w1 ⟨rfl, hb1⟩
  have H := Lib.hid (H.out.below hb1)
  have BB := Lib.hid hb1
  clear hb1
  go_wp2_with fail
  obtain ⟨o2, ho2⟩ : ∃ o2, (c = 22 ∧ o2 = off) ∨ (c ≠ 22 ∧ o2 = off + 22) := by
    by_cases e : c = 22
    · exact ⟨_, .inl ⟨e, rfl⟩⟩
    · exact ⟨_, .inr ⟨e, rfl⟩⟩
  obtain ⟨uS, huS⟩ : ∃ u, u = w1.drew := ⟨_, rfl⟩
  have H := Lib.hid (show Has uS (some ⟨ab, off, none⟩) n L by rw [huS]; exact H.out.drewN 1)
  have BB := Lib.hid (show Below w.heap.size w uS by rw [huS]; exact below_drewN BB.out 1)
  have D2 := Lib.hid (show Has uS (some ⟨ab, o2, none⟩) (n - 22) (L.drop 22) by
    rcases ho2 with ⟨e, rfl⟩ | ⟨e, rfl⟩
    · have hn0 : n - 22 = 0 := by omega
      rw [hn0, List.drop_eq_nil_of_le (by rw [H.out.1]; omega)]
      exact Has.nil _ _
    · exact H.out.drop 22 (by omega))
  refine wp_region_early (fun _ => True) (fun _ => true) (by kernel_rfl) ?_
  change wpEarly _ _ _ _ _ _ 7 (Array.replicate 7 false) _ w1.drew
  rw [← huS]
  clear huS
  refine early_take (i := 0) 20 (.slice (some ⟨ab, off, none⟩) n c) rfl rfl (by kernel_rfl) (by kernel_rfl) (by kernel_rfl) (by kernel_rfl) rfl (fun _ _ _ h => h) (fun w' hw' => by go_simp) trivial ?_
  simp only [Act.put, List.setIfInBounds_toArray, List.set_cons_zero, List.set_cons_succ]
  refine early_take (i := 1) 21 (.slice (some ⟨ab, off, none⟩) 18 c) rfl rfl (by kernel_rfl) (by kernel_rfl) (by kernel_rfl) (by kernel_rfl) rfl (fun _ _ _ h => h) (fun w' hw' => by go_simp; intro h; exfalso; omega) trivial ?_
  simp only [Act.put, List.setIfInBounds_toArray, List.set_cons_zero, List.set_cons_succ]
  refine early_take (i := 3) 23 (.slice (some ⟨ab, off, none⟩) n c) rfl rfl (by kernel_rfl) (by kernel_rfl) (by kernel_rfl) (by kernel_rfl) rfl (fun _ _ _ h => h) (fun w' hw' => by go_simp) trivial ?_
  simp only [Act.put, List.setIfInBounds_toArray, List.set_cons_zero, List.set_cons_succ]
  refine early_take (i := 4) 24 (.slice (some ⟨ab, o2, none⟩) (n - 22) (c - 22)) rfl rfl (by kernel_rfl) (by kernel_rfl) (by kernel_rfl) (by kernel_rfl) rfl (fun _ _ _ h => h) (fun w' hw' => by rcases ho2 with ⟨e, rfl⟩ | ⟨e, rfl⟩ <;> go_simp <;> first | omega | (intro h; exfalso; omega) | (simp_all; done) | (simp [e]; omega)) trivial ?_
  simp only [Act.put, List.setIfInBounds_toArray, List.set_cons_zero, List.set_cons_succ]
  refine early_only (i := 2) (by kernel_rfl) rfl (fun K hK => ?_)
  simp only [opWp, List.getElem?_toArray, List.getElem?_cons_succ, List.getElem?_cons_zero]
  go_simp
  go_at_call 13
  refine (sealed_any _ 18 c (L.take 18) uS (by omega) (H.out.take 18 (by omega))).mono ?_
  rintro e uT ⟨vT, rfl, hfT⟩
  have HO := Lib.hid hfT.1
  have BL := Lib.hid hfT.2
  have D2 := Lib.hid (D2.out.below hfT.2)
  clear hfT
  refine hK _ _ (fun _ => trivial) ?_
  refine early_only (i := 5) (by kernel_rfl) rfl (fun K hK => ?_)
  simp only [opWp, List.getElem?_toArray, List.getElem?_cons_succ, List.getElem?_cons_zero]
  refine wp_append_has (.tmp 22) (.tmp 24) rfl uS.heap.size vT 22 (sealL (L.take 18)) rfl HO.out ⟨ab, o2, none⟩ (n - 22) (c - 22) (L.drop 22) rfl D2.out (by omega) BL.out.size ?_
  intro A8 c8 w8 hown hgr
  have BB := Lib.hid ((BB.out.trans (BL.out.mono BB.out.size)).grown hgr (Nat.le_trans BB.out.size BL.out.size) (fun k hk => Nat.le_trans BB.out.size (HO.out.lt k hk).1))
  obtain ⟨A', c', e', hcU1, hcU2, hhU, _⟩ := Has.of_own hown
  injection e' with e1 e2 e3
  subst e1 e3
  have H := Lib.hid hhU
  have CU := Lib.hid (And.intro hcU1 hcU2)
  clear hown hgr hcU1 hcU2 hhU HO BL D2 e2
  refine hK _ _ (fun _ => trivial) ?_
  simp only [Act.put, List.setIfInBounds_toArray, List.set_cons_zero, List.set_cons_succ]
  refine early_take (i := 6) 0 (.slice A8 (22 + (n - 22)) c8) rfl rfl (by kernel_rfl) (by kernel_rfl) (by kernel_rfl) (by kernel_rfl) rfl (fun _ _ _ h => h) (fun w' hw' => by go_simp) trivial ?_
  simp only [Act.put, List.setIfInBounds_toArray, List.set_cons_zero]
  refine early_done (by kernel_rfl) ?_
  generalize sealL (L.take 18) ++ L.drop 22 = L8 at *
  have NB := Lib.hid (show 22 + (n - 22) = n by omega)
  generalize 22 + (n - 22) = N8 at *
  have hN8 : N8 ≤ 600 := by have := NB.out; omega
  have HN8 : N8 = n := NB.out
  clear ho2 NB HN8
  obtain ⟨X, EC, hD⟩ : ∃ X EC, dec L8 = (X, EC) := ⟨_, _, rfl⟩
  obtain ⟨M0, M1, M2, M3, M4, M5, M6⟩ := X
  have HD := Lib.hid hD
  have heq := fun w => (show (binOp .eql 29 (.agg #[.int .i64 (M0 : Int), .int .i64 (M1 : Int), .int .i64 (M2 : Int), .int .i64 (M3 : Int), .int .i64 (M4 : Int), .int .i64 (M5 : Int), .int .i64 (M6 : Int)]) (.agg #[.int .i64 (M0 : Int), .int .i64 (M1 : Int), .int .i64 (M2 : Int), .int .i64 (M3 : Int), .int .i64 (M4 : Int), .int .i64 (M5 : Int), .int .i64 (M6 : Int)])).run Try.prog w = .ok (.bool true) w from lab_eql ⟨M0, M1, M2, M3, M4, M5, M6⟩ w)
  clear hD
  go_wp2_with fail
  refine (decode_any A8 N8 c8 L8 w8 CU.out.1 CU.out.2 (by omega) H.out).mono ?_
  rintro e wD ⟨rfl, hbD⟩
  rw [HD.out]
  simp only [Lab.cs]
  have H := Lib.hid (H.out.below hbD)
  have BB := Lib.hid (BB.out.trans (hbD.mono BB.out.size))
  clear hbD
  have H := Lib.hid (H.out.below ((Below.refl _ _).alloc (Nat.le_refl _) (.cells #[.int .i64 (M0 : Int), .int .i64 (M1 : Int), .int .i64 (M2 : Int), .int .i64 (M3 : Int), .int .i64 (M4 : Int), .int .i64 (M5 : Int), .int .i64 (M6 : Int)] 29)))
  have PX := Lib.hid (At.new (w := wD) (g := wD.heap.size) #[.int .i64 (M0 : Int), .int .i64 (M1 : Int), .int .i64 (M2 : Int), .int .i64 (M3 : Int), .int .i64 (M4 : Int), .int .i64 (M5 : Int), .int .i64 (M6 : Int)] 29 rfl)
  have BB := Lib.hid (BB.out.alloc BB.out.size (.cells #[.int .i64 (M0 : Int), .int .i64 (M1 : Int), .int .i64 (M2 : Int), .int .i64 (M3 : Int), .int .i64 (M4 : Int), .int .i64 (M5 : Int), .int .i64 (M6 : Int)] 29))
  go_wp2_with fail
  refine (reads_any A8 N8 c8 L8 _ CU.out.1 CU.out.2 (by omega) H.out).mono ?_
  rintro e wE ⟨rfl, hbE⟩
  rw [HD.out]
  simp only [Lab.cs]
  have PX := Lib.hid (PX.out.below hbE PX.out.lt)
  have BB := Lib.hid (BB.out.trans (hbE.mono BB.out.size))
  clear hbE
  have PX := Lib.hid (PX.out.alloc (.cells #[.int .i64 (M0 : Int), .int .i64 (M1 : Int), .int .i64 (M2 : Int), .int .i64 (M3 : Int), .int .i64 (M4 : Int), .int .i64 (M5 : Int), .int .i64 (M6 : Int)] 29))
  have BB := Lib.hid (BB.out.alloc BB.out.size (.cells #[.int .i64 (M0 : Int), .int .i64 (M1 : Int), .int .i64 (M2 : Int), .int .i64 (M3 : Int), .int .i64 (M4 : Int), .int .i64 (M5 : Int), .int .i64 (M6 : Int)] 29))
  have c0 := PX.out.cell 0; have c1 := PX.out.cell 1; have c2 := PX.out.cell 2; have c3 := PX.out.cell 3; have c4 := PX.out.cell 4; have c5 := PX.out.cell 5; have c6 := PX.out.cell 6
  go_wp2
  go_ret
  exact ⟨by simp, BB.out⟩

theorem decodes_walk (A : Option Addr) (n c : Nat) (L : List (BitVec 8)) (sl : Bool) (w : World) (h : Inb w A n c L) : Calls Try.prog 4 #[.slice A n c, .bool sl] w fun e w' => e = .returned (.bool true) ∧ Below w.heap.size w w' := by
  obtain ⟨h1, h2, h3⟩ := h
  unfold maxLen at h3
  by_cases hn : n ≤ 600
  · cases sl with
    | false => exact decodes_bare A n c L w hn h2 (by omega) h1
    | true =>
      by_cases h22 : n < 22
      · exact decodes_few A n c L w hn h2 (by omega) h1 h22
      · obtain ⟨ab, off, rfl⟩ := h1.some_ (by omega)
        exact decodes_seal ab off n c L w hn h2 (by omega) h1 (by omega)
  · exact decodes_long A n c sl w (by omega) (by omega)

end Go.Proofs.Ytkhjeaabhjfkgaa
