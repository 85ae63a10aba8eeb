/-
  THE WALK OF NoteSpoilt: a note's bytes with one turned, sealed anew or not, read by any number of slots.
-/
import Derived.Test.YtmdgnglefikpjaaReads
import Derived.Test.YtmdgnglefikpjaaSame
import Derived.Test.YtmdgnglefikpjaaIn
namespace Go.Proofs.Ytmdgnglefikpjaa
open Go.RowKit
set_option linter.unusedVariables false
set_option maxRecDepth 100000


theorem dec_len (L : List (BitVec 8)) (s : Int) : (dec L s).1.es.length ≤ L.length := by
  by_cases hr : Room L s
  · have h2 := hr.2
    obtain ⟨m, rfl⟩ := Int.eq_ofNat_of_zero_le hr.1
    by_cases hs : Crc.held (L.drop (11 + 5 * m)) 4 = Crc.sum (L.take (11 + 5 * m))
    · by_cases hg : good L m
      · rw [dec_good hr hs hg]
        show (enUpto L m).length ≤ _
        rw [enUpto_len]
        omega
      · rw [dec_bad hr hs hg]
        exact Nat.zero_le _
    · rw [dec_sum hr hs]
      exact Nat.zero_le _
  · rw [dec_size hr]
    exact Nat.zero_le _
theorem still {w w1 : World} {A : Option Addr} {n : Nat} {l : List (BitVec 8)} (h : Has w A n l) (hb : Below w.heap.size w w1) : Has w1 A n l := h.below hb
/-- A row of the call's own: its block may be stored into. -/
theorem own_at {w : World} {base G n cap : Nat} {xs : List Value} (h : w.ownsRow base 5 1 (.slice (some ⟨G, 0, none⟩) n cap) n xs) : ∃ cur, At w G cur 5 := by
  rcases h.2 with ⟨e, _⟩ | ⟨g', cap', cur, e, _, hh, _⟩
  · cases e
  · injection e with e1 _ e2
    injection e1 with e1
    injection e1 with e1
    subst e1
    exact ⟨cur, hh⟩
theorem has_set {w : World} {G n : Nat} {cur : Array Value} {L : List (BitVec 8)} (h : Has w (some ⟨G, 0, none⟩) n L) (ha : At w G cur 5) (K : Nat) (hK : K < n) (y : BitVec 8) :
    Has (w.setCell ⟨G, K, none⟩ (.int .u8 (y.toNat : Int))) (some ⟨G, 0, none⟩) n (L.set K y) := by
  have hl := h.1
  have hc : ∀ j (hj : j < L.length), cur[j]? = some (val L[j]) := by
    intro j hj
    have h1 := h.cell j (by omega)
    rw [Nat.zero_add, ha.cell] at h1
    exact h1
  refine Has.of_block (ha.set K _) (by rw [List.length_set]; exact hl) fun j hj => ?_
  rw [List.length_set] at hj
  rw [Array.getElem?_setIfInBounds]
  by_cases e : K = j
  · subst e
    have hs : K < cur.size := by
      have := hc K hj
      exact (Array.getElem?_eq_some_iff.1 this).1
    rw [if_pos rfl, if_pos hs, List.getElem_set_self]
    rfl
  · rw [if_neg e, List.getElem_set_ne e]
    exact hc j hj

set_option maxHeartbeats 4000000 in
theorem spoilt_bare (q s a K : Nat) (z : BitVec 8) (d S : Int) (A : Option Addr) (n c M J len : Nat) (L : List Sl) (w : World) (hq : q < 18446744073709551616) (hs : s < 65536) (ha : a < 256) (hd1 : -128 ≤ d) (hd2 : d ≤ 127) (hS : (n : Int) + d = S) (hn : n ≤ 20)
    (hM : M = max (15 + 5 * n) 40) (hJ : J = 15 + 5 * n) (hlen : len = 11 + 5 * n) (hK : K < M) (hKe : (a : Int) % (M : Int) = (K : Int)) (h : Sls w A n L) :
    Calls Try.prog 5 #[.int .u64 (q : Int), .int .u16 (s : Int), .slice A n c, .int .u8 (a : Int), .int .u8 (z.toNat : Int), .int .i8 d, .bool false] w fun e w' => e = .returned (.bool true) ∧ Below w.heap.size w w' := by
  obtain ⟨es, hes⟩ : ∃ es, L.map mk = es := ⟨_, rfl⟩
  have EN0 := Lib.hid (show es.length = n by rw [← hes, List.length_map, h.1])
  have EF := Lib.hid (show ∀ x ∈ es, x.fits by rw [← hes]; exact fits_mk h)
  have EE := Lib.hid hes
  clear hes
  have HM := Lib.hid hM
  have hM1 : M ≤ 200 := by omega
  have hM2 : 0 < M := by omega
  have hKn : J ≤ M := by omega
  have hKi : 15 + 5 * (n : Int) = (J : Int) := by omega
  have K4 : (J : Int) - 4 = (len : Int) := by omega
  have L4 := Lib.hid (show len + 4 = J by omega)
  have hS1 : -128 ≤ S := by omega
  have hS2 : S ≤ 147 := by omega
  have KE := Lib.hid hKe
  have H := Lib.hid h
  clear h hM hJ hlen hKe
  go_enter Try.func5, Try.ntmps5
  go_wp2_with fail
  refine (awake_any w).mono ?_
  rintro e w0 ⟨rfl, hb0⟩
  have H := Lib.hid (H.out.below hb0)
  have BB := Lib.hid hb0
  clear hb0
  go_wp2_with fail
  refine (make_any q s A n c L w0 hs (by omega) H.out).mono ?_
  rintro e w1 ⟨A1, c1, rfl, hE, hb1⟩
  rw [EE.out] at hE
  have BB := Lib.hid (BB.out.trans (hb1.mono (up BB.out rfl)))
  have E1 := Lib.hid hE
  clear hE hb1 H
  go_wp2_with fail
  refine (tells_any q s ((s : Int) - 1) A1 n c1 es 40 M _ hq (by omega) hs (by omega) (by omega) HM.out EF.out E1.out).mono ?_
  rintro e w3 ⟨v3, rfl, hf3⟩
  obtain ⟨A3', cap, e3, hc1, hc2, hh3, hA3⟩ := Has.of_own (show w3.ownsRow _ 5 1 v3 M _ from hf3.1)
  subst e3
  obtain ⟨S3, rfl⟩ := some_of hh3 (by omega)
  obtain ⟨G, rfl, hG⟩ := hA3 _ rfl
  have GB := Lib.hid (Nat.le_trans (up BB.out rfl) hG)
  have BB := Lib.hid (BB.out.trans (hf3.2.mono (up BB.out rfl)))
  obtain ⟨cur, hcur⟩ := own_at (show w3.ownsRow _ 5 1 (.slice (some ⟨G, 0, none⟩) M cap) M _ from hf3.1)
  generalize told q s es M = L0 at *
  have hKl : K < L0.length := by rw [hh3.1]; exact hK
  have hcK : w3.cell? ⟨G, K, none⟩ = some (.int .u8 (L0[K].toNat : Int)) := by have := hh3.cell K hK; rw [Nat.zero_add] at this; exact this
  have hfK : w3.frozen? ⟨G, K, none⟩ = false := hcur.frozen K
  have H := Lib.hid (has_set hh3 hcur K hK (L0[K] ^^^ z))
  have BB := Lib.hid (BB.out.setCell (p := ⟨G, K, none⟩) GB.out (.int .u8 ((L0[K] ^^^ z).toNat : Int)))
  have hcm : cap ≤ 9223372036854775807 := by unfold maxLen at hc2; omega
  have hzl := lt8 z
  have hxl := lt8 L0[K]
  have hx8 := Lib.hid (xor8 L0[K] z)
  clear hf3 hh3 hA3 hcur hG hc2 EF E1 GB HM EE EN0
  generalize L0[K] = x at *
  have hKe := KE.out
  go_upto_region 11 with (fail)
  rw [hx8.out]
  clear hcK hfK hx8 hKe hxl hzl KE hKl hK
  generalize w3.setCell ⟨G, K, none⟩ (.int .u8 ((x ^^^ z).toNat : Int)) = w4 at *
  generalize L0.set K (x ^^^ z) = LX at *
  obtain ⟨⟨Q, Z, ES⟩, EC, hD⟩ : ∃ X EC, dec LX S = (X, EC) := ⟨_, _, rfl⟩
  obtain ⟨NE, hNE⟩ : ∃ NE, ES.length = NE := ⟨_, rfl⟩
  have EL : NE ≤ 600 := by
    have h1 := dec_len LX S
    rw [hD, H.out.1] at h1
    simp only [hNE] at h1
    omega
  have HD := Lib.hid hD
  have EN := Lib.hid hNE
  clear hD hNE
  go_wp2_with fail
  refine (decode_any (some ⟨G, 0, none⟩) M cap LX S _ (by omega) hc1 (by unfold maxLen; omega) H.out).mono ?_
  rintro e wD ⟨A3, c3, rfl, hE3, hbD⟩
  rw [HD.out] at hE3 ⊢
  simp only [EN.out] at hE3 ⊢
  have H := Lib.hid (H.out.below hbD)
  have BB := Lib.hid (BB.out.trans (hbD.mono (up BB.out rfl)))
  have US := Lib.hid (up BB.out rfl)
  have H := Lib.hid (still H.out ((Below.refl _ _).alloc (Nat.le_refl _) (.cells #[.int .u64 (Q : Int), .int .i64 Z, .slice A3 NE c3] 28)))
  have E3 := Lib.hid (hE3.alloc (.cells #[.int .u64 (Q : Int), .int .i64 Z, .slice A3 NE c3] 28))
  have PX := Lib.hid (At.new (w := wD) (g := wD.heap.size) #[.int .u64 (Q : Int), .int .i64 Z, .slice A3 NE c3] 28 rfl)
  have BB := Lib.hid (BB.out.alloc US.out (.cells #[.int .u64 (Q : Int), .int .i64 Z, .slice A3 NE c3] 28))
  clear hE3 hbD US
  go_wp2_with fail
  generalize hP : wD.heap.size = P at *
  generalize wD.alloc (.cells #[.int .u64 (Q : Int), .int .i64 Z, .slice A3 NE c3] 28) = wE at *
  clear hP
  refine (reads_any (some ⟨G, 0, none⟩) M cap LX S _ (by omega) hc1 (by unfold maxLen; omega) ⟨by omega, by omega⟩ H.out).mono ?_
  rintro e wF ⟨A4, c4, rfl, hE4, hbF⟩
  rw [HD.out] at hE4 ⊢
  simp only [EN.out] at hE4 ⊢
  have E3 := Lib.hid ((E3.out.below hbF).alloc (.cells #[.int .u64 (Q : Int), .int .i64 Z, .slice A4 NE c4] 28))
  have E4 := Lib.hid (hE4.alloc (.cells #[.int .u64 (Q : Int), .int .i64 Z, .slice A4 NE c4] 28))
  have PX := Lib.hid ((PX.out.below hbF PX.out.lt).alloc (.cells #[.int .u64 (Q : Int), .int .i64 Z, .slice A4 NE c4] 28))
  have PY := Lib.hid (At.new (w := wF) (g := wF.heap.size) #[.int .u64 (Q : Int), .int .i64 Z, .slice A4 NE c4] 28 rfl)
  have BB := Lib.hid (BB.out.trans (hbF.mono (up BB.out rfl)))
  have US := Lib.hid (up BB.out rfl)
  have BB := Lib.hid (BB.out.alloc US.out (.cells #[.int .u64 (Q : Int), .int .i64 Z, .slice A4 NE c4] 28))
  clear hE4 hbF US H
  have p0 := PX.out.cell 0; have p1 := PX.out.cell 1; have p2 := PX.out.cell 2
  have q0 := PY.out.cell 0; have q1 := PY.out.cell 1; have q2 := PY.out.cell 2
  go_wp2_with fail
  clear p0 p1 p2 q0 q1 q2
  refine (same_any Q Q Z Z A3 A4 NE NE c3 c4 ES ES _ (by omega) (by omega) E3.out E4.out).mono ?_
  rintro e wG ⟨d, rfl, hd, hbG⟩
  obtain rfl : d = true := hd.2 rfl
  have BB := Lib.hid (BB.out.trans (hbG.mono (up BB.out rfl)))
  clear hd hbG
  go_wp2
  go_ret
  exact ⟨by simp, BB.out⟩
set_option maxHeartbeats 4000000 in
theorem spoilt_seal (q s a K : Nat) (z : BitVec 8) (d S : Int) (A : Option Addr) (n c M J len : Nat) (L : List Sl) (w : World) (hq : q < 18446744073709551616) (hs : s < 65536) (ha : a < 256) (hd1 : -128 ≤ d) (hd2 : d ≤ 127) (hS : (n : Int) + d = S) (hn : n ≤ 20)
    (hM : M = max (15 + 5 * n) 40) (hJ : J = 15 + 5 * n) (hlen : len = 11 + 5 * n) (hK : K < M) (hKe : (a : Int) % (M : Int) = (K : Int)) (h : Sls w A n L) :
    Calls Try.prog 5 #[.int .u64 (q : Int), .int .u16 (s : Int), .slice A n c, .int .u8 (a : Int), .int .u8 (z.toNat : Int), .int .i8 d, .bool true] w fun e w' => e = .returned (.bool true) ∧ Below w.heap.size w w' := by
  obtain ⟨es, hes⟩ : ∃ es, L.map mk = es := ⟨_, rfl⟩
  have EN0 := Lib.hid (show es.length = n by rw [← hes, List.length_map, h.1])
  have EF := Lib.hid (show ∀ x ∈ es, x.fits by rw [← hes]; exact fits_mk h)
  have EE := Lib.hid hes
  clear hes
  have HM := Lib.hid hM
  have hM1 : M ≤ 200 := by omega
  have hM2 : 0 < M := by omega
  have hKn : J ≤ M := by omega
  have hKi : 15 + 5 * (n : Int) = (J : Int) := by omega
  have K4 : (J : Int) - 4 = (len : Int) := by omega
  have L4 := Lib.hid (show len + 4 = J by omega)
  have hS1 : -128 ≤ S := by omega
  have hS2 : S ≤ 147 := by omega
  have KE := Lib.hid hKe
  have H := Lib.hid h
  clear h hM hJ hlen hKe
  go_enter Try.func5, Try.ntmps5
  go_wp2_with fail
  refine (awake_any w).mono ?_
  rintro e w0 ⟨rfl, hb0⟩
  have H := Lib.hid (H.out.below hb0)
  have BB := Lib.hid hb0
  clear hb0
  go_wp2_with fail
  refine (make_any q s A n c L w0 hs (by omega) H.out).mono ?_
  rintro e w1 ⟨A1, c1, rfl, hE, hb1⟩
  rw [EE.out] at hE
  have BB := Lib.hid (BB.out.trans (hb1.mono (up BB.out rfl)))
  have E1 := Lib.hid hE
  clear hE hb1 H
  go_wp2_with fail
  refine (tells_any q s ((s : Int) - 1) A1 n c1 es 40 M _ hq (by omega) hs (by omega) (by omega) HM.out EF.out E1.out).mono ?_
  rintro e w3 ⟨v3, rfl, hf3⟩
  obtain ⟨A3', cap, e3, hc1, hc2, hh3, hA3⟩ := Has.of_own (show w3.ownsRow _ 5 1 v3 M _ from hf3.1)
  subst e3
  obtain ⟨S3, rfl⟩ := some_of hh3 (by omega)
  obtain ⟨G, rfl, hG⟩ := hA3 _ rfl
  have GB := Lib.hid (Nat.le_trans (up BB.out rfl) hG)
  have BB := Lib.hid (BB.out.trans (hf3.2.mono (up BB.out rfl)))
  obtain ⟨cur, hcur⟩ := own_at (show w3.ownsRow _ 5 1 (.slice (some ⟨G, 0, none⟩) M cap) M _ from hf3.1)
  generalize told q s es M = L0 at *
  have hKl : K < L0.length := by rw [hh3.1]; exact hK
  have hcK : w3.cell? ⟨G, K, none⟩ = some (.int .u8 (L0[K].toNat : Int)) := by have := hh3.cell K hK; rw [Nat.zero_add] at this; exact this
  have hfK : w3.frozen? ⟨G, K, none⟩ = false := hcur.frozen K
  have H := Lib.hid (has_set hh3 hcur K hK (L0[K] ^^^ z))
  have BB := Lib.hid (BB.out.setCell (p := ⟨G, K, none⟩) GB.out (.int .u8 ((L0[K] ^^^ z).toNat : Int)))
  have hcm : cap ≤ 9223372036854775807 := by unfold maxLen at hc2; omega
  have hzl := lt8 z
  have hxl := lt8 L0[K]
  have hx8 := Lib.hid (xor8 L0[K] z)
  clear hf3 hh3 hA3 hcur hG hc2 EF E1 GB HM EE EN0
  generalize L0[K] = x at *
  have hKe := KE.out
  go_upto_region 9 with (fail)
  rw [hx8.out]
  clear hcK hfK hx8 hKe hxl hzl KE hKl hK
  generalize w3.setCell ⟨G, K, none⟩ (.int .u8 ((x ^^^ z).toNat : Int)) = w4 at *
  generalize L0.set K (x ^^^ z) = LX at *
  obtain ⟨o2, ho2⟩ : ∃ o2, (cap = J ∧ o2 = 0) ∨ (cap ≠ J ∧ o2 = J) := by
    by_cases e : cap = J
    · exact ⟨_, .inl ⟨e, rfl⟩⟩
    · exact ⟨_, .inr ⟨e, rfl⟩⟩
  have H := Lib.hid (show Has w4.drew (some ⟨G, 0, none⟩) M LX from H.out.drewN 1)
  have BB := Lib.hid (show Below w.heap.size w w4.drew from below_drewN BB.out 1)
  have D2 := Lib.hid (show Has w4.drew (some ⟨G, o2, none⟩) (M - J) (LX.drop J) by
    rcases ho2 with ⟨e, e2⟩ | ⟨e, e2⟩
    · have hn0 : M - J = 0 := by omega
      rw [hn0, List.drop_eq_nil_of_le (by rw [H.out.1]; omega)]
      exact Has.nil _ _
    · have h3 := H.out.drop J hKn
      rw [e2]
      simpa using h3)
  have hle4 : len ≤ M := by omega
  refine wp_region_early (fun _ => True) (fun _ => true) (by kernel_rfl) ?_
  change wpEarly _ _ _ _ _ _ 10 (Array.replicate 10 false) _ w4.drew
  generalize w4.drew = uS at *
  refine early_take (i := 0) 48 (.slice (some ⟨G, 0, none⟩) M cap) rfl rfl (by kernel_rfl) (by kernel_rfl) (by kernel_rfl) (by kernel_rfl) rfl (fun _ _ _ h => h) (fun w' hw' => by go_simp) trivial ?_
  simp only [Act.put, List.setIfInBounds_toArray, List.set_cons_zero, List.set_cons_succ]
  refine early_take (i := 1) 49 (.int .i64 (J : Int)) rfl rfl (by kernel_rfl) (by kernel_rfl) (by kernel_rfl) (by kernel_rfl) rfl (fun _ _ _ h => h) (fun w' hw' => by go_simp) trivial ?_
  simp only [Act.put, List.setIfInBounds_toArray, List.set_cons_zero, List.set_cons_succ]
  refine early_take (i := 2) 50 (.int .i64 (len : Int)) rfl rfl (by kernel_rfl) (by kernel_rfl) (by kernel_rfl) (by kernel_rfl) rfl (fun _ _ _ h => h) (fun w' hw' => by go_simp; exact wrap_of (by omega) (by omega)) trivial ?_
  simp only [Act.put, List.setIfInBounds_toArray, List.set_cons_zero, List.set_cons_succ]
  refine early_take (i := 3) 51 (.slice (some ⟨G, 0, none⟩) len cap) rfl rfl (by kernel_rfl) (by kernel_rfl) (by kernel_rfl) (by kernel_rfl) rfl (fun _ _ _ h => h) (fun w' hw' => by go_simp <;> first | omega | (intro h; exfalso; omega)) trivial ?_
  simp only [Act.put, List.setIfInBounds_toArray, List.set_cons_zero, List.set_cons_succ]
  refine early_take (i := 5) 53 (.slice (some ⟨G, 0, none⟩) M cap) rfl rfl (by kernel_rfl) (by kernel_rfl) (by kernel_rfl) (by kernel_rfl) rfl (fun _ _ _ h => h) (fun w' hw' => by go_simp) trivial ?_
  simp only [Act.put, List.setIfInBounds_toArray, List.set_cons_zero, List.set_cons_succ]
  refine early_take (i := 6) 54 (.int .i64 (J : Int)) rfl rfl (by kernel_rfl) (by kernel_rfl) (by kernel_rfl) (by kernel_rfl) rfl (fun _ _ _ h => h) (fun w' hw' => by go_simp) trivial ?_
  simp only [Act.put, List.setIfInBounds_toArray, List.set_cons_zero, List.set_cons_succ]
  refine early_take (i := 7) 55 (.slice (some ⟨G, o2, none⟩) (M - J) (cap - J)) rfl rfl (by kernel_rfl) (by kernel_rfl) (by kernel_rfl) (by kernel_rfl) rfl (fun _ _ _ h => h) (fun w' hw' => by rcases ho2 with ⟨e, rfl⟩ | ⟨e, rfl⟩ <;> go_simp <;> first | omega | (intro h; exfalso; omega) | (simp_all; done) | (simp [e]; omega)) trivial ?_
  simp only [Act.put, List.setIfInBounds_toArray, List.set_cons_zero, List.set_cons_succ]
  refine early_only (i := 4) (by kernel_rfl) rfl (fun K hK => ?_)
  simp only [opWp, List.getElem?_toArray, List.getElem?_cons_succ, List.getElem?_cons_zero]
  go_simp
  go_at_call 14
  refine (sealed_any _ len cap (LX.take len) uS (by omega) (H.out.take len hle4)).mono ?_
  rintro e uT ⟨vT, rfl, hfT⟩
  rw [L4.out] at hfT
  have HO := Lib.hid hfT.1
  have BL := Lib.hid hfT.2
  have D2 := Lib.hid (D2.out.below hfT.2)
  clear hfT
  refine hK _ _ (fun _ => trivial) ?_
  refine early_only (i := 8) (by kernel_rfl) rfl (fun K hK => ?_)
  simp only [opWp, List.getElem?_toArray, List.getElem?_cons_succ, List.getElem?_cons_zero]
  refine wp_append_has (.tmp 52) (.tmp 55) rfl uS.heap.size vT J (sealL (LX.take len)) rfl HO.out ⟨G, o2, none⟩ (M - J) (cap - J) (LX.drop J) rfl D2.out (by omega) BL.out.size ?_
  intro A8 c8 w8 hown hgr hfar
  have BB := Lib.hid ((BB.out.trans (BL.out.mono BB.out.size)).grown hgr (Nat.le_trans BB.out.size BL.out.size) (fun k hk => Nat.le_trans BB.out.size (HO.out.lt k hk).1))
  obtain ⟨A', c', e', hcU1, hcU2, hhU, _⟩ := Has.of_own hown
  injection e' with e1 e2 e3
  subst e1 e3
  have H := Lib.hid hhU
  have CU := Lib.hid (And.intro hcU1 hcU2)
  clear hown hgr hfar hcU1 hcU2 hhU HO BL D2 e2
  refine hK _ _ (fun _ => trivial) ?_
  simp only [Act.put, List.setIfInBounds_toArray, List.set_cons_zero, List.set_cons_succ]
  refine early_take (i := 9) 15 (.slice A8 (J + (M - J)) c8) rfl rfl (by kernel_rfl) (by kernel_rfl) (by kernel_rfl) (by kernel_rfl) rfl (fun _ _ _ h => h) (fun w' hw' => by go_simp) trivial ?_
  simp only [Act.put, List.setIfInBounds_toArray, List.set_cons_zero, List.set_cons_succ]
  refine early_done (by kernel_rfl) ?_
  generalize sealL (LX.take len) ++ LX.drop J = L8 at *
  have NB := Lib.hid (show J + (M - J) = M by omega)
  generalize J + (M - J) = N8 at *
  have hN8 : N8 ≤ 600 := by have := NB.out; omega
  clear ho2 NB hle4
  obtain ⟨⟨Q, Z, ES⟩, EC, hD⟩ : ∃ X EC, dec L8 S = (X, EC) := ⟨_, _, rfl⟩
  obtain ⟨NE, hNE⟩ : ∃ NE, ES.length = NE := ⟨_, rfl⟩
  have EL : NE ≤ 600 := by
    have h1 := dec_len L8 S
    rw [hD, H.out.1] at h1
    simp only [hNE] at h1
    omega
  have HD := Lib.hid hD
  have EN := Lib.hid hNE
  clear hD hNE
  go_wp2_with fail
  refine (decode_any A8 N8 c8 L8 S _ (by omega) CU.out.1 CU.out.2 H.out).mono ?_
  rintro e wD ⟨A3, c3, rfl, hE3, hbD⟩
  rw [HD.out] at hE3 ⊢
  simp only [EN.out] at hE3 ⊢
  have H := Lib.hid (H.out.below hbD)
  have BB := Lib.hid (BB.out.trans (hbD.mono (up BB.out rfl)))
  have US := Lib.hid (up BB.out rfl)
  have H := Lib.hid (still H.out ((Below.refl _ _).alloc (Nat.le_refl _) (.cells #[.int .u64 (Q : Int), .int .i64 Z, .slice A3 NE c3] 28)))
  have E3 := Lib.hid (hE3.alloc (.cells #[.int .u64 (Q : Int), .int .i64 Z, .slice A3 NE c3] 28))
  have PX := Lib.hid (At.new (w := wD) (g := wD.heap.size) #[.int .u64 (Q : Int), .int .i64 Z, .slice A3 NE c3] 28 rfl)
  have BB := Lib.hid (BB.out.alloc US.out (.cells #[.int .u64 (Q : Int), .int .i64 Z, .slice A3 NE c3] 28))
  clear hE3 hbD US
  go_wp2_with fail
  generalize hP : wD.heap.size = P at *
  generalize wD.alloc (.cells #[.int .u64 (Q : Int), .int .i64 Z, .slice A3 NE c3] 28) = wE at *
  clear hP
  refine (reads_any A8 N8 c8 L8 S _ (by omega) CU.out.1 CU.out.2 ⟨by omega, by omega⟩ H.out).mono ?_
  rintro e wF ⟨A4, c4, rfl, hE4, hbF⟩
  rw [HD.out] at hE4 ⊢
  simp only [EN.out] at hE4 ⊢
  have E3 := Lib.hid ((E3.out.below hbF).alloc (.cells #[.int .u64 (Q : Int), .int .i64 Z, .slice A4 NE c4] 28))
  have E4 := Lib.hid (hE4.alloc (.cells #[.int .u64 (Q : Int), .int .i64 Z, .slice A4 NE c4] 28))
  have PX := Lib.hid ((PX.out.below hbF PX.out.lt).alloc (.cells #[.int .u64 (Q : Int), .int .i64 Z, .slice A4 NE c4] 28))
  have PY := Lib.hid (At.new (w := wF) (g := wF.heap.size) #[.int .u64 (Q : Int), .int .i64 Z, .slice A4 NE c4] 28 rfl)
  have BB := Lib.hid (BB.out.trans (hbF.mono (up BB.out rfl)))
  have US := Lib.hid (up BB.out rfl)
  have BB := Lib.hid (BB.out.alloc US.out (.cells #[.int .u64 (Q : Int), .int .i64 Z, .slice A4 NE c4] 28))
  clear hE4 hbF US H
  have p0 := PX.out.cell 0; have p1 := PX.out.cell 1; have p2 := PX.out.cell 2
  have q0 := PY.out.cell 0; have q1 := PY.out.cell 1; have q2 := PY.out.cell 2
  go_wp2_with fail
  clear p0 p1 p2 q0 q1 q2
  refine (same_any Q Q Z Z A3 A4 NE NE c3 c4 ES ES _ (by omega) (by omega) E3.out E4.out).mono ?_
  rintro e wG ⟨d, rfl, hd, hbG⟩
  obtain rfl : d = true := hd.2 rfl
  have BB := Lib.hid (BB.out.trans (hbG.mono (up BB.out rfl)))
  clear hd hbG
  go_wp2
  go_ret
  exact ⟨by simp, BB.out⟩

theorem spoilt_in (q s a z d : Int) (sl : Bool) (A : Option Addr) (n c : Nat) (L : List Sl) (w : World) (hq : 0 ≤ q ∧ q ≤ 18446744073709551615) (hs : 0 ≤ s ∧ s ≤ 65535) (ha : 0 ≤ a ∧ a ≤ 255) (hz : 0 ≤ z ∧ z ≤ 255) (hd : -128 ≤ d ∧ d ≤ 127) (h : Ins w A n c L) :
    Calls Try.prog 5 #[.int .u64 q, .int .u16 s, .slice A n c, .int .u8 a, .int .u8 z, .int .i8 d, .bool sl] w fun e w' => e = .returned (.bool true) ∧ Below w.heap.size w w' := by
  obtain ⟨q, rfl⟩ := Int.eq_ofNat_of_zero_le hq.1
  obtain ⟨s, rfl⟩ := Int.eq_ofNat_of_zero_le hs.1
  obtain ⟨a, rfl⟩ := Int.eq_ofNat_of_zero_le ha.1
  obtain ⟨z, rfl⟩ := Int.eq_ofNat_of_zero_le hz.1
  obtain ⟨hh, hc, hcm⟩ := h
  by_cases hn : n ≤ 20
  · have ez : (z : Int) = ((BitVec.ofNat 8 z).toNat : Int) := by
      rw [BitVec.toNat_ofNat]
      omega
    rw [ez]
    have hl : a % max (15 + 5 * n) 40 < max (15 + 5 * n) 40 := Nat.mod_lt _ (by omega)
    cases sl
    · exact spoilt_bare q s a _ _ d _ A n c _ _ _ L w (by omega) (by omega) (by omega) hd.1 hd.2 rfl hn rfl rfl rfl hl rfl hh
    · exact spoilt_seal q s a _ _ d _ A n c _ _ _ L w (by omega) (by omega) (by omega) hd.1 hd.2 rfl hn rfl rfl rfl hl rfl hh
  · clear hh
    unfold maxLen at hcm
    have hn1 : 20 < n := by omega
    have hn2 : n ≤ 9223372036854775807 := by omega
    go_enter Try.func5, Try.ntmps5
    go_wp2_with fail
    refine (awake_any w).mono ?_
    rintro e w0 ⟨rfl, hb0⟩
    have BB := Lib.hid hb0
    clear hb0
    go_wp2
    go_ret
    exact ⟨rfl, BB.out⟩
end Go.Proofs.Ytmdgnglefikpjaa
