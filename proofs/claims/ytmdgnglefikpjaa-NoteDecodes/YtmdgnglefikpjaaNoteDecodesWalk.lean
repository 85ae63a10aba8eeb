/-
  THE WALK OF NoteDecodes: any bytes, any number of slots, sealed anew or not.
-/
import Derived.Test.YtmdgnglefikpjaaReads
import Derived.Test.YtmdgnglefikpjaaSame
import Derived.Test.YtmdgnglefikpjaaIn
namespace Go.Proofs.Ytmdgnglefikpjaa
open Go.RowKit
set_option linter.unusedVariables false
set_option maxRecDepth 100000


theorem dec_len (L : List (BitVec 8)) (s : Int) : (dec L s).1.es.length ≤ L.length := by
  by_cases hr : Room L s
  · have h2 := hr.2
    obtain ⟨m, rfl⟩ := Int.eq_ofNat_of_zero_le hr.1
    by_cases hs : Crc.held (L.drop (11 + 5 * m)) 4 = Crc.sum (L.take (11 + 5 * m))
    · by_cases hg : good L m
      · rw [dec_good hr hs hg]
        show (enUpto L m).length ≤ _
        rw [enUpto_len]
        omega
      · rw [dec_bad hr hs hg]
        exact Nat.zero_le _
    · rw [dec_sum hr hs]
      exact Nat.zero_le _
  · rw [dec_size hr]
    exact Nat.zero_le _
theorem still {w w1 : World} {A : Option Addr} {n : Nat} {l : List (BitVec 8)} (h : Has w A n l) (hb : Below w.heap.size w w1) : Has w1 A n l := h.below hb
set_option maxHeartbeats 2000000 in
theorem decodes_bare (A : Option Addr) (n c : Nat) (L : List (BitVec 8)) (s : Int) (w : World) (hn : n ≤ 300) (hc : n ≤ c) (hcm : c ≤ maxLen) (hs1 : -9223372036854775808 ≤ s) (hs2 : s ≤ 9223372036854775807)  (h : Has w A n L) :
    Calls Try.prog 4 #[.slice A n c, .int .i64 s, .bool false] w fun e w' => e = .returned (.bool true) ∧ Below w.heap.size w w' := by
  have H := Lib.hid h
  clear h
  go_enter Try.func4, Try.ntmps4
  go_wp2_with fail
  refine (awake_any w).mono ?_
  rintro e w0 ⟨rfl, hb0⟩
  have H := Lib.hid (H.out.below hb0)
  have BB := Lib.hid hb0
  clear hb0
  obtain ⟨⟨Q, Z, ES⟩, EC, hD⟩ : ∃ X EC, dec L s = (X, EC) := ⟨_, _, rfl⟩
  obtain ⟨NE, hNE⟩ : ∃ NE, ES.length = NE := ⟨_, rfl⟩
  have EL : NE ≤ 600 := by
    have h1 := dec_len L s
    rw [hD, H.out.1] at h1
    simp only [hNE] at h1
    omega
  have HD := Lib.hid hD
  have EN := Lib.hid hNE
  clear hD hNE
  go_wp2_with fail
  refine (decode_any A n c L s _ (by omega) hc hcm H.out).mono ?_
  rintro e wD ⟨A3, c3, rfl, hE3, hbD⟩
  rw [HD.out] at hE3 ⊢
  simp only [EN.out] at hE3 ⊢
  have H := Lib.hid (H.out.below hbD)
  have BB := Lib.hid (BB.out.trans (hbD.mono (up BB.out rfl)))
  have US := Lib.hid (up BB.out rfl)
  have H := Lib.hid (still H.out ((Below.refl _ _).alloc (Nat.le_refl _) (.cells #[.int .u64 (Q : Int), .int .i64 Z, .slice A3 NE c3] 28)))
  have E3 := Lib.hid (hE3.alloc (.cells #[.int .u64 (Q : Int), .int .i64 Z, .slice A3 NE c3] 28))
  have PX := Lib.hid (At.new (w := wD) (g := wD.heap.size) #[.int .u64 (Q : Int), .int .i64 Z, .slice A3 NE c3] 28 rfl)
  have BB := Lib.hid (BB.out.alloc US.out (.cells #[.int .u64 (Q : Int), .int .i64 Z, .slice A3 NE c3] 28))
  clear hE3 hbD US
  go_wp2_with fail
  generalize hP : wD.heap.size = P at *
  generalize wD.alloc (.cells #[.int .u64 (Q : Int), .int .i64 Z, .slice A3 NE c3] 28) = wE at *
  clear hP
  refine (reads_any A n c L s _ (by omega) hc hcm ⟨hs1, hs2⟩ H.out).mono ?_
  rintro e wF ⟨A4, c4, rfl, hE4, hbF⟩
  rw [HD.out] at hE4 ⊢
  simp only [EN.out] at hE4 ⊢
  have E3 := Lib.hid ((E3.out.below hbF).alloc (.cells #[.int .u64 (Q : Int), .int .i64 Z, .slice A4 NE c4] 28))
  have E4 := Lib.hid (hE4.alloc (.cells #[.int .u64 (Q : Int), .int .i64 Z, .slice A4 NE c4] 28))
  have PX := Lib.hid ((PX.out.below hbF PX.out.lt).alloc (.cells #[.int .u64 (Q : Int), .int .i64 Z, .slice A4 NE c4] 28))
  have PY := Lib.hid (At.new (w := wF) (g := wF.heap.size) #[.int .u64 (Q : Int), .int .i64 Z, .slice A4 NE c4] 28 rfl)
  have BB := Lib.hid (BB.out.trans (hbF.mono (up BB.out rfl)))
  have US := Lib.hid (up BB.out rfl)
  have BB := Lib.hid (BB.out.alloc US.out (.cells #[.int .u64 (Q : Int), .int .i64 Z, .slice A4 NE c4] 28))
  clear hE4 hbF US H
  have p0 := PX.out.cell 0; have p1 := PX.out.cell 1; have p2 := PX.out.cell 2
  have q0 := PY.out.cell 0; have q1 := PY.out.cell 1; have q2 := PY.out.cell 2
  go_wp2_with fail
  clear p0 p1 p2 q0 q1 q2
  refine (same_any Q Q Z Z A3 A4 NE NE c3 c4 ES ES _ (by omega) (by omega) E3.out E4.out).mono ?_
  rintro e wG ⟨d, rfl, hd, hbG⟩
  obtain rfl : d = true := hd.2 rfl
  have BB := Lib.hid (BB.out.trans (hbG.mono (up BB.out rfl)))
  clear hd hbG
  go_wp2
  go_ret
  exact ⟨by simp, BB.out⟩
set_option maxHeartbeats 2000000 in
theorem decodes_neg (A : Option Addr) (n c : Nat) (L : List (BitVec 8)) (s : Int) (w : World) (hn : n ≤ 300) (hc : n ≤ c) (hcm : c ≤ maxLen) (hs1 : -9223372036854775808 ≤ s) (hs2 : s ≤ 9223372036854775807) (h0 : s < 0) (h : Has w A n L) :
    Calls Try.prog 4 #[.slice A n c, .int .i64 s, .bool true] w fun e w' => e = .returned (.bool true) ∧ Below w.heap.size w w' := by
  have H := Lib.hid h
  clear h
  go_enter Try.func4, Try.ntmps4
  go_wp2_with fail
  refine (awake_any w).mono ?_
  rintro e w0 ⟨rfl, hb0⟩
  have H := Lib.hid (H.out.below hb0)
  have BB := Lib.hid hb0
  clear hb0
  obtain ⟨⟨Q, Z, ES⟩, EC, hD⟩ : ∃ X EC, dec L s = (X, EC) := ⟨_, _, rfl⟩
  obtain ⟨NE, hNE⟩ : ∃ NE, ES.length = NE := ⟨_, rfl⟩
  have EL : NE ≤ 600 := by
    have h1 := dec_len L s
    rw [hD, H.out.1] at h1
    simp only [hNE] at h1
    omega
  have HD := Lib.hid hD
  have EN := Lib.hid hNE
  clear hD hNE
  go_wp2_with fail
  refine (decode_any A n c L s _ (by omega) hc hcm H.out).mono ?_
  rintro e wD ⟨A3, c3, rfl, hE3, hbD⟩
  rw [HD.out] at hE3 ⊢
  simp only [EN.out] at hE3 ⊢
  have H := Lib.hid (H.out.below hbD)
  have BB := Lib.hid (BB.out.trans (hbD.mono (up BB.out rfl)))
  have US := Lib.hid (up BB.out rfl)
  have H := Lib.hid (still H.out ((Below.refl _ _).alloc (Nat.le_refl _) (.cells #[.int .u64 (Q : Int), .int .i64 Z, .slice A3 NE c3] 28)))
  have E3 := Lib.hid (hE3.alloc (.cells #[.int .u64 (Q : Int), .int .i64 Z, .slice A3 NE c3] 28))
  have PX := Lib.hid (At.new (w := wD) (g := wD.heap.size) #[.int .u64 (Q : Int), .int .i64 Z, .slice A3 NE c3] 28 rfl)
  have BB := Lib.hid (BB.out.alloc US.out (.cells #[.int .u64 (Q : Int), .int .i64 Z, .slice A3 NE c3] 28))
  clear hE3 hbD US
  go_wp2_with fail
  generalize hP : wD.heap.size = P at *
  generalize wD.alloc (.cells #[.int .u64 (Q : Int), .int .i64 Z, .slice A3 NE c3] 28) = wE at *
  clear hP
  refine (reads_any A n c L s _ (by omega) hc hcm ⟨hs1, hs2⟩ H.out).mono ?_
  rintro e wF ⟨A4, c4, rfl, hE4, hbF⟩
  rw [HD.out] at hE4 ⊢
  simp only [EN.out] at hE4 ⊢
  have E3 := Lib.hid ((E3.out.below hbF).alloc (.cells #[.int .u64 (Q : Int), .int .i64 Z, .slice A4 NE c4] 28))
  have E4 := Lib.hid (hE4.alloc (.cells #[.int .u64 (Q : Int), .int .i64 Z, .slice A4 NE c4] 28))
  have PX := Lib.hid ((PX.out.below hbF PX.out.lt).alloc (.cells #[.int .u64 (Q : Int), .int .i64 Z, .slice A4 NE c4] 28))
  have PY := Lib.hid (At.new (w := wF) (g := wF.heap.size) #[.int .u64 (Q : Int), .int .i64 Z, .slice A4 NE c4] 28 rfl)
  have BB := Lib.hid (BB.out.trans (hbF.mono (up BB.out rfl)))
  have US := Lib.hid (up BB.out rfl)
  have BB := Lib.hid (BB.out.alloc US.out (.cells #[.int .u64 (Q : Int), .int .i64 Z, .slice A4 NE c4] 28))
  clear hE4 hbF US H
  have p0 := PX.out.cell 0; have p1 := PX.out.cell 1; have p2 := PX.out.cell 2
  have q0 := PY.out.cell 0; have q1 := PY.out.cell 1; have q2 := PY.out.cell 2
  go_wp2_with fail
  clear p0 p1 p2 q0 q1 q2
  refine (same_any Q Q Z Z A3 A4 NE NE c3 c4 ES ES _ (by omega) (by omega) E3.out E4.out).mono ?_
  rintro e wG ⟨d, rfl, hd, hbG⟩
  obtain rfl : d = true := hd.2 rfl
  have BB := Lib.hid (BB.out.trans (hbG.mono (up BB.out rfl)))
  clear hd hbG
  go_wp2
  go_ret
  exact ⟨by simp, BB.out⟩
set_option maxHeartbeats 2000000 in
theorem decodes_big (A : Option Addr) (n c : Nat) (L : List (BitVec 8)) (s : Int) (w : World) (hn : n ≤ 300) (hc : n ≤ c) (hcm : c ≤ maxLen) (hs1 : -9223372036854775808 ≤ s) (hs2 : s ≤ 9223372036854775807) (h0 : 0 ≤ s) (h1 : 50 < s) (h : Has w A n L) :
    Calls Try.prog 4 #[.slice A n c, .int .i64 s, .bool true] w fun e w' => e = .returned (.bool true) ∧ Below w.heap.size w w' := by
  have H := Lib.hid h
  clear h
  go_enter Try.func4, Try.ntmps4
  go_wp2_with fail
  refine (awake_any w).mono ?_
  rintro e w0 ⟨rfl, hb0⟩
  have H := Lib.hid (H.out.below hb0)
  have BB := Lib.hid hb0
  clear hb0
  obtain ⟨⟨Q, Z, ES⟩, EC, hD⟩ : ∃ X EC, dec L s = (X, EC) := ⟨_, _, rfl⟩
  obtain ⟨NE, hNE⟩ : ∃ NE, ES.length = NE := ⟨_, rfl⟩
  have EL : NE ≤ 600 := by
    have h1 := dec_len L s
    rw [hD, H.out.1] at h1
    simp only [hNE] at h1
    omega
  have HD := Lib.hid hD
  have EN := Lib.hid hNE
  clear hD hNE
  go_wp2_with fail
  refine (decode_any A n c L s _ (by omega) hc hcm H.out).mono ?_
  rintro e wD ⟨A3, c3, rfl, hE3, hbD⟩
  rw [HD.out] at hE3 ⊢
  simp only [EN.out] at hE3 ⊢
  have H := Lib.hid (H.out.below hbD)
  have BB := Lib.hid (BB.out.trans (hbD.mono (up BB.out rfl)))
  have US := Lib.hid (up BB.out rfl)
  have H := Lib.hid (still H.out ((Below.refl _ _).alloc (Nat.le_refl _) (.cells #[.int .u64 (Q : Int), .int .i64 Z, .slice A3 NE c3] 28)))
  have E3 := Lib.hid (hE3.alloc (.cells #[.int .u64 (Q : Int), .int .i64 Z, .slice A3 NE c3] 28))
  have PX := Lib.hid (At.new (w := wD) (g := wD.heap.size) #[.int .u64 (Q : Int), .int .i64 Z, .slice A3 NE c3] 28 rfl)
  have BB := Lib.hid (BB.out.alloc US.out (.cells #[.int .u64 (Q : Int), .int .i64 Z, .slice A3 NE c3] 28))
  clear hE3 hbD US
  go_wp2_with fail
  generalize hP : wD.heap.size = P at *
  generalize wD.alloc (.cells #[.int .u64 (Q : Int), .int .i64 Z, .slice A3 NE c3] 28) = wE at *
  clear hP
  refine (reads_any A n c L s _ (by omega) hc hcm ⟨hs1, hs2⟩ H.out).mono ?_
  rintro e wF ⟨A4, c4, rfl, hE4, hbF⟩
  rw [HD.out] at hE4 ⊢
  simp only [EN.out] at hE4 ⊢
  have E3 := Lib.hid ((E3.out.below hbF).alloc (.cells #[.int .u64 (Q : Int), .int .i64 Z, .slice A4 NE c4] 28))
  have E4 := Lib.hid (hE4.alloc (.cells #[.int .u64 (Q : Int), .int .i64 Z, .slice A4 NE c4] 28))
  have PX := Lib.hid ((PX.out.below hbF PX.out.lt).alloc (.cells #[.int .u64 (Q : Int), .int .i64 Z, .slice A4 NE c4] 28))
  have PY := Lib.hid (At.new (w := wF) (g := wF.heap.size) #[.int .u64 (Q : Int), .int .i64 Z, .slice A4 NE c4] 28 rfl)
  have BB := Lib.hid (BB.out.trans (hbF.mono (up BB.out rfl)))
  have US := Lib.hid (up BB.out rfl)
  have BB := Lib.hid (BB.out.alloc US.out (.cells #[.int .u64 (Q : Int), .int .i64 Z, .slice A4 NE c4] 28))
  clear hE4 hbF US H
  have p0 := PX.out.cell 0; have p1 := PX.out.cell 1; have p2 := PX.out.cell 2
  have q0 := PY.out.cell 0; have q1 := PY.out.cell 1; have q2 := PY.out.cell 2
  go_wp2_with fail
  clear p0 p1 p2 q0 q1 q2
  refine (same_any Q Q Z Z A3 A4 NE NE c3 c4 ES ES _ (by omega) (by omega) E3.out E4.out).mono ?_
  rintro e wG ⟨d, rfl, hd, hbG⟩
  obtain rfl : d = true := hd.2 rfl
  have BB := Lib.hid (BB.out.trans (hbG.mono (up BB.out rfl)))
  clear hd hbG
  go_wp2
  go_ret
  exact ⟨by simp, BB.out⟩
set_option maxHeartbeats 2000000 in
theorem decodes_short (A : Option Addr) (n c : Nat) (L : List (BitVec 8)) (s : Int) (w : World) (hn : n ≤ 300) (hc : n ≤ c) (hcm : c ≤ maxLen) (hs1 : -9223372036854775808 ≤ s) (hs2 : s ≤ 9223372036854775807) (h0 : 0 ≤ s) (h1 : s ≤ 50) (h2 : (n : Int) < 15 + 5 * s) (h : Has w A n L) :
    Calls Try.prog 4 #[.slice A n c, .int .i64 s, .bool true] w fun e w' => e = .returned (.bool true) ∧ Below w.heap.size w w' := by
  have H := Lib.hid h
  clear h
  go_enter Try.func4, Try.ntmps4
  go_wp2_with fail
  refine (awake_any w).mono ?_
  rintro e w0 ⟨rfl, hb0⟩
  have H := Lib.hid (H.out.below hb0)
  have BB := Lib.hid hb0
  clear hb0
  obtain ⟨⟨Q, Z, ES⟩, EC, hD⟩ : ∃ X EC, dec L s = (X, EC) := ⟨_, _, rfl⟩
  obtain ⟨NE, hNE⟩ : ∃ NE, ES.length = NE := ⟨_, rfl⟩
  have EL : NE ≤ 600 := by
    have h1 := dec_len L s
    rw [hD, H.out.1] at h1
    simp only [hNE] at h1
    omega
  have HD := Lib.hid hD
  have EN := Lib.hid hNE
  clear hD hNE
  go_wp2_with fail
  refine (decode_any A n c L s _ (by omega) hc hcm H.out).mono ?_
  rintro e wD ⟨A3, c3, rfl, hE3, hbD⟩
  rw [HD.out] at hE3 ⊢
  simp only [EN.out] at hE3 ⊢
  have H := Lib.hid (H.out.below hbD)
  have BB := Lib.hid (BB.out.trans (hbD.mono (up BB.out rfl)))
  have US := Lib.hid (up BB.out rfl)
  have H := Lib.hid (still H.out ((Below.refl _ _).alloc (Nat.le_refl _) (.cells #[.int .u64 (Q : Int), .int .i64 Z, .slice A3 NE c3] 28)))
  have E3 := Lib.hid (hE3.alloc (.cells #[.int .u64 (Q : Int), .int .i64 Z, .slice A3 NE c3] 28))
  have PX := Lib.hid (At.new (w := wD) (g := wD.heap.size) #[.int .u64 (Q : Int), .int .i64 Z, .slice A3 NE c3] 28 rfl)
  have BB := Lib.hid (BB.out.alloc US.out (.cells #[.int .u64 (Q : Int), .int .i64 Z, .slice A3 NE c3] 28))
  clear hE3 hbD US
  go_wp2_with fail
  generalize hP : wD.heap.size = P at *
  generalize wD.alloc (.cells #[.int .u64 (Q : Int), .int .i64 Z, .slice A3 NE c3] 28) = wE at *
  clear hP
  refine (reads_any A n c L s _ (by omega) hc hcm ⟨hs1, hs2⟩ H.out).mono ?_
  rintro e wF ⟨A4, c4, rfl, hE4, hbF⟩
  rw [HD.out] at hE4 ⊢
  simp only [EN.out] at hE4 ⊢
  have E3 := Lib.hid ((E3.out.below hbF).alloc (.cells #[.int .u64 (Q : Int), .int .i64 Z, .slice A4 NE c4] 28))
  have E4 := Lib.hid (hE4.alloc (.cells #[.int .u64 (Q : Int), .int .i64 Z, .slice A4 NE c4] 28))
  have PX := Lib.hid ((PX.out.below hbF PX.out.lt).alloc (.cells #[.int .u64 (Q : Int), .int .i64 Z, .slice A4 NE c4] 28))
  have PY := Lib.hid (At.new (w := wF) (g := wF.heap.size) #[.int .u64 (Q : Int), .int .i64 Z, .slice A4 NE c4] 28 rfl)
  have BB := Lib.hid (BB.out.trans (hbF.mono (up BB.out rfl)))
  have US := Lib.hid (up BB.out rfl)
  have BB := Lib.hid (BB.out.alloc US.out (.cells #[.int .u64 (Q : Int), .int .i64 Z, .slice A4 NE c4] 28))
  clear hE4 hbF US H
  have p0 := PX.out.cell 0; have p1 := PX.out.cell 1; have p2 := PX.out.cell 2
  have q0 := PY.out.cell 0; have q1 := PY.out.cell 1; have q2 := PY.out.cell 2
  go_wp2_with fail
  clear p0 p1 p2 q0 q1 q2
  refine (same_any Q Q Z Z A3 A4 NE NE c3 c4 ES ES _ (by omega) (by omega) E3.out E4.out).mono ?_
  rintro e wG ⟨d, rfl, hd, hbG⟩
  obtain rfl : d = true := hd.2 rfl
  have BB := Lib.hid (BB.out.trans (hbG.mono (up BB.out rfl)))
  clear hd hbG
  go_wp2
  go_ret
  exact ⟨by simp, BB.out⟩
set_option maxHeartbeats 4000000 in
theorem decodes_seal (ab off n c m J len : Nat) (L : List (BitVec 8)) (w : World) (hn : n ≤ 300) (hc : n ≤ c) (hcm : c ≤ 9223372036854775807) (hm : m ≤ 50) (hJ : J = 15 + 5 * m) (hlen : len = 11 + 5 * m) (hKn : J ≤ n) (h : Has w (some ⟨ab, off, none⟩) n L) :
    Calls Try.prog 4 #[.slice (some ⟨ab, off, none⟩) n c, .int .i64 (m : Int), .bool true] w fun e w' => e = .returned (.bool true) ∧ Below w.heap.size w w' := by
  have hKi : 15 + 5 * (m : Int) = (J : Int) := by omega
  have K4 : (J : Int) - 4 = (len : Int) := by omega
  have L4 := Lib.hid (show len + 4 = J by omega)
  clear hJ hlen
  have H := Lib.hid h
  clear h
  go_enter Try.func4, Try.ntmps4
  go_wp2_with fail
  refine (awake_any w).mono ?_
  rintro e w0 ⟨rfl, hb0⟩
  have H := Lib.hid (H.out.below hb0)
  have BB := Lib.hid hb0
  clear hb0
  go_upto_region 7 with (fail)
  obtain ⟨o2, ho2⟩ : ∃ o2, (c = J ∧ o2 = off) ∨ (c ≠ J ∧ o2 = off + J) := by
    by_cases e : c = J
    · exact ⟨_, .inl ⟨e, rfl⟩⟩
    · exact ⟨_, .inr ⟨e, rfl⟩⟩
  have H := Lib.hid (show Has w0.drew (some ⟨ab, off, none⟩) n L from H.out.drewN 1)
  have BB := Lib.hid (show Below w.heap.size w w0.drew from below_drewN BB.out 1)
  have D2 := Lib.hid (show Has w0.drew (some ⟨ab, o2, none⟩) (n - J) (L.drop J) by
    rcases ho2 with ⟨e, e2⟩ | ⟨e, e2⟩
    · have hn0 : n - J = 0 := by omega
      rw [hn0, List.drop_eq_nil_of_le (by rw [H.out.1]; omega)]
      exact Has.nil _ _
    · have h3 := H.out.drop J hKn
      rw [e2]
      simpa using h3)
  have hle4 : len ≤ n := by omega
  refine wp_region_early (fun _ => True) (fun _ => true) (by kernel_rfl) ?_
  change wpEarly _ _ _ _ _ _ 10 (Array.replicate 10 false) _ w0.drew
  generalize w0.drew = uS at *
  refine early_take (i := 0) 37 (.slice (some ⟨ab, off, none⟩) n c) rfl rfl (by kernel_rfl) (by kernel_rfl) (by kernel_rfl) (by kernel_rfl) rfl (fun _ _ _ h => h) (fun w' hw' => by go_simp) trivial ?_
  simp only [Act.put, List.setIfInBounds_toArray, List.set_cons_zero, List.set_cons_succ]
  refine early_take (i := 1) 38 (.int .i64 (J : Int)) rfl rfl (by kernel_rfl) (by kernel_rfl) (by kernel_rfl) (by kernel_rfl) rfl (fun _ _ _ h => h) (fun w' hw' => by go_simp) trivial ?_
  simp only [Act.put, List.setIfInBounds_toArray, List.set_cons_zero, List.set_cons_succ]
  refine early_take (i := 2) 39 (.int .i64 (len : Int)) rfl rfl (by kernel_rfl) (by kernel_rfl) (by kernel_rfl) (by kernel_rfl) rfl (fun _ _ _ h => h) (fun w' hw' => by go_simp; exact wrap_of (by omega) (by omega)) trivial ?_
  simp only [Act.put, List.setIfInBounds_toArray, List.set_cons_zero, List.set_cons_succ]
  refine early_take (i := 3) 40 (.slice (some ⟨ab, off, none⟩) len c) rfl rfl (by kernel_rfl) (by kernel_rfl) (by kernel_rfl) (by kernel_rfl) rfl (fun _ _ _ h => h) (fun w' hw' => by go_simp <;> first | omega | (intro h; exfalso; omega)) trivial ?_
  simp only [Act.put, List.setIfInBounds_toArray, List.set_cons_zero, List.set_cons_succ]
  refine early_take (i := 5) 42 (.slice (some ⟨ab, off, none⟩) n c) rfl rfl (by kernel_rfl) (by kernel_rfl) (by kernel_rfl) (by kernel_rfl) rfl (fun _ _ _ h => h) (fun w' hw' => by go_simp) trivial ?_
  simp only [Act.put, List.setIfInBounds_toArray, List.set_cons_zero, List.set_cons_succ]
  refine early_take (i := 6) 43 (.int .i64 (J : Int)) rfl rfl (by kernel_rfl) (by kernel_rfl) (by kernel_rfl) (by kernel_rfl) rfl (fun _ _ _ h => h) (fun w' hw' => by go_simp) trivial ?_
  simp only [Act.put, List.setIfInBounds_toArray, List.set_cons_zero, List.set_cons_succ]
  refine early_take (i := 7) 44 (.slice (some ⟨ab, o2, none⟩) (n - J) (c - J)) rfl rfl (by kernel_rfl) (by kernel_rfl) (by kernel_rfl) (by kernel_rfl) rfl (fun _ _ _ h => h) (fun w' hw' => by rcases ho2 with ⟨e, rfl⟩ | ⟨e, rfl⟩ <;> go_simp <;> first | omega | (intro h; exfalso; omega) | (simp_all; done) | (simp [e]; omega)) trivial ?_
  simp only [Act.put, List.setIfInBounds_toArray, List.set_cons_zero, List.set_cons_succ]
  refine early_only (i := 4) (by kernel_rfl) rfl (fun K hK => ?_)
  simp only [opWp, List.getElem?_toArray, List.getElem?_cons_succ, List.getElem?_cons_zero]
  go_simp
  go_at_call 14
  refine (sealed_any _ len c (L.take len) uS (by omega) (H.out.take len hle4)).mono ?_
  rintro e uT ⟨vT, rfl, hfT⟩
  rw [L4.out] at hfT
  have HO := Lib.hid hfT.1
  have BL := Lib.hid hfT.2
  have D2 := Lib.hid (D2.out.below hfT.2)
  clear hfT
  refine hK _ _ (fun _ => trivial) ?_
  refine early_only (i := 8) (by kernel_rfl) rfl (fun K hK => ?_)
  simp only [opWp, List.getElem?_toArray, List.getElem?_cons_succ, List.getElem?_cons_zero]
  refine wp_append_has (.tmp 41) (.tmp 44) rfl uS.heap.size vT J (sealL (L.take len)) rfl HO.out ⟨ab, o2, none⟩ (n - J) (c - J) (L.drop J) rfl D2.out (by omega) BL.out.size ?_
  intro A8 c8 w8 hown hgr hfar
  have BB := Lib.hid ((BB.out.trans (BL.out.mono BB.out.size)).grown hgr (Nat.le_trans BB.out.size BL.out.size) (fun k hk => Nat.le_trans BB.out.size (HO.out.lt k hk).1))
  obtain ⟨A', c', e', hcU1, hcU2, hhU, _⟩ := Has.of_own hown
  injection e' with e1 e2 e3
  subst e1 e3
  have H := Lib.hid hhU
  have CU := Lib.hid (And.intro hcU1 hcU2)
  clear hown hgr hfar hcU1 hcU2 hhU HO BL D2 e2
  refine hK _ _ (fun _ => trivial) ?_
  simp only [Act.put, List.setIfInBounds_toArray, List.set_cons_zero, List.set_cons_succ]
  refine early_take (i := 9) 0 (.slice A8 (J + (n - J)) c8) rfl rfl (by kernel_rfl) (by kernel_rfl) (by kernel_rfl) (by kernel_rfl) rfl (fun _ _ _ h => h) (fun w' hw' => by go_simp) trivial ?_
  simp only [Act.put, List.setIfInBounds_toArray, List.set_cons_zero]
  refine early_done (by kernel_rfl) ?_
  generalize sealL (L.take len) ++ L.drop J = L8 at *
  have NB := Lib.hid (show J + (n - J) = n by omega)
  generalize J + (n - J) = N8 at *
  have hN8 : N8 ≤ 600 := by have := NB.out; omega
  clear ho2 NB hle4
  obtain ⟨⟨Q, Z, ES⟩, EC, hD⟩ : ∃ X EC, dec L8 (m : Int) = (X, EC) := ⟨_, _, rfl⟩
  obtain ⟨NE, hNE⟩ : ∃ NE, ES.length = NE := ⟨_, rfl⟩
  have EL : NE ≤ 600 := by
    have h1 := dec_len L8 (m : Int)
    rw [hD, H.out.1] at h1
    simp only [hNE] at h1
    omega
  have HD := Lib.hid hD
  have EN := Lib.hid hNE
  clear hD hNE
  go_wp2_with fail
  refine (decode_any A8 N8 c8 L8 (m : Int) _ (by omega) CU.out.1 CU.out.2 H.out).mono ?_
  rintro e wD ⟨A3, c3, rfl, hE3, hbD⟩
  rw [HD.out] at hE3 ⊢
  simp only [EN.out] at hE3 ⊢
  have H := Lib.hid (H.out.below hbD)
  have BB := Lib.hid (BB.out.trans (hbD.mono (up BB.out rfl)))
  have US := Lib.hid (up BB.out rfl)
  have H := Lib.hid (still H.out ((Below.refl _ _).alloc (Nat.le_refl _) (.cells #[.int .u64 (Q : Int), .int .i64 Z, .slice A3 NE c3] 28)))
  have E3 := Lib.hid (hE3.alloc (.cells #[.int .u64 (Q : Int), .int .i64 Z, .slice A3 NE c3] 28))
  have PX := Lib.hid (At.new (w := wD) (g := wD.heap.size) #[.int .u64 (Q : Int), .int .i64 Z, .slice A3 NE c3] 28 rfl)
  have BB := Lib.hid (BB.out.alloc US.out (.cells #[.int .u64 (Q : Int), .int .i64 Z, .slice A3 NE c3] 28))
  clear hE3 hbD US
  go_wp2_with fail
  generalize hP : wD.heap.size = P at *
  generalize wD.alloc (.cells #[.int .u64 (Q : Int), .int .i64 Z, .slice A3 NE c3] 28) = wE at *
  clear hP
  refine (reads_any A8 N8 c8 L8 (m : Int) _ (by omega) CU.out.1 CU.out.2 ⟨by omega, by omega⟩ H.out).mono ?_
  rintro e wF ⟨A4, c4, rfl, hE4, hbF⟩
  rw [HD.out] at hE4 ⊢
  simp only [EN.out] at hE4 ⊢
  have E3 := Lib.hid ((E3.out.below hbF).alloc (.cells #[.int .u64 (Q : Int), .int .i64 Z, .slice A4 NE c4] 28))
  have E4 := Lib.hid (hE4.alloc (.cells #[.int .u64 (Q : Int), .int .i64 Z, .slice A4 NE c4] 28))
  have PX := Lib.hid ((PX.out.below hbF PX.out.lt).alloc (.cells #[.int .u64 (Q : Int), .int .i64 Z, .slice A4 NE c4] 28))
  have PY := Lib.hid (At.new (w := wF) (g := wF.heap.size) #[.int .u64 (Q : Int), .int .i64 Z, .slice A4 NE c4] 28 rfl)
  have BB := Lib.hid (BB.out.trans (hbF.mono (up BB.out rfl)))
  have US := Lib.hid (up BB.out rfl)
  have BB := Lib.hid (BB.out.alloc US.out (.cells #[.int .u64 (Q : Int), .int .i64 Z, .slice A4 NE c4] 28))
  clear hE4 hbF US H
  have p0 := PX.out.cell 0; have p1 := PX.out.cell 1; have p2 := PX.out.cell 2
  have q0 := PY.out.cell 0; have q1 := PY.out.cell 1; have q2 := PY.out.cell 2
  go_wp2_with fail
  clear p0 p1 p2 q0 q1 q2
  refine (same_any Q Q Z Z A3 A4 NE NE c3 c4 ES ES _ (by omega) (by omega) E3.out E4.out).mono ?_
  rintro e wG ⟨d, rfl, hd, hbG⟩
  obtain rfl : d = true := hd.2 rfl
  have BB := Lib.hid (BB.out.trans (hbG.mono (up BB.out rfl)))
  clear hd hbG
  go_wp2
  go_ret
  exact ⟨by simp, BB.out⟩

theorem decodes_walk (A : Option Addr) (n c : Nat) (L : List (BitVec 8)) (s : Int) (sl : Bool) (w : World) (h : Inb w A n c L) (hs : -9223372036854775808 ≤ s ∧ s ≤ 9223372036854775807) :
    Calls Try.prog 4 #[.slice A n c, .int .i64 s, .bool sl] w fun e w' => e = .returned (.bool true) ∧ Below w.heap.size w w' := by
  obtain ⟨hh, hc, hcm⟩ := h
  by_cases hn : n ≤ 300
  · cases sl with
    | false => exact decodes_bare A n c L s w hn hc hcm hs.1 hs.2 hh
    | true =>
      by_cases h0 : s < 0
      · exact decodes_neg A n c L s w hn hc hcm hs.1 hs.2 h0 hh
      · by_cases h1 : 50 < s
        · exact decodes_big A n c L s w hn hc hcm hs.1 hs.2 (by omega) h1 hh
        · by_cases h2 : (n : Int) < 15 + 5 * s
          · exact decodes_short A n c L s w hn hc hcm hs.1 hs.2 (by omega) (by omega) h2 hh
          · obtain ⟨m, rfl⟩ := Int.eq_ofNat_of_zero_le (show 0 ≤ s by omega)
            obtain ⟨ab, off, rfl⟩ := hh.some_ (by omega)
            exact decodes_seal ab off n c m (15 + 5 * m) (11 + 5 * m) L w hn hc hcm (by omega) rfl rfl (by omega) hh
  · clear hh
    unfold maxLen at hcm
    have hn1 : 300 < n := by omega
    have hn2 : n ≤ 9223372036854775807 := by omega
    go_enter Try.func4, Try.ntmps4
    go_wp2_with fail
    refine (awake_any w).mono ?_
    rintro e w0 ⟨rfl, hb0⟩
    have BB := Lib.hid hb0
    clear hb0
    go_wp2
    go_ret
    exact ⟨rfl, BB.out⟩
end Go.Proofs.Ytmdgnglefikpjaa
