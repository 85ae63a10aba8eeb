/-
  THE WALK OF NoteBack: any note: its bytes, in a block of any size; read it is the note.
-/
import Derived.Test.YtmdgnglefikpjaaSame
import Derived.Test.YtmdgnglefikpjaaIn
namespace Go.Proofs.Ytmdgnglefikpjaa
open Go.RowKit
set_option linter.unusedVariables false
set_option maxRecDepth 100000


theorem still {w w1 : World} {A : Option Addr} {n : Nat} {l : List (BitVec 8)} (h : Has w A n l) (hb : Below w.heap.size w w1) : Has w1 A n l := h.below hb
set_option maxHeartbeats 2000000 in
theorem back_of (q s k : Nat) (A : Option Addr) (n c : Nat) (L : List Sl) (w : World) (hq : q < 18446744073709551616) (hs : s < 65536) (hk : k < 256) (hn : n ≤ 20) (h : Sls w A n L) :
    Calls Try.prog 3 #[.int .u64 (q : Int), .int .u16 (s : Int), .slice A n c, .int .u8 (k : Int)] w fun e w' => e = .returned (.bool true) ∧ Below w.heap.size w w' := by
  obtain ⟨es, hes⟩ : ∃ es, L.map mk = es := ⟨_, rfl⟩
  have EN := Lib.hid (show es.length = n by rw [← hes, List.length_map, h.1])
  have EF := Lib.hid (show ∀ x ∈ es, x.fits by rw [← hes]; exact fits_mk h)
  have EO := Lib.hid (show Fine es by rw [← hes]; exact fine_mk L)
  have EE := Lib.hid hes
  clear hes
  obtain ⟨M, hM⟩ : ∃ M, M = max (15 + 5 * n) k := ⟨_, rfl⟩
  have HM := Lib.hid hM
  have MM := Lib.hid (show 15 + 5 * n ≤ M ∧ M ≤ 1000 by omega)
  have DD := Lib.hid (show dec (told q s es M) (n : Int) = (⟨q, (s : Int) - 1, es⟩, 0) by rw [← EN.out]; exact dec_told q s es M hq hs EF.out EO.out (by rw [EN.out]; exact MM.out.1))
  have TL := Lib.hid (told_len q s es M (by rw [EN.out]; exact MM.out.1))
  have H := Lib.hid h
  clear h hM
  go_enter Try.func3, Try.ntmps3
  go_wp2_with fail
  refine (awake_any w).mono ?_
  rintro e w0 ⟨rfl, hb0⟩
  have H := Lib.hid (H.out.below hb0)
  have BB := Lib.hid hb0
  clear hb0
  go_wp2_with fail
  refine (make_any q s A n c L w0 hs (by omega) H.out).mono ?_
  rintro e w1 ⟨A1, c1, rfl, hE, hb1⟩
  rw [EE.out] at hE
  have BB := Lib.hid (BB.out.trans (hb1.mono (up BB.out rfl)))
  have US := Lib.hid (up BB.out rfl)
  have ES := Lib.hid (hE.alloc (.cells #[.int .u64 (q : Int), .int .i64 ((s : Int) - 1), .slice A1 n c1] 28))
  have PB := Lib.hid (At.new (w := w1) (g := w1.heap.size) #[.int .u64 (q : Int), .int .i64 ((s : Int) - 1), .slice A1 n c1] 28 rfl)
  have BB := Lib.hid (BB.out.alloc US.out (.cells #[.int .u64 (q : Int), .int .i64 ((s : Int) - 1), .slice A1 n c1] 28))
  clear hE hb1 US
  go_wp2_with fail
  refine (encode_any q s ((s : Int) - 1) A1 n c1 es k M _ hq (by omega) hs (by omega) (by omega) HM.out EF.out ES.out).mono ?_
  rintro e w2 ⟨v2, rfl, hf2⟩
  obtain ⟨A2, c2, rfl, hc2, hm2, _, hh2, _⟩ := own_slice hf2.1
  have H2 := Lib.hid hh2
  have C2 := Lib.hid (And.intro hc2 hm2)
  have ES := Lib.hid (ES.out.below hf2.2)
  have PB := Lib.hid (PB.out.below hf2.2 PB.out.lt)
  have BB := Lib.hid (BB.out.trans (hf2.2.mono (up BB.out rfl)))
  generalize hP : w1.heap.size = P at *
  clear hf2 hh2 hc2 hm2 hP
  go_wp2_with fail
  refine (decode_any A2 M c2 (told q s es M) (n : Int) w2 (by have := MM.out; omega) C2.out.1 C2.out.2 H2.out).mono ?_
  rintro e w3 ⟨A3, c3, rfl, hE3, hb3⟩
  rw [DD.out] at hE3 ⊢
  simp only [EN.out] at hE3 ⊢
  have ES := Lib.hid (ES.out.below hb3)
  have PB := Lib.hid (PB.out.below hb3 PB.out.lt)
  have H2 := Lib.hid (H2.out.below hb3)
  have BB := Lib.hid (BB.out.trans (hb3.mono (up BB.out rfl)))
  have US := Lib.hid (up BB.out rfl)
  have CY := Lib.hid (At.new (w := w3) (g := w3.heap.size) #[.int .u64 (q : Int), .int .i64 ((s : Int) - 1), .slice A3 n c3] 28 rfl)
  have E3 := Lib.hid (hE3.alloc (.cells #[.int .u64 (q : Int), .int .i64 ((s : Int) - 1), .slice A3 n c3] 28))
  have ES := Lib.hid (ES.out.alloc (.cells #[.int .u64 (q : Int), .int .i64 ((s : Int) - 1), .slice A3 n c3] 28))
  have PB := Lib.hid (PB.out.alloc (.cells #[.int .u64 (q : Int), .int .i64 ((s : Int) - 1), .slice A3 n c3] 28))
  have H2 := Lib.hid (still H2.out ((Below.refl _ _).alloc (Nat.le_refl _) (.cells #[.int .u64 (q : Int), .int .i64 ((s : Int) - 1), .slice A3 n c3] 28)))
  have BB := Lib.hid (BB.out.alloc US.out (.cells #[.int .u64 (q : Int), .int .i64 ((s : Int) - 1), .slice A3 n c3] 28))
  have p0 := PB.out.cell 0; have p1 := PB.out.cell 1; have p2 := PB.out.cell 2
  clear hE3 hb3 US
  go_wp2_with fail
  clear p0 p1 p2
  generalize hQ : w3.heap.size = Q at *
  generalize w3.alloc (.cells #[.int .u64 (q : Int), .int .i64 ((s : Int) - 1), .slice A3 n c3] 28) = w4 at *
  clear hQ
  refine (tells_any q s ((s : Int) - 1) A1 n c1 es k M _ hq (by omega) hs (by omega) (by omega) HM.out EF.out ES.out).mono ?_
  rintro e w5 ⟨v5, rfl, hf5⟩
  obtain ⟨A5, c5, rfl, _, _, _, hh5, _⟩ := own_slice hf5.1
  have H5 := Lib.hid hh5
  have ES := Lib.hid (ES.out.below hf5.2)
  have E3 := Lib.hid (E3.out.below hf5.2)
  have PB := Lib.hid (PB.out.below hf5.2 PB.out.lt)
  have CY := Lib.hid (CY.out.below hf5.2 CY.out.lt)
  have H2 := Lib.hid (H2.out.below hf5.2)
  have BB := Lib.hid (BB.out.trans (hf5.2.mono (up BB.out rfl)))
  clear hf5 hh5
  go_wp2_with fail
  refine (equal_any A2 A5 M M c2 c5 _ _ w5 (by have := MM.out; omega) (by have := MM.out; omega) H2.out H5.out).mono ?_
  rintro e w6 ⟨rfl, k6, hw6⟩
  rw [decide_eq_true rfl]
  have ES := Lib.hid (show Ers w6 A1 n es by rw [hw6]; exact ES.out)
  have E3 := Lib.hid (show Ers w6 A3 n es by rw [hw6]; exact E3.out)
  have PB := Lib.hid (show At w6 P #[.int .u64 (q : Int), .int .i64 ((s : Int) - 1), .slice A1 n c1] 28 by rw [hw6]; exact PB.out)
  have CY := Lib.hid (show At w6 Q #[.int .u64 (q : Int), .int .i64 ((s : Int) - 1), .slice A3 n c3] 28 by rw [hw6]; exact CY.out)
  have BB := Lib.hid (show Below w.heap.size w w6 by rw [hw6]; exact below_drewN BB.out k6)
  clear hw6
  have p0 := PB.out.cell 0; have p1 := PB.out.cell 1; have p2 := PB.out.cell 2
  have q0 := CY.out.cell 0; have q1 := CY.out.cell 1; have q2 := CY.out.cell 2
  go_wp2_with fail
  clear p0 p1 p2 q0 q1 q2
  refine (same_any q q ((s : Int) - 1) ((s : Int) - 1) A1 A3 n n c1 c3 es es w6 (by omega) (by omega) ES.out E3.out).mono ?_
  rintro e w7 ⟨d, rfl, hd, hb7⟩
  obtain rfl : d = true := hd.2 rfl
  have BB := Lib.hid (BB.out.trans (hb7.mono (up BB.out rfl)))
  clear hd hb7
  go_wp2
  go_ret
  exact ⟨rfl, BB.out⟩
theorem back_walk (q s k : Nat) (A : Option Addr) (n c : Nat) (L : List Sl) (w : World) (hq : q < 18446744073709551616) (hs : s < 65536) (hk : k < 256) (hm : n ≤ maxLen) (h : Sls w A n L) :
    Calls Try.prog 3 #[.int .u64 (q : Int), .int .u16 (s : Int), .slice A n c, .int .u8 (k : Int)] w fun e w' => e = .returned (.bool true) ∧ Below w.heap.size w w' := by
  by_cases hn : n ≤ 20
  · exact back_of q s k A n c L w hq hs hk hn h
  · clear h
    unfold maxLen at hm
    go_enter Try.func3, Try.ntmps3
    go_wp2_with fail
    refine (awake_any w).mono ?_
    rintro e w0 ⟨rfl, hb0⟩
    have BB := Lib.hid hb0
    clear hb0
    go_wp2
    go_ret
    exact ⟨rfl, BB.out⟩
theorem back_in (q s k : Int) (A : Option Addr) (n c : Nat) (L : List Sl) (w : World) (hq : 0 ≤ q ∧ q ≤ 18446744073709551615) (hs : 0 ≤ s ∧ s ≤ 65535) (hk : 0 ≤ k ∧ k ≤ 255) (h : Ins w A n c L) :
    Calls Try.prog 3 #[.int .u64 q, .int .u16 s, .slice A n c, .int .u8 k] w fun e w' => e = .returned (.bool true) ∧ Below w.heap.size w w' := by
  obtain ⟨q, rfl⟩ := Int.eq_ofNat_of_zero_le hq.1
  obtain ⟨s, rfl⟩ := Int.eq_ofNat_of_zero_le hs.1
  obtain ⟨k, rfl⟩ := Int.eq_ofNat_of_zero_le hk.1
  exact back_walk q s k A n c L w (by omega) (by omega) (by omega) (Nat.le_trans h.2.1 h.2.2) h.1
end Go.Proofs.Ytmdgnglefikpjaa
