/-
  THE WALK OF page.open: the bytes of the image in a page, or what is wrong with it.
-/
import Derived.Test.YtlmponcoghfghaaImgs
import Derived.Test.YtlmponcoghfghaaWalkE
namespace Go.Proofs.Ytlmponcoghfghaa
open Go.RowKit
set_option linter.unusedVariables false
set_option maxRecDepth 100000


theorem take_fld (g : Nat) (A : Option Addr) (c : Nat) (L : List (BitVec 8)) (i s : Nat) (w : World) (h8 : s ≤ 8) (hn : L.length ≤ 1000000) (hs : i + s ≤ L.length) (h : Rd w g A (L.drop i).length c (L.drop i) false) :
    Calls Try.prog 52 #[.pointer (some ⟨g, 0, none⟩), .int .i64 s] w (TakeDone w g A (fld L i s) (L.drop (i + s)) false) := by
  have h1 := take_good g A (L.drop i).length c (L.drop i) false s s w (by rw [List.length_drop]; omega) (by rw [List.length_drop]; omega) (by omega) h
  rw [List.take_take, Nat.min_self, List.drop_drop] at h1
  exact h1
/-- The reader at g, which has all behind the first i bytes of L; nothing below B0 has turned. -/
structure Rdr (w0 w : World) (B0 g : Nat) (L : List (BitVec 8)) (i : Nat) : Prop where
  rd : ∃ A c, Rd w g A (L.drop i).length c (L.drop i) false
  lt : B0 ≤ g
  bel : Below B0 w0 w
theorem Rdr.take {w0 w w' : World} {B0 g : Nat} {A : Option Addr} {L : List (BitVec 8)} {i j : Nat} (h : Rdr w0 w B0 g L i) (hS : Step w g A (L.drop j) false w') (hw : w0.heap.size = B0) : Rdr w0 w' B0 g L j := by
  obtain ⟨⟨A2, c2, h2, _⟩, h3⟩ := hS
  have h4 := h.lt
  exact ⟨⟨A2, c2, h2⟩, h4, h.bel.trans (h3.below (fun k e => by omega) (by have := h.bel.size; omega))⟩
/-- What open answers. -/
def Opd (w : World) (b gen i : Nat) (B : List (BitVec 8)) (e : Ending) (w' : World) : Prop :=
  Below w.heap.size w w' ∧ ((wrong b gen i B = 0 ∧ ∃ v, e = .returned (.tuple #[v, .int .i64 0]) ∧ w'.ownsRow w.heap.size 5 1 v (b - 15) ((inner b B).map val)) ∨
    (¬ wrong b gen i B = 0 ∧ e = .returned (.tuple #[.slice none 0 0, .int .i64 (wrong b gen i B : Int)])))
theorem Opd.bad {w w' : World} {b gen i : Nat} {B : List (BitVec 8)} {k : Nat} (h : wrong b gen i B = k) (hk : ¬ k = 0) (hb : Below w.heap.size w w') : Opd w b gen i B (.returned (.tuple #[.slice none 0 0, .int .i64 (k : Int)])) w' := by
  subst h
  exact ⟨hb, .inr ⟨hk, rfl⟩⟩
set_option maxHeartbeats 400000 in
theorem open_size (A : Option Addr) (n c b gen i : Nat) (B : List (BitVec 8)) (w : World) (h : Has w A n B) (hb : ¬ n = b) :
    Calls Try.prog 33 #[.slice A n c, .int .i64 (b : Int), .int .u64 (gen : Int), .int .i64 (i : Int)] w (Opd w b gen i B) := by
  have W := Lib.hid (wrong_size (gen := gen) (i := i) (show ¬ B.length = b by rw [h.1]; exact hb))
  clear h
  go_enter Try.func33, Try.ntmps33
  go_wp2
  go_ret2
  exact Opd.bad W.out (by decide) (Below.refl _ _)
set_option maxHeartbeats 400000 in
theorem open_sum (A : Option Addr) (m c gen i : Nat) (B : List (BitVec 8)) (w : World) (hc : m + 4 ≤ c) (hm : c ≤ maxLen) (h : Has w A (m + 4) B) (hs : ¬ Sealed (m + 4) B) :
    Calls Try.prog 33 #[.slice A (m + 4) c, .int .i64 ((m + 4 : Nat) : Int), .int .u64 (gen : Int), .int .i64 (i : Int)] w (Opd w (m + 4) gen i B) := by
  have W := Lib.hid (wrong_sum (gen := gen) (i := i) h.1 hs)
  go_enter Try.func33, Try.ntmps33
  go_wp2_with fail
  refine (open_wrong A m c B w hc hm h (by unfold Sealed at hs; rw [Nat.add_sub_cancel] at hs; exact hs)).mono ?_
  rintro e w1 ⟨rfl, k, rfl⟩
  clear h hs hc hm
  go_wp2
  go_ret2
  exact Opd.bad W.out (by decide) (below_drewN (Below.refl _ _) k)
set_option maxHeartbeats 400000 in
theorem open_m0 (A : Option Addr) (m c gen i : Nat) (B : List (BitVec 8)) (w : World) (hc : m + 4 ≤ c) (hm : c ≤ maxLen) (h28 : 28 ≤ m) (h6 : m ≤ 1000000) (hi : i < 65536) (h : Has w A (m + 4) B) (hs : Sealed (m + 4) B) (d0 : ¬ fld B 0 1 = 80) :
    Calls Try.prog 33 #[.slice A (m + 4) c, .int .i64 ((m + 4 : Nat) : Int), .int .u64 (gen : Int), .int .i64 (i : Int)] w (Opd w (m + 4) gen i B) := by
  have W := Lib.hid (wrong_form (gen := gen) (i := i) h.1 hs (by rintro ⟨e0, e1, e2⟩; exact d0 e0))
  have LB := Lib.hid h.1
  have hl9 : 28 ≤ m ∧ m ≤ 1000000 := ⟨h28, h6⟩
  have TL := Lib.hid (show (B.take m).length = m by rw [List.length_take, h.1]; omega)
  have f0 : fld (B.take m) 0 1 = fld B 0 1 := fld_take B 0 1 m (by omega)
  have f1 : fld (B.take m) 1 8 = fld B 1 8 := fld_take B 1 8 m (by omega)
  have f2 : fld (B.take m) 9 2 = fld B 9 2 := fld_take B 9 2 m (by omega)
  have h0 := fld_lt B 0 1
  have h1 := fld_lt B 1 8
  have h2 := fld_lt B 9 2
  have IN := Lib.hid (show (B.take m).drop 11 = inner (m + 4) B by unfold inner; rw [Nat.add_sub_cancel])
  generalize fld B 0 1 = x0 at *
  generalize fld B 1 8 = x1 at *
  generalize fld B 9 2 = x2 at *
  have F0 := Lib.hid f0
  have F1 := Lib.hid f1
  have F2 := Lib.hid f2
  have q0 : ((x0 : Int) != 80) = true := by simp; omega
  go_enter Try.func33, Try.ntmps33
  go_wp2_with fail
  refine (open_right A m c B w hc hm (by omega) h (by unfold Sealed at hs; rw [Nat.add_sub_cancel] at hs; exact hs)).mono ?_
  rintro e w1 ⟨v1, rfl, hf1⟩
  generalize B.take m = T at *
  obtain ⟨A1, c1, rfl, _, _, _, hh1, _⟩ := own_slice hf1.1
  have H1 := Lib.hid hh1
  have B1 := Lib.hid hf1.2
  clear h hs hc hm hf1 hh1 f0 f1 f2
  go_wp2_with fail
  refine (read_any A1 m c1 T w1 (by omega) H1.out).mono ?_
  rintro e w2 ⟨g, A2, c2, rfl, hr, hb2, hg2, _⟩
  have R := Lib.hid (show Rdr w w2 w.heap.size g T 0 from ⟨⟨A2, c2, by rw [List.drop_zero, TL.out]; exact hr⟩, by have := B1.out.size; omega, B1.out.trans (hb2.mono B1.out.size)⟩)
  clear hr hb2 hg2
  go_wp2_with fail
  obtain ⟨Aq, cq, hr⟩ := R.out.rd
  refine (take_fld g Aq cq T 0 1 _ (by omega) (by rw [TL.out]; omega) (by rw [TL.out]; omega) hr).mono ?_
  rintro e w3 ⟨rfl, hS⟩
  rw [F0.out]
  have R := Lib.hid (R.out.take hS rfl)
  clear hr hS
  go_wp2
  go_ret2
  exact Opd.bad W.out (by decide) R.out.bel
set_option maxHeartbeats 400000 in
theorem open_m1 (A : Option Addr) (m c gen i : Nat) (B : List (BitVec 8)) (w : World) (hc : m + 4 ≤ c) (hm : c ≤ maxLen) (h28 : 28 ≤ m) (h6 : m ≤ 1000000) (hi : i < 65536) (h : Has w A (m + 4) B) (hs : Sealed (m + 4) B) (d0 : fld B 0 1 = 80) (d1 : ¬ fld B 1 8 = gen) :
    Calls Try.prog 33 #[.slice A (m + 4) c, .int .i64 ((m + 4 : Nat) : Int), .int .u64 (gen : Int), .int .i64 (i : Int)] w (Opd w (m + 4) gen i B) := by
  have W := Lib.hid (wrong_form (gen := gen) (i := i) h.1 hs (by rintro ⟨e0, e1, e2⟩; exact d1 e1))
  have LB := Lib.hid h.1
  have hl9 : 28 ≤ m ∧ m ≤ 1000000 := ⟨h28, h6⟩
  have TL := Lib.hid (show (B.take m).length = m by rw [List.length_take, h.1]; omega)
  have f0 : fld (B.take m) 0 1 = fld B 0 1 := fld_take B 0 1 m (by omega)
  have f1 : fld (B.take m) 1 8 = fld B 1 8 := fld_take B 1 8 m (by omega)
  have f2 : fld (B.take m) 9 2 = fld B 9 2 := fld_take B 9 2 m (by omega)
  have h0 := fld_lt B 0 1
  have h1 := fld_lt B 1 8
  have h2 := fld_lt B 9 2
  have IN := Lib.hid (show (B.take m).drop 11 = inner (m + 4) B by unfold inner; rw [Nat.add_sub_cancel])
  generalize fld B 0 1 = x0 at *
  generalize fld B 1 8 = x1 at *
  generalize fld B 9 2 = x2 at *
  have F0 := Lib.hid f0
  have F1 := Lib.hid f1
  have F2 := Lib.hid f2
  have q0 : ((x0 : Int) != 80) = false := by simp; omega
  have q1 : ((x1 : Int) != (gen : Int)) = true := by simp; omega
  go_enter Try.func33, Try.ntmps33
  go_wp2_with fail
  refine (open_right A m c B w hc hm (by omega) h (by unfold Sealed at hs; rw [Nat.add_sub_cancel] at hs; exact hs)).mono ?_
  rintro e w1 ⟨v1, rfl, hf1⟩
  generalize B.take m = T at *
  obtain ⟨A1, c1, rfl, _, _, _, hh1, _⟩ := own_slice hf1.1
  have H1 := Lib.hid hh1
  have B1 := Lib.hid hf1.2
  clear h hs hc hm hf1 hh1 f0 f1 f2
  go_wp2_with fail
  refine (read_any A1 m c1 T w1 (by omega) H1.out).mono ?_
  rintro e w2 ⟨g, A2, c2, rfl, hr, hb2, hg2, _⟩
  have R := Lib.hid (show Rdr w w2 w.heap.size g T 0 from ⟨⟨A2, c2, by rw [List.drop_zero, TL.out]; exact hr⟩, by have := B1.out.size; omega, B1.out.trans (hb2.mono B1.out.size)⟩)
  clear hr hb2 hg2
  go_wp2_with fail
  obtain ⟨Aq, cq, hr⟩ := R.out.rd
  refine (take_fld g Aq cq T 0 1 _ (by omega) (by rw [TL.out]; omega) (by rw [TL.out]; omega) hr).mono ?_
  rintro e w3 ⟨rfl, hS⟩
  rw [F0.out]
  have R := Lib.hid (R.out.take hS rfl)
  clear hr hS
  go_wp2_with fail
  obtain ⟨Aq, cq, hr⟩ := R.out.rd
  refine (take_fld g Aq cq T 1 8 _ (by omega) (by rw [TL.out]; omega) (by rw [TL.out]; omega) hr).mono ?_
  rintro e w3 ⟨rfl, hS⟩
  rw [F1.out]
  have R := Lib.hid (R.out.take hS rfl)
  clear hr hS
  go_wp2
  go_ret2
  exact Opd.bad W.out (by decide) R.out.bel
set_option maxHeartbeats 400000 in
theorem open_m2 (A : Option Addr) (m c gen i : Nat) (B : List (BitVec 8)) (w : World) (hc : m + 4 ≤ c) (hm : c ≤ maxLen) (h28 : 28 ≤ m) (h6 : m ≤ 1000000) (hi : i < 65536) (h : Has w A (m + 4) B) (hs : Sealed (m + 4) B) (d0 : fld B 0 1 = 80) (d1 : fld B 1 8 = gen) (d2 : ¬ fld B 9 2 = i) :
    Calls Try.prog 33 #[.slice A (m + 4) c, .int .i64 ((m + 4 : Nat) : Int), .int .u64 (gen : Int), .int .i64 (i : Int)] w (Opd w (m + 4) gen i B) := by
  have W := Lib.hid (wrong_form (gen := gen) (i := i) h.1 hs (by rintro ⟨e0, e1, e2⟩; exact d2 e2))
  have LB := Lib.hid h.1
  have hl9 : 28 ≤ m ∧ m ≤ 1000000 := ⟨h28, h6⟩
  have TL := Lib.hid (show (B.take m).length = m by rw [List.length_take, h.1]; omega)
  have f0 : fld (B.take m) 0 1 = fld B 0 1 := fld_take B 0 1 m (by omega)
  have f1 : fld (B.take m) 1 8 = fld B 1 8 := fld_take B 1 8 m (by omega)
  have f2 : fld (B.take m) 9 2 = fld B 9 2 := fld_take B 9 2 m (by omega)
  have h0 := fld_lt B 0 1
  have h1 := fld_lt B 1 8
  have h2 := fld_lt B 9 2
  have IN := Lib.hid (show (B.take m).drop 11 = inner (m + 4) B by unfold inner; rw [Nat.add_sub_cancel])
  generalize fld B 0 1 = x0 at *
  generalize fld B 1 8 = x1 at *
  generalize fld B 9 2 = x2 at *
  have F0 := Lib.hid f0
  have F1 := Lib.hid f1
  have F2 := Lib.hid f2
  have q0 : ((x0 : Int) != 80) = false := by simp; omega
  have q1 : ((x1 : Int) != (gen : Int)) = false := by simp; omega
  have q2 : ((x2 : Int) != (i : Int)) = true := by simp; omega
  go_enter Try.func33, Try.ntmps33
  go_wp2_with fail
  refine (open_right A m c B w hc hm (by omega) h (by unfold Sealed at hs; rw [Nat.add_sub_cancel] at hs; exact hs)).mono ?_
  rintro e w1 ⟨v1, rfl, hf1⟩
  generalize B.take m = T at *
  obtain ⟨A1, c1, rfl, _, _, _, hh1, _⟩ := own_slice hf1.1
  have H1 := Lib.hid hh1
  have B1 := Lib.hid hf1.2
  clear h hs hc hm hf1 hh1 f0 f1 f2
  go_wp2_with fail
  refine (read_any A1 m c1 T w1 (by omega) H1.out).mono ?_
  rintro e w2 ⟨g, A2, c2, rfl, hr, hb2, hg2, _⟩
  have R := Lib.hid (show Rdr w w2 w.heap.size g T 0 from ⟨⟨A2, c2, by rw [List.drop_zero, TL.out]; exact hr⟩, by have := B1.out.size; omega, B1.out.trans (hb2.mono B1.out.size)⟩)
  clear hr hb2 hg2
  go_wp2_with fail
  obtain ⟨Aq, cq, hr⟩ := R.out.rd
  refine (take_fld g Aq cq T 0 1 _ (by omega) (by rw [TL.out]; omega) (by rw [TL.out]; omega) hr).mono ?_
  rintro e w3 ⟨rfl, hS⟩
  rw [F0.out]
  have R := Lib.hid (R.out.take hS rfl)
  clear hr hS
  go_wp2_with fail
  obtain ⟨Aq, cq, hr⟩ := R.out.rd
  refine (take_fld g Aq cq T 1 8 _ (by omega) (by rw [TL.out]; omega) (by rw [TL.out]; omega) hr).mono ?_
  rintro e w3 ⟨rfl, hS⟩
  rw [F1.out]
  have R := Lib.hid (R.out.take hS rfl)
  clear hr hS
  go_wp2_with fail
  obtain ⟨Aq, cq, hr⟩ := R.out.rd
  refine (take_fld g Aq cq T 9 2 _ (by omega) (by rw [TL.out]; omega) (by rw [TL.out]; omega) hr).mono ?_
  rintro e w3 ⟨rfl, hS⟩
  rw [F2.out]
  have R := Lib.hid (R.out.take hS rfl)
  clear hr hS
  go_wp2
  go_ret2
  exact Opd.bad W.out (by decide) R.out.bel
set_option maxHeartbeats 400000 in
theorem open_good (A : Option Addr) (m c gen i : Nat) (B : List (BitVec 8)) (w : World) (hc : m + 4 ≤ c) (hm : c ≤ maxLen) (h28 : 28 ≤ m) (h6 : m ≤ 1000000) (hi : i < 65536) (h : Has w A (m + 4) B) (hs : Sealed (m + 4) B) (hM : Marked gen i B) :
    Calls Try.prog 33 #[.slice A (m + 4) c, .int .i64 ((m + 4 : Nat) : Int), .int .u64 (gen : Int), .int .i64 (i : Int)] w (Opd w (m + 4) gen i B) := by
  have W := Lib.hid (wrong_none h.1 hs hM)
  obtain ⟨d0, d1, d2⟩ := hM
  have LB := Lib.hid h.1
  have hl9 : 28 ≤ m ∧ m ≤ 1000000 := ⟨h28, h6⟩
  have TL := Lib.hid (show (B.take m).length = m by rw [List.length_take, h.1]; omega)
  have f0 : fld (B.take m) 0 1 = fld B 0 1 := fld_take B 0 1 m (by omega)
  have f1 : fld (B.take m) 1 8 = fld B 1 8 := fld_take B 1 8 m (by omega)
  have f2 : fld (B.take m) 9 2 = fld B 9 2 := fld_take B 9 2 m (by omega)
  have h0 := fld_lt B 0 1
  have h1 := fld_lt B 1 8
  have h2 := fld_lt B 9 2
  have IN := Lib.hid (show (B.take m).drop 11 = inner (m + 4) B by unfold inner; rw [Nat.add_sub_cancel])
  generalize fld B 0 1 = x0 at *
  generalize fld B 1 8 = x1 at *
  generalize fld B 9 2 = x2 at *
  have F0 := Lib.hid f0
  have F1 := Lib.hid f1
  have F2 := Lib.hid f2
  have q0 : ((x0 : Int) != 80) = false := by simp; omega
  have q1 : ((x1 : Int) != (gen : Int)) = false := by simp; omega
  have q2 : ((x2 : Int) != (i : Int)) = false := by simp; omega
  go_enter Try.func33, Try.ntmps33
  go_wp2_with fail
  refine (open_right A m c B w hc hm (by omega) h (by unfold Sealed at hs; rw [Nat.add_sub_cancel] at hs; exact hs)).mono ?_
  rintro e w1 ⟨v1, rfl, hf1⟩
  generalize B.take m = T at *
  obtain ⟨A1, c1, rfl, _, _, _, hh1, _⟩ := own_slice hf1.1
  have H1 := Lib.hid hh1
  have B1 := Lib.hid hf1.2
  clear h hs hc hm hf1 hh1 f0 f1 f2
  go_wp2_with fail
  refine (read_any A1 m c1 T w1 (by omega) H1.out).mono ?_
  rintro e w2 ⟨g, A2, c2, rfl, hr, hb2, hg2, _⟩
  have R := Lib.hid (show Rdr w w2 w.heap.size g T 0 from ⟨⟨A2, c2, by rw [List.drop_zero, TL.out]; exact hr⟩, by have := B1.out.size; omega, B1.out.trans (hb2.mono B1.out.size)⟩)
  clear hr hb2 hg2
  go_wp2_with fail
  obtain ⟨Aq, cq, hr⟩ := R.out.rd
  refine (take_fld g Aq cq T 0 1 _ (by omega) (by rw [TL.out]; omega) (by rw [TL.out]; omega) hr).mono ?_
  rintro e w3 ⟨rfl, hS⟩
  rw [F0.out]
  have R := Lib.hid (R.out.take hS rfl)
  clear hr hS
  go_wp2_with fail
  obtain ⟨Aq, cq, hr⟩ := R.out.rd
  refine (take_fld g Aq cq T 1 8 _ (by omega) (by rw [TL.out]; omega) (by rw [TL.out]; omega) hr).mono ?_
  rintro e w3 ⟨rfl, hS⟩
  rw [F1.out]
  have R := Lib.hid (R.out.take hS rfl)
  clear hr hS
  go_wp2_with fail
  obtain ⟨Aq, cq, hr⟩ := R.out.rd
  refine (take_fld g Aq cq T 9 2 _ (by omega) (by rw [TL.out]; omega) (by rw [TL.out]; omega) hr).mono ?_
  rintro e w3 ⟨rfl, hS⟩
  rw [F2.out]
  have R := Lib.hid (R.out.take hS rfl)
  clear hr hS
  go_wp2_with fail
  obtain ⟨Aq, cq, hr⟩ := R.out.rd
  refine (rrest_any g Aq _ cq (T.drop 11) false _ (by rw [List.length_drop, TL.out]; omega) hr).mono ?_
  rintro e w4 ⟨v4, rfl, hf4⟩
  have RR := Lib.hid (show Opd w (m + 4) gen i B (.returned (.tuple #[v4, .int .i64 0])) w4 from ⟨R.out.bel.trans (hf4.2.mono R.out.bel.size), .inl ⟨W.out, v4, rfl, by
    have h9 := hf4.1
    rw [List.length_drop, TL.out, IN.out, show m - 11 = m + 4 - 15 by omega] at h9
    exact own_base h9 (fun j hj => Nat.le_trans R.out.bel.size (h9.lt j hj).1)⟩⟩)
  clear hr hf4
  go_wp2
  go_ret2
  exact RR.out
theorem open_any (A : Option Addr) (n c b gen i : Nat) (B : List (BitVec 8)) (w : World) (hc : n ≤ c) (hm : c ≤ maxLen) (h28 : 32 ≤ b) (h6 : b ≤ 1000) (hi : i < 65536) (h : Has w A n B) :
    Calls Try.prog 33 #[.slice A n c, .int .i64 (b : Int), .int .u64 (gen : Int), .int .i64 (i : Int)] w (Opd w b gen i B) := by
  by_cases hb : n = b
  · subst hb
    obtain ⟨m, rfl⟩ : ∃ m, n = m + 4 := ⟨n - 4, by omega⟩
    by_cases hs : Sealed (m + 4) B
    · by_cases d0 : fld B 0 1 = 80
      · by_cases d1 : fld B 1 8 = gen
        · by_cases d2 : fld B 9 2 = i
          · exact open_good A m c gen i B w hc hm (by omega) (by omega) hi h hs ⟨d0, d1, d2⟩
          · exact open_m2 A m c gen i B w hc hm (by omega) (by omega) hi h hs d0 d1 d2
        · exact open_m1 A m c gen i B w hc hm (by omega) (by omega) hi h hs d0 d1
      · exact open_m0 A m c gen i B w hc hm (by omega) (by omega) hi h hs d0
    · exact open_sum A m c gen i B w hc hm h hs
  · exact open_size A n c b gen i B w h hb
end Go.Proofs.Ytlmponcoghfghaa
