/-
  THE WALK OF note.Decode: any bytes, any number of slots.
-/
import Derived.Test.YtmdgnglefikpjaaParse
import Derived.Test.YtmdgnglefikpjaaZeros
namespace Go.Proofs.Ytmdgnglefikpjaa
open Go.RowKit
set_option linter.unusedVariables false
set_option maxRecDepth 100000


/-- A note, and an error's number; its row lies in memory. -/
def Answer (w : World) (d : Nt × Nat) (e : Ending) (w' : World) : Prop :=
  ∃ A c, e = .returned (.tuple #[.agg #[.int .u64 (d.1.q : Int), .int .i64 d.1.z, .slice A d.1.es.length c], .int .i64 (d.2 : Int)]) ∧ Ers w' A d.1.es.length d.1.es ∧ Below w.heap.size w w'
theorem fail_made {w w1 w2 : World} {k : Nat} (hr : At w2 w.heap.size #[.int .u64 0, .int .i64 0, .slice none 0 0] 28) (hb : Below w.heap.size w w2) : Answer w (Nt.zero, k) (.returned (.tuple #[.agg #[.int .u64 0, .int .i64 0, .slice none 0 0], .int .i64 (k : Int)])) w2 :=
  ⟨none, 0, rfl, Ers.nil _ _, hb⟩

/-- The answer's block is there. -/
structure Dcs (w0 w : World) : Prop where
  res : At w w0.heap.size #[.int .u64 0, .int .i64 0, .slice none 0 0] 28
  bel : Below w0.heap.size w0 w
theorem Dcs.start (w : World) : Dcs w (w.alloc (.cells #[.int .u64 0, .int .i64 0, .slice none 0 0] 28)) := ⟨At.new _ _ rfl, (Below.refl _ _).alloc (Nat.le_refl _) _⟩
theorem Dcs.up {w0 w w' : World} (h : Dcs w0 w) (hb : Below w.heap.size w w') : Dcs w0 w' := ⟨h.res.below hb h.res.lt, h.bel.trans (hb.mono h.bel.size)⟩
theorem Dcs.done {w0 w w' : World} (h : Dcs w0 w) (hb : But (fun k => k = w0.heap.size) w w') : Below w0.heap.size w0 w' := h.bel.trans (hb.below (fun k e => by omega) h.bel.size)

set_option maxHeartbeats 400000 in
theorem decode_size (A : Option Addr) (n c : Nat) (L : List (BitVec 8)) (s : Int) (w : World) (hn : n ≤ 500000) (hr : ¬ (0 ≤ s ∧ 15 + 5 * s ≤ (n : Int))) :
    Calls Try.prog 10 #[.slice A n c, .int .i64 s] w (Answer w (Nt.zero, 6)) := by
  have D := Lib.hid (Dcs.start w)
  have HR := Lib.hid hr
  clear hr
  go_enter Try.func10, Try.ntmps10
  go_wp2_with fail
  refine (enough_any n s _ (by omega)).mono ?_
  rintro e w1 ⟨d, rfl, hd, rfl⟩
  obtain rfl : d = false := by
    cases d with
    | false => rfl
    | true => exact (HR.out (hd.1 rfl)).elim
  clear hd
  go_wp2_with (refine wpList_store_part rfl 28 (.tmp 4) (.tmp 16) rfl w.heap.size 0 28 #[.int .u64 0, .int .i64 0, .slice none 0 0] #[.int .u64 0, .int .i64 0, .slice none 0 0] rfl rfl D.out.res size28 (by simp) (note_all 0 _ _ _ _) ?_; intro w9 hat9 hb9; have R := Lib.hid (show At w9 w.heap.size #[.int .u64 0, .int .i64 0, .slice none 0 0] 28 from hat9); have BB := Lib.hid (D.out.done hb9); clear hat9 hb9)
  refine bodyPost_ret (results_cell_slot (p := 4) (u := 5) (ty := 28) rfl _ _ w.heap.size #[.int .u64 0, .int .i64 0, .slice none 0 0] _ rfl R.out Try.underlying28 size28) rfl ?_
  exact fail_made (w1 := w) R.out BB.out

theorem open_bad (A : Option Addr) (K m cap : Nat) (l : List (BitVec 8)) (w : World) (hK : K = m + 4) (hc : K ≤ cap) (hm : cap ≤ maxLen) (h : Has w A K l) (hs : ¬ Crc.held (l.drop m) 4 = Crc.sum (l.take m)) :
    Calls Try.prog 21 #[.slice A K cap] w (Quiet (.tuple #[.slice none 0 0, .int .i64 5]) w) := by
  subst hK
  exact open_wrong A m cap l w hc hm h hs
theorem open_good (A : Option Addr) (K m cap : Nat) (l : List (BitVec 8)) (w : World) (hK : K = m + 4) (hc : K ≤ cap) (hm : cap ≤ maxLen) (h6 : K ≤ 1000000) (h : Has w A K l) (hs : Crc.held (l.drop m) 4 = Crc.sum (l.take m)) :
    Calls Try.prog 21 #[.slice A K cap] w (Opened w m (l.take m)) := by
  subst hK
  exact open_right A m cap l w hc hm (by omega) h hs
theorem parse_len (A : Option Addr) (c n len : Nat) (L : List (BitVec 8)) (w : World) (hn : n ≤ 100000) (hl : len = 11 + 5 * n) (h : Has w A len L) :
    Calls Try.prog 22 #[.slice A len c, .int .i64 (n : Int)] w (Parsed w L n) := by
  subst hl
  have := parse_any A c n L w hn h
  rw [Int.toNat_natCast] at this
  exact this
theorem up {B : Nat} {w w' : World} (h : Below B w w') (hB : w.heap.size = B) : B ≤ w'.heap.size := by have := h.size; omega

set_option maxHeartbeats 800000 in
theorem decode_sum (A : Option Addr) (n c m K : Nat) (L : List (BitVec 8)) (w : World) (hn : n ≤ 500000) (hc : n ≤ c) (hcm : c ≤ maxLen) (hK : K = 11 + 5 * m + 4) (hKn : K ≤ n) (h : Has w A n L) (hs : ¬ Crc.held (L.drop (11 + 5 * m)) 4 = Crc.sum (L.take (11 + 5 * m))) :
    Calls Try.prog 10 #[.slice A n c, .int .i64 (m : Int)] w (Answer w (Nt.zero, 5)) := by
  have HS := Lib.hid (show ¬ Crc.held ((L.take K).drop (11 + 5 * m)) 4 = Crc.sum ((L.take K).take (11 + 5 * m)) by rw [hK, held_take, List.take_take, Nat.min_eq_left (by omega)]; exact hs)
  clear hs
  obtain ⟨ab, off, rfl⟩ := h.some_ (by omega)
  unfold maxLen at hcm
  have H := Lib.hid (h.below ((Below.refl _ _).alloc (Nat.le_refl _) (.cells #[.int .u64 0, .int .i64 0, .slice none 0 0] 28)))
  have D := Lib.hid (Dcs.start w)
  have hKi : 15 + 5 * (m : Int) = (K : Int) := by omega
  have KK := Lib.hid hK
  clear h hK
  go_enter Try.func10, Try.ntmps10
  go_wp2_with fail
  refine (enough_any n m _ (by omega)).mono ?_
  rintro e w1 ⟨d, rfl, hd, rfl⟩
  obtain rfl : d = true := hd.2 ⟨by omega, by omega⟩
  clear hd
  go_wp2_with fail
  refine (open_bad _ K (11 + 5 * m) c (L.take K) _ KK.out (by omega) (by unfold maxLen; omega) (H.out.take K hKn) HS.out).mono ?_
  rintro e w1 ⟨rfl, q, hw1⟩
  have D := Lib.hid (show Dcs w w1 by rw [hw1]; exact ⟨D.out.res, below_drewN D.out.bel q⟩)
  clear hw1
  go_wp2_with (refine wpList_store_part rfl 28 (.tmp 4) (.tmp 29) rfl w.heap.size 0 28 #[.int .u64 0, .int .i64 0, .slice none 0 0] #[.int .u64 0, .int .i64 0, .slice none 0 0] rfl rfl D.out.res size28 (by simp) (note_all 0 _ _ _ _) ?_; intro w9 hat9 hb9; have R := Lib.hid (show At w9 w.heap.size #[.int .u64 0, .int .i64 0, .slice none 0 0] 28 from hat9); have BB := Lib.hid (D.out.done hb9); clear hat9 hb9)
  refine bodyPost_ret (results_cell_slot (p := 4) (u := 5) (ty := 28) rfl _ _ w.heap.size #[.int .u64 0, .int .i64 0, .slice none 0 0] _ rfl R.out Try.underlying28 size28) rfl ?_
  exact fail_made (w1 := w) R.out BB.out

set_option maxHeartbeats 2000000 in
theorem decode_form (A : Option Addr) (n c m K : Nat) (L : List (BitVec 8)) (w : World) (hn : n ≤ 500000) (hc : n ≤ c) (hcm : c ≤ maxLen) (hK : K = 11 + 5 * m + 4) (hKn : K ≤ n) (h : Has w A n L) (hs : Crc.held (L.drop (11 + 5 * m)) 4 = Crc.sum (L.take (11 + 5 * m))) :
    Calls Try.prog 10 #[.slice A n c, .int .i64 (m : Int)] w fun e w' => (good L m → Answer w (note L m, 0) e w') ∧ (¬ good L m → Answer w (Nt.zero, 4) e w') := by
  have HS := Lib.hid (show Crc.held ((L.take K).drop (11 + 5 * m)) 4 = Crc.sum ((L.take K).take (11 + 5 * m)) by rw [hK, held_take, List.take_take, Nat.min_eq_left (by omega)]; exact hs)
  have TT := Lib.hid (show (L.take K).take (11 + 5 * m) = L.take (11 + 5 * m) by rw [hK, List.take_take, Nat.min_eq_left (by omega)])
  clear hs
  obtain ⟨ab, off, rfl⟩ := h.some_ (by omega)
  unfold maxLen at hcm
  have H := Lib.hid (h.below ((Below.refl _ _).alloc (Nat.le_refl _) (.cells #[.int .u64 0, .int .i64 0, .slice none 0 0] 28)))
  have D := Lib.hid (Dcs.start w)
  have hKi : 15 + 5 * (m : Int) = (K : Int) := by omega
  have KK := Lib.hid hK
  have NF := Lib.hid (show fld (L.take (11 + 5 * m)) 0 1 = fld L 0 1 from fld_take _ _ _ _ (by omega))
  have NT := Lib.hid (note_take L m)
  obtain ⟨len, hlen⟩ : ∃ len, len = 11 + 5 * m := ⟨_, rfl⟩
  have LE := Lib.hid hlen
  clear h hK hlen
  go_enter Try.func10, Try.ntmps10
  go_wp2_with fail
  refine (enough_any n m _ (by omega)).mono ?_
  rintro e w1 ⟨d, rfl, hd, rfl⟩
  obtain rfl : d = true := hd.2 ⟨by omega, by omega⟩
  clear hd
  go_wp2_with fail
  refine (open_good _ K (11 + 5 * m) c (L.take K) _ KK.out (by omega) (by unfold maxLen; omega) (by omega) (H.out.take K hKn) HS.out).mono ?_
  rintro e w1 ⟨v1, rfl, hf1⟩
  rw [TT.out] at hf1
  rw [← LE.out] at hf1 NF NT
  obtain ⟨A1, c1, rfl, _, _, _, hh1, _⟩ := own_slice hf1.1
  have D := Lib.hid (D.out.up hf1.2)
  have H := Lib.hid (H.out.below hf1.2)
  have H1 := Lib.hid hh1
  clear hf1 hh1
  go_wp2_with fail
  refine (parse_len A1 c1 m len (L.take len) w1 (by omega) LE.out H1.out).mono ?_
  rintro e w2 ⟨A2, rfl, hE2, hA2, hb2⟩
  have HA2 := Lib.hid (show 0 < m → ∀ x, A2 = some x → ¬ x.block = w.heap.size from fun _ x e => by have := hA2 x e; have := D.out.res.lt; omega)
  clear hA2
  have NN := Lib.hid (show (fld (L.take len) 1 8 = (note L m).q ∧ ((fld (L.take len) 9 2 : Int) - 1) = (note L m).z ∧ enUpto (L.take len) m = enUpto L m) by rw [← NT.out]; exact ⟨rfl, rfl, congrArg Nt.es NT.out⟩)
  have D := Lib.hid (D.out.up hb2)
  have H := Lib.hid (H.out.below hb2)
  rw [NN.out.2.2] at hE2
  have E2 := Lib.hid hE2
  rw [NF.out]
  obtain ⟨y, hy⟩ : ∃ y, fld L 0 1 = y := ⟨_, rfl⟩
  obtain ⟨q, hq⟩ : ∃ y, fld (L.take len) 1 8 = y := ⟨_, rfl⟩
  obtain ⟨z, hz⟩ : ∃ y : Int, ((fld (L.take len) 9 2 : Int) - 1) = y := ⟨_, rfl⟩
  rw [hy, hq, hz]
  have YY := Lib.hid hy
  have QQ := Lib.hid (show (note L m).q = q by rw [← hq]; exact NN.out.1.symm)
  have ZZ := Lib.hid (show (note L m).z = z by rw [← hz]; exact NN.out.2.1.symm)
  clear hb2 hE2 hy hq hz NN NT NF
  have PB := Lib.hid (At.new (w := w2) (g := w2.heap.size) #[.int .u64 (q : Int), .int .i64 z, .slice A2 m m] 28 rfl)
  have D := Lib.hid (D.out.up ((Below.refl _ _).alloc (Nat.le_refl _) (.cells #[.int .u64 (q : Int), .int .i64 z, .slice A2 m m] 28)))
  have H := Lib.hid (H.out.below ((Below.refl _ _).alloc (Nat.le_refl _) (.cells #[.int .u64 (q : Int), .int .i64 z, .slice A2 m m] 28)))
  have E2 := Lib.hid (E2.out.alloc (.cells #[.int .u64 (q : Int), .int .i64 z, .slice A2 m m] 28))
  by_cases hy : y = 78
  · subst hy
    go_wp2_with fail
    refine (econtains_any A2 m m (enUpto L m) _ (by omega) E2.out).mono ?_
    rintro e w3 ⟨d, rfl, hd, hb3⟩
    have HD := Lib.hid hd
    have D := Lib.hid (D.out.up hb3)
    have H := Lib.hid (H.out.below hb3)
    have PB := Lib.hid (PB.out.below hb3 PB.out.lt)
    have E2 := Lib.hid (E2.out.below hb3)
    generalize hP : w2.heap.size = P at *
    clear hd hb3 hP
    cases d with
    | true =>
      have NG := Lib.hid (show ¬ good L m from fun hg => HD.out.1 (by first | rfl | trivial) hg.2.1)
      go_wp2_with (refine wpList_store_part rfl 28 (.tmp 4) (.tmp 51) rfl w.heap.size 0 28 #[.int .u64 0, .int .i64 0, .slice none 0 0] #[.int .u64 0, .int .i64 0, .slice none 0 0] rfl rfl D.out.res size28 (by simp) (note_all 0 _ _ _ _) ?_; intro w9 hat9 hb9; have R := Lib.hid (show At w9 w.heap.size #[.int .u64 0, .int .i64 0, .slice none 0 0] 28 from hat9); have BB := Lib.hid (D.out.done hb9); clear hat9 hb9)
      refine bodyPost_ret (results_cell_slot (p := 4) (u := 5) (ty := 28) rfl _ _ w.heap.size #[.int .u64 0, .int .i64 0, .slice none 0 0] _ rfl R.out Try.underlying28 size28) rfl ?_
      exact ⟨fun hg => (NG.out hg).elim, fun _ => fail_made (w1 := w) R.out BB.out⟩
    | false =>
      have FN := Lib.hid (show Fine (enUpto L m) from Classical.byContradiction fun hn => by have := HD.out.2 hn; cases this)
      clear HD
      by_cases hck : c = K
      · subst hck
        obtain rfl : n = c := by omega
        have ED : L.drop n = [] := List.drop_of_length_le (by rw [H.out.1]; omega)
        go_wp2_with fail
        by_cases hz0 : None0 (L.drop n)
        · refine (zeros_yes (some ⟨ab, off, none⟩) 0 0 (L.drop n) w3 (by omega) (by rw [ED]; exact Has.nil _ _) hz0).mono ?_
          rintro e w4 ⟨rfl, rfl⟩
          have GG := Lib.hid (show good L m from ⟨YY.out, FN.out, by rw [show 15 + 5 * m = n by omega]; exact hz0⟩)
          clear hz0
          have d0 := PB.out.cell 0; have d1 := PB.out.cell 1; have d2 := PB.out.cell 2
          go_wp2_with (refine wpList_store_part rfl 28 (.tmp 4) (.tmp 52) rfl w.heap.size 0 28 #[.int .u64 0, .int .i64 0, .slice none 0 0] #[.int .u64 (q : Int), .int .i64 z, .slice A2 m m] rfl rfl D.out.res size28 (by simp) (note_all _ _ _ _ _) ?_; intro w9 hat9 hb9; rw [note_part] at hat9; have R := Lib.hid hat9; have BB := Lib.hid (D.out.done hb9); have ER := Lib.hid (E2.out.but hb9 (fun h0 x hx => HA2.out h0 x hx)); clear hat9 hb9)
          refine bodyPost_ret (results_cell_slot (p := 4) (u := 5) (ty := 28) rfl _ _ w.heap.size #[.int .u64 (q : Int), .int .i64 z, .slice A2 m m] _ rfl R.out Try.underlying28 size28) rfl ?_
          refine ⟨fun _ => ⟨A2, m, ?_, ?_, BB.out⟩, fun hg => (hg GG.out).elim⟩
          · rw [QQ.out, ZZ.out, show (note L m).es.length = m from enUpto_len L m]
            rfl
          · rw [show (note L m).es.length = m from enUpto_len L m]
            exact ER.out
        · refine (zeros_no (some ⟨ab, off, none⟩) 0 0 (L.drop n) w3 (by omega) (by rw [ED]; exact Has.nil _ _) hz0).mono ?_
          rintro e w4 ⟨rfl, rfl⟩
          have NG := Lib.hid (show ¬ good L m from fun hg => hz0 (by have := hg.2.2; rw [show 15 + 5 * m = n by omega] at this; exact this))
          clear hz0
          go_wp2_with (refine wpList_store_part rfl 28 (.tmp 4) (.tmp 51) rfl w.heap.size 0 28 #[.int .u64 0, .int .i64 0, .slice none 0 0] #[.int .u64 0, .int .i64 0, .slice none 0 0] rfl rfl D.out.res size28 (by simp) (note_all 0 _ _ _ _) ?_; intro w9 hat9 hb9; have R := Lib.hid (show At w9 w.heap.size #[.int .u64 0, .int .i64 0, .slice none 0 0] 28 from hat9); have BB := Lib.hid (D.out.done hb9); clear hat9 hb9)
          refine bodyPost_ret (results_cell_slot (p := 4) (u := 5) (ty := 28) rfl _ _ w.heap.size #[.int .u64 0, .int .i64 0, .slice none 0 0] _ rfl R.out Try.underlying28 size28) rfl ?_
          exact ⟨fun hg => (NG.out hg).elim, fun _ => fail_made (w1 := w) R.out BB.out⟩
      · have hcn : ¬ c - K = 0 := by omega
        go_wp2_with fail
        by_cases hz0 : None0 (L.drop K)
        · refine (zeros_yes (some ⟨ab, off + K, none⟩) (n - K) (c - K) (L.drop K) w3 (by omega) (H.out.drop K hKn) hz0).mono ?_
          rintro e w4 ⟨rfl, rfl⟩
          have GG := Lib.hid (show good L m from ⟨YY.out, FN.out, by rw [show 15 + 5 * m = K by omega]; exact hz0⟩)
          clear hz0
          have d0 := PB.out.cell 0; have d1 := PB.out.cell 1; have d2 := PB.out.cell 2
          go_wp2_with (refine wpList_store_part rfl 28 (.tmp 4) (.tmp 52) rfl w.heap.size 0 28 #[.int .u64 0, .int .i64 0, .slice none 0 0] #[.int .u64 (q : Int), .int .i64 z, .slice A2 m m] rfl rfl D.out.res size28 (by simp) (note_all _ _ _ _ _) ?_; intro w9 hat9 hb9; rw [note_part] at hat9; have R := Lib.hid hat9; have BB := Lib.hid (D.out.done hb9); have ER := Lib.hid (E2.out.but hb9 (fun h0 x hx => HA2.out h0 x hx)); clear hat9 hb9)
          refine bodyPost_ret (results_cell_slot (p := 4) (u := 5) (ty := 28) rfl _ _ w.heap.size #[.int .u64 (q : Int), .int .i64 z, .slice A2 m m] _ rfl R.out Try.underlying28 size28) rfl ?_
          refine ⟨fun _ => ⟨A2, m, ?_, ?_, BB.out⟩, fun hg => (hg GG.out).elim⟩
          · rw [QQ.out, ZZ.out, show (note L m).es.length = m from enUpto_len L m]
            rfl
          · rw [show (note L m).es.length = m from enUpto_len L m]
            exact ER.out
        · refine (zeros_no (some ⟨ab, off + K, none⟩) (n - K) (c - K) (L.drop K) w3 (by omega) (H.out.drop K hKn) hz0).mono ?_
          rintro e w4 ⟨rfl, rfl⟩
          have NG := Lib.hid (show ¬ good L m from fun hg => hz0 (by have := hg.2.2; rw [show 15 + 5 * m = K by omega] at this; exact this))
          clear hz0
          go_wp2_with (refine wpList_store_part rfl 28 (.tmp 4) (.tmp 51) rfl w.heap.size 0 28 #[.int .u64 0, .int .i64 0, .slice none 0 0] #[.int .u64 0, .int .i64 0, .slice none 0 0] rfl rfl D.out.res size28 (by simp) (note_all 0 _ _ _ _) ?_; intro w9 hat9 hb9; have R := Lib.hid (show At w9 w.heap.size #[.int .u64 0, .int .i64 0, .slice none 0 0] 28 from hat9); have BB := Lib.hid (D.out.done hb9); clear hat9 hb9)
          refine bodyPost_ret (results_cell_slot (p := 4) (u := 5) (ty := 28) rfl _ _ w.heap.size #[.int .u64 0, .int .i64 0, .slice none 0 0] _ rfl R.out Try.underlying28 size28) rfl ?_
          exact ⟨fun hg => (NG.out hg).elim, fun _ => fail_made (w1 := w) R.out BB.out⟩
  · have NG := Lib.hid (show ¬ good L m from fun hg => hy (by rw [← YY.out]; exact hg.1))
    go_wp2_with (refine wpList_store_part rfl 28 (.tmp 4) (.tmp 51) rfl w.heap.size 0 28 #[.int .u64 0, .int .i64 0, .slice none 0 0] #[.int .u64 0, .int .i64 0, .slice none 0 0] rfl rfl D.out.res size28 (by simp) (note_all 0 _ _ _ _) ?_; intro w9 hat9 hb9; have R := Lib.hid (show At w9 w.heap.size #[.int .u64 0, .int .i64 0, .slice none 0 0] 28 from hat9); have BB := Lib.hid (D.out.done hb9); clear hat9 hb9)
    refine bodyPost_ret (results_cell_slot (p := 4) (u := 5) (ty := 28) rfl _ _ w.heap.size #[.int .u64 0, .int .i64 0, .slice none 0 0] _ rfl R.out Try.underlying28 size28) rfl ?_
    exact ⟨fun hg => (NG.out hg).elim, fun _ => fail_made (w1 := w) R.out BB.out⟩

theorem decode_any (A : Option Addr) (n c : Nat) (L : List (BitVec 8)) (s : Int) (w : World) (hn : n ≤ 500000) (hc : n ≤ c) (hcm : c ≤ maxLen) (h : Has w A n L) :
    Calls Try.prog 10 #[.slice A n c, .int .i64 s] w (Answer w (dec L s)) := by
  have hl := h.1
  by_cases hr : Room L s
  · have hr' := hr
    obtain ⟨h0, h1⟩ := hr'
    obtain ⟨m, rfl⟩ := Int.eq_ofNat_of_zero_le h0
    rw [hl] at h1
    by_cases hs : Crc.held (L.drop (11 + 5 * m)) 4 = Crc.sum (L.take (11 + 5 * m))
    · refine (decode_form A n c m (11 + 5 * m + 4) L w hn hc hcm rfl (by omega) h hs).mono fun e w' hh => ?_
      by_cases hg : good L m
      · rw [dec_good hr hs hg]
        exact hh.1 hg
      · rw [dec_bad hr hs hg]
        exact hh.2 hg
    · rw [dec_sum hr hs]
      exact decode_sum A n c m (11 + 5 * m + 4) L w hn hc hcm rfl (by omega) h hs
  · rw [dec_size hr]
    refine decode_size A n c L s w hn ?_
    rw [← hl]
    exact hr
end Go.Proofs.Ytmdgnglefikpjaa
