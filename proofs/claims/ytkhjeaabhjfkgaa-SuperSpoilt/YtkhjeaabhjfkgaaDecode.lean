/-
  THE WALKS OF super.possible AND super.Decode.
-/
import Derived.Test.YtkhjeaabhjfkgaaZeros
import Derived.Test.YtkhjeaabhjfkgaaParse
namespace Go.Proofs.Ytkhjeaabhjfkgaa
open Go.RowKit
set_option linter.unusedVariables false
set_option maxRecDepth 100000

theorem possible_bad (m b g s n l k : Nat) (h : ¬ Ok m b g s n l) (w : World) : Calls Try.prog 21 #[.agg #[.int .i64 (m : Int), .int .i64 (b : Int), .int .i64 (g : Int), .int .i64 (s : Int), .int .i64 (n : Int), .int .i64 (l : Int), .int .i64 (k : Int)]] w fun e w' => e = .returned (.bool false) ∧ Below w.heap.size w w' := by
  have H := Lib.hid h
  clear h
  have A := Lib.hid (At.new (w := w) (g := w.heap.size) #[.int .i64 (m : Int), .int .i64 (b : Int), .int .i64 (g : Int), .int .i64 (s : Int), .int .i64 (n : Int), .int .i64 (l : Int), .int .i64 (k : Int)] 29 rfl)
  have B0 := Lib.hid ((Below.refl w.heap.size w).alloc (Nat.le_refl _) (.cells #[.int .i64 (m : Int), .int .i64 (b : Int), .int .i64 (g : Int), .int .i64 (s : Int), .int .i64 (n : Int), .int .i64 (l : Int), .int .i64 (k : Int)] 29))
  go_enter Try.func21, Try.ntmps21
  go_wp2_with fail
  refine (check_bad (m : Int) b g s n l H.out _).mono ?_
  rintro e w1 ⟨rfl, hb⟩
  have A := Lib.hid (A.out.below hb A.out.lt)
  have B0 := Lib.hid (B0.out.trans (hb.mono (by simp)))
  have c0 := A.out.cell 0; have c6 := A.out.cell 6
  clear hb
  go_wp2
  go_ret
  exact ⟨by simp_all, B0.out⟩
theorem possible_none (m b g s n l k : Nat) (h : Ok m b g s n l) (hk : ¬ (k : Int) < (m : Int)) (w : World) : Calls Try.prog 21 #[.agg #[.int .i64 (m : Int), .int .i64 (b : Int), .int .i64 (g : Int), .int .i64 (s : Int), .int .i64 (n : Int), .int .i64 (l : Int), .int .i64 (k : Int)]] w fun e w' => e = .returned (.bool false) ∧ Below w.heap.size w w' := by
  have H := Lib.hid h
  clear h
  have hd : decide ((k : Int) < (m : Int)) = false := decide_eq_false hk
  have A := Lib.hid (At.new (w := w) (g := w.heap.size) #[.int .i64 (m : Int), .int .i64 (b : Int), .int .i64 (g : Int), .int .i64 (s : Int), .int .i64 (n : Int), .int .i64 (l : Int), .int .i64 (k : Int)] 29 rfl)
  have B0 := Lib.hid ((Below.refl w.heap.size w).alloc (Nat.le_refl _) (.cells #[.int .i64 (m : Int), .int .i64 (b : Int), .int .i64 (g : Int), .int .i64 (s : Int), .int .i64 (n : Int), .int .i64 (l : Int), .int .i64 (k : Int)] 29))
  go_enter Try.func21, Try.ntmps21
  go_wp2_with fail
  refine (check_ok (m : Int) b g s n l H.out _).mono ?_
  rintro e w1 ⟨rfl, hb⟩
  have A := Lib.hid (A.out.below hb A.out.lt)
  have B0 := Lib.hid (B0.out.trans (hb.mono (by simp)))
  have c0 := A.out.cell 0; have c6 := A.out.cell 6
  clear hb
  go_wp2
  go_ret
  exact ⟨by simp_all, B0.out⟩
theorem possible_yes (m b g s n l k : Nat) (h : Ok m b g s n l) (hk : (k : Int) < (m : Int)) (w : World) : Calls Try.prog 21 #[.agg #[.int .i64 (m : Int), .int .i64 (b : Int), .int .i64 (g : Int), .int .i64 (s : Int), .int .i64 (n : Int), .int .i64 (l : Int), .int .i64 (k : Int)]] w fun e w' => e = .returned (.bool true) ∧ Below w.heap.size w w' := by
  have H := Lib.hid h
  clear h
  have hd : decide ((k : Int) < (m : Int)) = true := decide_eq_true hk
  have A := Lib.hid (At.new (w := w) (g := w.heap.size) #[.int .i64 (m : Int), .int .i64 (b : Int), .int .i64 (g : Int), .int .i64 (s : Int), .int .i64 (n : Int), .int .i64 (l : Int), .int .i64 (k : Int)] 29 rfl)
  have B0 := Lib.hid ((Below.refl w.heap.size w).alloc (Nat.le_refl _) (.cells #[.int .i64 (m : Int), .int .i64 (b : Int), .int .i64 (g : Int), .int .i64 (s : Int), .int .i64 (n : Int), .int .i64 (l : Int), .int .i64 (k : Int)] 29))
  go_enter Try.func21, Try.ntmps21
  go_wp2_with fail
  refine (check_ok (m : Int) b g s n l H.out _).mono ?_
  rintro e w1 ⟨rfl, hb⟩
  have A := Lib.hid (A.out.below hb A.out.lt)
  have B0 := Lib.hid (B0.out.trans (hb.mono (by simp)))
  have c0 := A.out.cell 0; have c6 := A.out.cell 6
  clear hb
  go_wp2
  go_ret
  exact ⟨by simp_all, B0.out⟩

theorem held_take (L : List (BitVec 8)) (h : 22 ≤ L.length) : Crc.held ((L.take 22).drop 18) 4 = Crc.held (L.drop 18) 4 := by
  apply BitVec.eq_of_toNat_eq
  rw [held_num _ 4 (by omega) (by simp; omega), held_num _ 4 (by omega) (by simp; omega), List.drop_take, List.take_take]
  rfl
theorem take_18 (L : List (BitVec 8)) : (L.take 22).take 18 = L.take 18 := by rw [List.take_take]; rfl

/-- What Decode and the document's own reading answer. -/
def Answers (w : World) (x : Lab) (e : Nat) (E : Ending) (w' : World) : Prop := E = .returned (.tuple #[.agg x.cs, .int .i64 (e : Int)]) ∧ Below w.heap.size w w'

set_option maxHeartbeats 400000 in
theorem decode_size (A : Option Addr) (n c : Nat) (w : World) (hn : n < 22) : Calls Try.prog 10 #[.slice A n c] w (Answers w Lab.zero 6) := by
  go_enter Try.func10, Try.ntmps10
  go_wp2
  refine bodyPost_ret (results_cell_slot (p := 2) (u := 3) (ty := 29) rfl _ _ w.heap.size Lab.zero.cs _ rfl (At.new _ 29 rfl) Try.underlying29 size29) rfl ?_
  exact ⟨rfl, (Below.refl _ _).alloc (Nat.le_refl _) _⟩

set_option maxHeartbeats 400000 in
theorem decode_sum (A : Option Addr) (n c : Nat) (L : List (BitVec 8)) (w : World) (hn : 22 ≤ n) (hc : n ≤ c) (hcm : c ≤ maxLen) (h : Has w A n L) (hs : ¬ Crc.held (L.drop 18) 4 = Crc.sum (L.take 18)) :
    Calls Try.prog 10 #[.slice A n c] w (Answers w Lab.zero 5) := by
  have HS := Lib.hid (show Crc.held ((L.take 22).drop 18) 4 ≠ Crc.sum ((L.take 22).take 18) by rw [held_take L (by rw [h.1]; omega), take_18]; exact hs)
  clear hs
  obtain ⟨ab, off, rfl⟩ := h.some_ (by omega)
  unfold maxLen at hcm
  have H := Lib.hid (h.below ((Below.refl _ _).alloc (Nat.le_refl _) (.cells Lab.zero.cs 29)))
  have RB := Lib.hid (At.new (w := w) (g := w.heap.size) Lab.zero.cs 29 rfl)
  have BB := Lib.hid ((Below.refl w.heap.size w).alloc (Nat.le_refl _) (.cells Lab.zero.cs 29))
  clear h
  go_enter Try.func10, Try.ntmps10
  go_wp2_with fail
  refine (open_wrong _ 18 c (L.take 22) _ (by omega) (by unfold maxLen; omega) (H.out.take 22 hn) HS.out).mono ?_
  rintro e w1 ⟨rfl, q, hw1⟩
  have RB := Lib.hid (show At w1 w.heap.size Lab.zero.cs 29 by rw [hw1]; exact RB.out)
  have BB := Lib.hid (show Below w.heap.size w w1 by rw [hw1]; exact below_drewN BB.out q)
  clear hw1
  go_wp2_with (refine wpList_store_part rfl 29 (.tmp 2) (.tmp 20) rfl w.heap.size 0 29 Lab.zero.cs Lab.zero.cs rfl rfl RB.out size29 (by simp [cs_size]) (cs_all _) ?_; intro w9 hat9 hb9; rw [part_lab] at hat9; have R := Lib.hid hat9; have BB := Lib.hid (BB.out.trans (hb9.below (B := w.heap.size) (fun j e => by omega) (Nat.le_of_lt RB.out.lt))); clear hat9 hb9)
  refine bodyPost_ret (results_cell_slot (p := 2) (u := 3) (ty := 29) rfl _ _ w.heap.size Lab.zero.cs _ rfl R.out Try.underlying29 size29) rfl ?_
  exact ⟨rfl, BB.out⟩

set_option maxHeartbeats 800000 in
theorem decode_mark (A : Option Addr) (n c : Nat) (L : List (BitVec 8)) (w : World) (hn : 22 ≤ n) (hc : n ≤ c) (hcm : c ≤ maxLen) (hn6 : n ≤ 1000000) (h : Has w A n L) (HS : Hid (Crc.held ((L.take 22).drop 18) 4 = Crc.sum ((L.take 22).take 18))) (m b g s nv l k y : Nat) (HL : Hid (lab (L.take 18) = ⟨m, b, g, s, nv, l, k⟩)) (HF : Hid (fld (L.take 18) 0 4 = y)) (hy : ((y : Int) != 827540562) = true) :
    Calls Try.prog 10 #[.slice A n c] w (Answers w Lab.zero 4) := by
  obtain ⟨ab, off, rfl⟩ := h.some_ (by omega)
  unfold maxLen at hcm
  have H := Lib.hid (h.below ((Below.refl _ _).alloc (Nat.le_refl _) (.cells Lab.zero.cs 29)))
  have RB := Lib.hid (At.new (w := w) (g := w.heap.size) Lab.zero.cs 29 rfl)
  have BB := Lib.hid ((Below.refl w.heap.size w).alloc (Nat.le_refl _) (.cells Lab.zero.cs 29))
  clear h
  go_enter Try.func10, Try.ntmps10
  go_wp2_with fail
  refine (open_right _ 18 c (L.take 22) _ (by omega) (by unfold maxLen; omega) (by omega) (H.out.take 22 hn) HS.out).mono ?_
  rintro e w1 ⟨v1, rfl, hf1⟩
  rw [take_18] at hf1
  obtain ⟨A1, c1, rfl, _, _, _, hh1, _⟩ := own_slice hf1.1
  have HB := hf1.2
  have RB := Lib.hid (RB.out.below HB RB.out.lt)
  have BB := Lib.hid (BB.out.trans (HB.mono (up BB.out rfl)))
  have H := Lib.hid (H.out.below HB)
  have H1 := Lib.hid hh1
  clear hf1 hh1 HB
  go_wp2_with fail
  refine (parse_any A1 c1 (L.take 18) w1 H1.out).mono ?_
  rintro e w2 ⟨rfl, HB⟩
  have RB := Lib.hid (RB.out.below HB RB.out.lt)
  have BB := Lib.hid (BB.out.trans (HB.mono (up BB.out rfl)))
  have H := Lib.hid (H.out.below HB)
  clear HB
  rw [HL.out, HF.out]
  simp only [Lab.cs]
  have hsz := up BB.out rfl
  have RB := Lib.hid (RB.out.alloc (.cells #[.int .i64 (m : Int), .int .i64 (b : Int), .int .i64 (g : Int), .int .i64 (s : Int), .int .i64 (nv : Int), .int .i64 (l : Int), .int .i64 (k : Int)] 29))
  have H := Lib.hid (H.out.below ((Below.refl _ _).alloc (Nat.le_refl _) (.cells #[.int .i64 (m : Int), .int .i64 (b : Int), .int .i64 (g : Int), .int .i64 (s : Int), .int .i64 (nv : Int), .int .i64 (l : Int), .int .i64 (k : Int)] 29)))
  have PB := Lib.hid (At.new (w := w2) (g := w2.heap.size) #[.int .i64 (m : Int), .int .i64 (b : Int), .int .i64 (g : Int), .int .i64 (s : Int), .int .i64 (nv : Int), .int .i64 (l : Int), .int .i64 (k : Int)] 29 rfl)
  have BB := Lib.hid (BB.out.alloc hsz (.cells #[.int .i64 (m : Int), .int .i64 (b : Int), .int .i64 (g : Int), .int .i64 (s : Int), .int .i64 (nv : Int), .int .i64 (l : Int), .int .i64 (k : Int)] 29))
  go_wp2_with (refine wpList_store_part rfl 29 (.tmp 2) (.tmp 48) rfl w.heap.size 0 29 Lab.zero.cs Lab.zero.cs rfl rfl RB.out size29 (by simp [cs_size]) (cs_all _) ?_; intro w9 hat9 hb9; rw [part_lab] at hat9; have R := Lib.hid hat9; have BB := Lib.hid (BB.out.trans (hb9.below (B := w.heap.size) (fun j e => by omega) (Nat.le_of_lt RB.out.lt))); clear hat9 hb9)
  refine bodyPost_ret (results_cell_slot (p := 2) (u := 3) (ty := 29) rfl _ _ w.heap.size Lab.zero.cs _ rfl R.out Try.underlying29 size29) rfl ?_
  exact ⟨rfl, BB.out⟩

set_option maxHeartbeats 800000 in
theorem decode_bad (A : Option Addr) (n c : Nat) (L : List (BitVec 8)) (w : World) (hn : 22 ≤ n) (hc : n ≤ c) (hcm : c ≤ maxLen) (hn6 : n ≤ 1000000) (h : Has w A n L) (HS : Hid (Crc.held ((L.take 22).drop 18) 4 = Crc.sum ((L.take 22).take 18))) (m b g s nv l k y : Nat) (HL : Hid (lab (L.take 18) = ⟨m, b, g, s, nv, l, k⟩)) (HF : Hid (fld (L.take 18) 0 4 = y)) (hy : y = 827540562) (hok : Hid (¬ Ok m b g s nv l)) :
    Calls Try.prog 10 #[.slice A n c] w (Answers w Lab.zero 4) := by
  obtain ⟨ab, off, rfl⟩ := h.some_ (by omega)
  unfold maxLen at hcm
  have H := Lib.hid (h.below ((Below.refl _ _).alloc (Nat.le_refl _) (.cells Lab.zero.cs 29)))
  have RB := Lib.hid (At.new (w := w) (g := w.heap.size) Lab.zero.cs 29 rfl)
  have BB := Lib.hid ((Below.refl w.heap.size w).alloc (Nat.le_refl _) (.cells Lab.zero.cs 29))
  clear h
  go_enter Try.func10, Try.ntmps10
  go_wp2_with fail
  refine (open_right _ 18 c (L.take 22) _ (by omega) (by unfold maxLen; omega) (by omega) (H.out.take 22 hn) HS.out).mono ?_
  rintro e w1 ⟨v1, rfl, hf1⟩
  rw [take_18] at hf1
  obtain ⟨A1, c1, rfl, _, _, _, hh1, _⟩ := own_slice hf1.1
  have HB := hf1.2
  have RB := Lib.hid (RB.out.below HB RB.out.lt)
  have BB := Lib.hid (BB.out.trans (HB.mono (up BB.out rfl)))
  have H := Lib.hid (H.out.below HB)
  have H1 := Lib.hid hh1
  clear hf1 hh1 HB
  go_wp2_with fail
  refine (parse_any A1 c1 (L.take 18) w1 H1.out).mono ?_
  rintro e w2 ⟨rfl, HB⟩
  have RB := Lib.hid (RB.out.below HB RB.out.lt)
  have BB := Lib.hid (BB.out.trans (HB.mono (up BB.out rfl)))
  have H := Lib.hid (H.out.below HB)
  clear HB
  rw [HL.out, HF.out]
  simp only [Lab.cs]
  have hsz := up BB.out rfl
  have RB := Lib.hid (RB.out.alloc (.cells #[.int .i64 (m : Int), .int .i64 (b : Int), .int .i64 (g : Int), .int .i64 (s : Int), .int .i64 (nv : Int), .int .i64 (l : Int), .int .i64 (k : Int)] 29))
  have H := Lib.hid (H.out.below ((Below.refl _ _).alloc (Nat.le_refl _) (.cells #[.int .i64 (m : Int), .int .i64 (b : Int), .int .i64 (g : Int), .int .i64 (s : Int), .int .i64 (nv : Int), .int .i64 (l : Int), .int .i64 (k : Int)] 29)))
  have PB := Lib.hid (At.new (w := w2) (g := w2.heap.size) #[.int .i64 (m : Int), .int .i64 (b : Int), .int .i64 (g : Int), .int .i64 (s : Int), .int .i64 (nv : Int), .int .i64 (l : Int), .int .i64 (k : Int)] 29 rfl)
  have BB := Lib.hid (BB.out.alloc hsz (.cells #[.int .i64 (m : Int), .int .i64 (b : Int), .int .i64 (g : Int), .int .i64 (s : Int), .int .i64 (nv : Int), .int .i64 (l : Int), .int .i64 (k : Int)] 29))
  subst hy
  go_wp2_with fail
  refine (possible_bad m b g s nv l k hok.out _).mono ?_
  rintro e w3 ⟨rfl, HB⟩
  have RB := Lib.hid (RB.out.below HB RB.out.lt)
  have BB := Lib.hid (BB.out.trans (HB.mono (up BB.out rfl)))
  have H := Lib.hid (H.out.below HB)
  have PB := Lib.hid (PB.out.below HB PB.out.lt)
  have c1 := PB.out.cell 1
  clear HB
  go_wp2_with (refine wpList_store_part rfl 29 (.tmp 2) (.tmp 48) rfl w.heap.size 0 29 Lab.zero.cs Lab.zero.cs rfl rfl RB.out size29 (by simp [cs_size]) (cs_all _) ?_; intro w9 hat9 hb9; rw [part_lab] at hat9; have R := Lib.hid hat9; have BB := Lib.hid (BB.out.trans (hb9.below (B := w.heap.size) (fun j e => by omega) (Nat.le_of_lt RB.out.lt))); clear hat9 hb9)
  refine bodyPost_ret (results_cell_slot (p := 2) (u := 3) (ty := 29) rfl _ _ w.heap.size Lab.zero.cs _ rfl R.out Try.underlying29 size29) rfl ?_
  exact ⟨rfl, BB.out⟩

set_option maxHeartbeats 800000 in
theorem decode_none (A : Option Addr) (n c : Nat) (L : List (BitVec 8)) (w : World) (hn : 22 ≤ n) (hc : n ≤ c) (hcm : c ≤ maxLen) (hn6 : n ≤ 1000000) (h : Has w A n L) (HS : Hid (Crc.held ((L.take 22).drop 18) 4 = Crc.sum ((L.take 22).take 18))) (m b g s nv l k y : Nat) (HL : Hid (lab (L.take 18) = ⟨m, b, g, s, nv, l, k⟩)) (HF : Hid (fld (L.take 18) 0 4 = y)) (hy : y = 827540562) (hok : Hid (Ok m b g s nv l)) (hk : Hid (¬ (k : Int) < (m : Int))) :
    Calls Try.prog 10 #[.slice A n c] w (Answers w Lab.zero 4) := by
  obtain ⟨ab, off, rfl⟩ := h.some_ (by omega)
  unfold maxLen at hcm
  have H := Lib.hid (h.below ((Below.refl _ _).alloc (Nat.le_refl _) (.cells Lab.zero.cs 29)))
  have RB := Lib.hid (At.new (w := w) (g := w.heap.size) Lab.zero.cs 29 rfl)
  have BB := Lib.hid ((Below.refl w.heap.size w).alloc (Nat.le_refl _) (.cells Lab.zero.cs 29))
  clear h
  go_enter Try.func10, Try.ntmps10
  go_wp2_with fail
  refine (open_right _ 18 c (L.take 22) _ (by omega) (by unfold maxLen; omega) (by omega) (H.out.take 22 hn) HS.out).mono ?_
  rintro e w1 ⟨v1, rfl, hf1⟩
  rw [take_18] at hf1
  obtain ⟨A1, c1, rfl, _, _, _, hh1, _⟩ := own_slice hf1.1
  have HB := hf1.2
  have RB := Lib.hid (RB.out.below HB RB.out.lt)
  have BB := Lib.hid (BB.out.trans (HB.mono (up BB.out rfl)))
  have H := Lib.hid (H.out.below HB)
  have H1 := Lib.hid hh1
  clear hf1 hh1 HB
  go_wp2_with fail
  refine (parse_any A1 c1 (L.take 18) w1 H1.out).mono ?_
  rintro e w2 ⟨rfl, HB⟩
  have RB := Lib.hid (RB.out.below HB RB.out.lt)
  have BB := Lib.hid (BB.out.trans (HB.mono (up BB.out rfl)))
  have H := Lib.hid (H.out.below HB)
  clear HB
  rw [HL.out, HF.out]
  simp only [Lab.cs]
  have hsz := up BB.out rfl
  have RB := Lib.hid (RB.out.alloc (.cells #[.int .i64 (m : Int), .int .i64 (b : Int), .int .i64 (g : Int), .int .i64 (s : Int), .int .i64 (nv : Int), .int .i64 (l : Int), .int .i64 (k : Int)] 29))
  have H := Lib.hid (H.out.below ((Below.refl _ _).alloc (Nat.le_refl _) (.cells #[.int .i64 (m : Int), .int .i64 (b : Int), .int .i64 (g : Int), .int .i64 (s : Int), .int .i64 (nv : Int), .int .i64 (l : Int), .int .i64 (k : Int)] 29)))
  have PB := Lib.hid (At.new (w := w2) (g := w2.heap.size) #[.int .i64 (m : Int), .int .i64 (b : Int), .int .i64 (g : Int), .int .i64 (s : Int), .int .i64 (nv : Int), .int .i64 (l : Int), .int .i64 (k : Int)] 29 rfl)
  have BB := Lib.hid (BB.out.alloc hsz (.cells #[.int .i64 (m : Int), .int .i64 (b : Int), .int .i64 (g : Int), .int .i64 (s : Int), .int .i64 (nv : Int), .int .i64 (l : Int), .int .i64 (k : Int)] 29))
  subst hy
  go_wp2_with fail
  refine (possible_none m b g s nv l k hok.out (by have := hk.out; omega) _).mono ?_
  rintro e w3 ⟨rfl, HB⟩
  have RB := Lib.hid (RB.out.below HB RB.out.lt)
  have BB := Lib.hid (BB.out.trans (HB.mono (up BB.out rfl)))
  have H := Lib.hid (H.out.below HB)
  have PB := Lib.hid (PB.out.below HB PB.out.lt)
  have c1 := PB.out.cell 1
  clear HB
  go_wp2_with (refine wpList_store_part rfl 29 (.tmp 2) (.tmp 48) rfl w.heap.size 0 29 Lab.zero.cs Lab.zero.cs rfl rfl RB.out size29 (by simp [cs_size]) (cs_all _) ?_; intro w9 hat9 hb9; rw [part_lab] at hat9; have R := Lib.hid hat9; have BB := Lib.hid (BB.out.trans (hb9.below (B := w.heap.size) (fun j e => by omega) (Nat.le_of_lt RB.out.lt))); clear hat9 hb9)
  refine bodyPost_ret (results_cell_slot (p := 2) (u := 3) (ty := 29) rfl _ _ w.heap.size Lab.zero.cs _ rfl R.out Try.underlying29 size29) rfl ?_
  exact ⟨rfl, BB.out⟩

set_option maxHeartbeats 800000 in
theorem decode_len (A : Option Addr) (n c : Nat) (L : List (BitVec 8)) (w : World) (hn : 22 ≤ n) (hc : n ≤ c) (hcm : c ≤ maxLen) (hn6 : n ≤ 1000000) (h : Has w A n L) (HS : Hid (Crc.held ((L.take 22).drop 18) 4 = Crc.sum ((L.take 22).take 18))) (m b g s nv l k y : Nat) (HL : Hid (lab (L.take 18) = ⟨m, b, g, s, nv, l, k⟩)) (HF : Hid (fld (L.take 18) 0 4 = y)) (hy : y = 827540562) (hok : Hid (Ok m b g s nv l)) (hk : Hid ((k : Int) < (m : Int))) (hb : ((n : Int) != (b : Int)) = true) :
    Calls Try.prog 10 #[.slice A n c] w (Answers w Lab.zero 4) := by
  obtain ⟨ab, off, rfl⟩ := h.some_ (by omega)
  unfold maxLen at hcm
  have H := Lib.hid (h.below ((Below.refl _ _).alloc (Nat.le_refl _) (.cells Lab.zero.cs 29)))
  have RB := Lib.hid (At.new (w := w) (g := w.heap.size) Lab.zero.cs 29 rfl)
  have BB := Lib.hid ((Below.refl w.heap.size w).alloc (Nat.le_refl _) (.cells Lab.zero.cs 29))
  clear h
  go_enter Try.func10, Try.ntmps10
  go_wp2_with fail
  refine (open_right _ 18 c (L.take 22) _ (by omega) (by unfold maxLen; omega) (by omega) (H.out.take 22 hn) HS.out).mono ?_
  rintro e w1 ⟨v1, rfl, hf1⟩
  rw [take_18] at hf1
  obtain ⟨A1, c1, rfl, _, _, _, hh1, _⟩ := own_slice hf1.1
  have HB := hf1.2
  have RB := Lib.hid (RB.out.below HB RB.out.lt)
  have BB := Lib.hid (BB.out.trans (HB.mono (up BB.out rfl)))
  have H := Lib.hid (H.out.below HB)
  have H1 := Lib.hid hh1
  clear hf1 hh1 HB
  go_wp2_with fail
  refine (parse_any A1 c1 (L.take 18) w1 H1.out).mono ?_
  rintro e w2 ⟨rfl, HB⟩
  have RB := Lib.hid (RB.out.below HB RB.out.lt)
  have BB := Lib.hid (BB.out.trans (HB.mono (up BB.out rfl)))
  have H := Lib.hid (H.out.below HB)
  clear HB
  rw [HL.out, HF.out]
  simp only [Lab.cs]
  have hsz := up BB.out rfl
  have RB := Lib.hid (RB.out.alloc (.cells #[.int .i64 (m : Int), .int .i64 (b : Int), .int .i64 (g : Int), .int .i64 (s : Int), .int .i64 (nv : Int), .int .i64 (l : Int), .int .i64 (k : Int)] 29))
  have H := Lib.hid (H.out.below ((Below.refl _ _).alloc (Nat.le_refl _) (.cells #[.int .i64 (m : Int), .int .i64 (b : Int), .int .i64 (g : Int), .int .i64 (s : Int), .int .i64 (nv : Int), .int .i64 (l : Int), .int .i64 (k : Int)] 29)))
  have PB := Lib.hid (At.new (w := w2) (g := w2.heap.size) #[.int .i64 (m : Int), .int .i64 (b : Int), .int .i64 (g : Int), .int .i64 (s : Int), .int .i64 (nv : Int), .int .i64 (l : Int), .int .i64 (k : Int)] 29 rfl)
  have BB := Lib.hid (BB.out.alloc hsz (.cells #[.int .i64 (m : Int), .int .i64 (b : Int), .int .i64 (g : Int), .int .i64 (s : Int), .int .i64 (nv : Int), .int .i64 (l : Int), .int .i64 (k : Int)] 29))
  subst hy
  go_wp2_with fail
  refine (possible_yes m b g s nv l k hok.out hk.out _).mono ?_
  rintro e w3 ⟨rfl, HB⟩
  have RB := Lib.hid (RB.out.below HB RB.out.lt)
  have BB := Lib.hid (BB.out.trans (HB.mono (up BB.out rfl)))
  have H := Lib.hid (H.out.below HB)
  have PB := Lib.hid (PB.out.below HB PB.out.lt)
  have c1 := PB.out.cell 1
  clear HB
  go_wp2_with (refine wpList_store_part rfl 29 (.tmp 2) (.tmp 48) rfl w.heap.size 0 29 Lab.zero.cs Lab.zero.cs rfl rfl RB.out size29 (by simp [cs_size]) (cs_all _) ?_; intro w9 hat9 hb9; rw [part_lab] at hat9; have R := Lib.hid hat9; have BB := Lib.hid (BB.out.trans (hb9.below (B := w.heap.size) (fun j e => by omega) (Nat.le_of_lt RB.out.lt))); clear hat9 hb9)
  refine bodyPost_ret (results_cell_slot (p := 2) (u := 3) (ty := 29) rfl _ _ w.heap.size Lab.zero.cs _ rfl R.out Try.underlying29 size29) rfl ?_
  exact ⟨rfl, BB.out⟩

set_option maxHeartbeats 800000 in
theorem decode_zeros (A : Option Addr) (n c : Nat) (L : List (BitVec 8)) (w : World) (hn : 22 ≤ n) (hc : n ≤ c) (hcm : c ≤ maxLen) (hn6 : n ≤ 1000000) (h : Has w A n L) (HS : Hid (Crc.held ((L.take 22).drop 18) 4 = Crc.sum ((L.take 22).take 18))) (m b g s nv l k y : Nat) (HL : Hid (lab (L.take 18) = ⟨m, b, g, s, nv, l, k⟩)) (HF : Hid (fld (L.take 18) 0 4 = y)) (hy : y = 827540562) (hok : Hid (Ok m b g s nv l)) (hk : Hid ((k : Int) < (m : Int))) (hb : n = b) (h23 : 22 < n) (hz : Hid (¬ None0 (L.drop 22))) :
    Calls Try.prog 10 #[.slice A n c] w (Answers w Lab.zero 4) := by
  subst hb
  obtain ⟨ab, off, rfl⟩ := h.some_ (by omega)
  unfold maxLen at hcm
  have H := Lib.hid (h.below ((Below.refl _ _).alloc (Nat.le_refl _) (.cells Lab.zero.cs 29)))
  have RB := Lib.hid (At.new (w := w) (g := w.heap.size) Lab.zero.cs 29 rfl)
  have BB := Lib.hid ((Below.refl w.heap.size w).alloc (Nat.le_refl _) (.cells Lab.zero.cs 29))
  clear h
  go_enter Try.func10, Try.ntmps10
  go_wp2_with fail
  refine (open_right _ 18 c (L.take 22) _ (by omega) (by unfold maxLen; omega) (by omega) (H.out.take 22 hn) HS.out).mono ?_
  rintro e w1 ⟨v1, rfl, hf1⟩
  rw [take_18] at hf1
  obtain ⟨A1, c1, rfl, _, _, _, hh1, _⟩ := own_slice hf1.1
  have HB := hf1.2
  have RB := Lib.hid (RB.out.below HB RB.out.lt)
  have BB := Lib.hid (BB.out.trans (HB.mono (up BB.out rfl)))
  have H := Lib.hid (H.out.below HB)
  have H1 := Lib.hid hh1
  clear hf1 hh1 HB
  go_wp2_with fail
  refine (parse_any A1 c1 (L.take 18) w1 H1.out).mono ?_
  rintro e w2 ⟨rfl, HB⟩
  have RB := Lib.hid (RB.out.below HB RB.out.lt)
  have BB := Lib.hid (BB.out.trans (HB.mono (up BB.out rfl)))
  have H := Lib.hid (H.out.below HB)
  clear HB
  rw [HL.out, HF.out]
  simp only [Lab.cs]
  have hsz := up BB.out rfl
  have RB := Lib.hid (RB.out.alloc (.cells #[.int .i64 (m : Int), .int .i64 (n : Int), .int .i64 (g : Int), .int .i64 (s : Int), .int .i64 (nv : Int), .int .i64 (l : Int), .int .i64 (k : Int)] 29))
  have H := Lib.hid (H.out.below ((Below.refl _ _).alloc (Nat.le_refl _) (.cells #[.int .i64 (m : Int), .int .i64 (n : Int), .int .i64 (g : Int), .int .i64 (s : Int), .int .i64 (nv : Int), .int .i64 (l : Int), .int .i64 (k : Int)] 29)))
  have PB := Lib.hid (At.new (w := w2) (g := w2.heap.size) #[.int .i64 (m : Int), .int .i64 (n : Int), .int .i64 (g : Int), .int .i64 (s : Int), .int .i64 (nv : Int), .int .i64 (l : Int), .int .i64 (k : Int)] 29 rfl)
  have BB := Lib.hid (BB.out.alloc hsz (.cells #[.int .i64 (m : Int), .int .i64 (n : Int), .int .i64 (g : Int), .int .i64 (s : Int), .int .i64 (nv : Int), .int .i64 (l : Int), .int .i64 (k : Int)] 29))
  subst hy
  go_wp2_with fail
  refine (possible_yes m n g s nv l k hok.out hk.out _).mono ?_
  rintro e w3 ⟨rfl, HB⟩
  have RB := Lib.hid (RB.out.below HB RB.out.lt)
  have BB := Lib.hid (BB.out.trans (HB.mono (up BB.out rfl)))
  have H := Lib.hid (H.out.below HB)
  have PB := Lib.hid (PB.out.below HB PB.out.lt)
  have c1 := PB.out.cell 1
  clear HB
  go_wp2_with fail
  refine (zeros_no _ (n - 22) (c - 22) (L.drop 22) _ (by omega) (H.out.drop 22 hn) hz.out).mono ?_
  rintro e w4 ⟨rfl, rfl⟩
  go_wp2_with (refine wpList_store_part rfl 29 (.tmp 2) (.tmp 48) rfl w.heap.size 0 29 Lab.zero.cs Lab.zero.cs rfl rfl RB.out size29 (by simp [cs_size]) (cs_all _) ?_; intro w9 hat9 hb9; rw [part_lab] at hat9; have R := Lib.hid hat9; have BB := Lib.hid (BB.out.trans (hb9.below (B := w.heap.size) (fun j e => by omega) (Nat.le_of_lt RB.out.lt))); clear hat9 hb9)
  refine bodyPost_ret (results_cell_slot (p := 2) (u := 3) (ty := 29) rfl _ _ w.heap.size Lab.zero.cs _ rfl R.out Try.underlying29 size29) rfl ?_
  exact ⟨rfl, BB.out⟩

set_option maxHeartbeats 800000 in
theorem decode_good (A : Option Addr) (n c : Nat) (L : List (BitVec 8)) (w : World) (hn : 22 ≤ n) (hc : n ≤ c) (hcm : c ≤ maxLen) (hn6 : n ≤ 1000000) (h : Has w A n L) (HS : Hid (Crc.held ((L.take 22).drop 18) 4 = Crc.sum ((L.take 22).take 18))) (m b g s nv l k y : Nat) (HL : Hid (lab (L.take 18) = ⟨m, b, g, s, nv, l, k⟩)) (HF : Hid (fld (L.take 18) 0 4 = y)) (hy : y = 827540562) (hok : Hid (Ok m b g s nv l)) (hk : Hid ((k : Int) < (m : Int))) (hb : n = b) (h23 : 22 < n) (hz : Hid (None0 (L.drop 22))) :
    Calls Try.prog 10 #[.slice A n c] w (Answers w ⟨m, b, g, s, nv, l, k⟩ 0) := by
  subst hb
  obtain ⟨ab, off, rfl⟩ := h.some_ (by omega)
  unfold maxLen at hcm
  have H := Lib.hid (h.below ((Below.refl _ _).alloc (Nat.le_refl _) (.cells Lab.zero.cs 29)))
  have RB := Lib.hid (At.new (w := w) (g := w.heap.size) Lab.zero.cs 29 rfl)
  have BB := Lib.hid ((Below.refl w.heap.size w).alloc (Nat.le_refl _) (.cells Lab.zero.cs 29))
  clear h
  go_enter Try.func10, Try.ntmps10
  go_wp2_with fail
  refine (open_right _ 18 c (L.take 22) _ (by omega) (by unfold maxLen; omega) (by omega) (H.out.take 22 hn) HS.out).mono ?_
  rintro e w1 ⟨v1, rfl, hf1⟩
  rw [take_18] at hf1
  obtain ⟨A1, c1, rfl, _, _, _, hh1, _⟩ := own_slice hf1.1
  have HB := hf1.2
  have RB := Lib.hid (RB.out.below HB RB.out.lt)
  have BB := Lib.hid (BB.out.trans (HB.mono (up BB.out rfl)))
  have H := Lib.hid (H.out.below HB)
  have H1 := Lib.hid hh1
  clear hf1 hh1 HB
  go_wp2_with fail
  refine (parse_any A1 c1 (L.take 18) w1 H1.out).mono ?_
  rintro e w2 ⟨rfl, HB⟩
  have RB := Lib.hid (RB.out.below HB RB.out.lt)
  have BB := Lib.hid (BB.out.trans (HB.mono (up BB.out rfl)))
  have H := Lib.hid (H.out.below HB)
  clear HB
  rw [HL.out, HF.out]
  simp only [Lab.cs]
  have hsz := up BB.out rfl
  have RB := Lib.hid (RB.out.alloc (.cells #[.int .i64 (m : Int), .int .i64 (n : Int), .int .i64 (g : Int), .int .i64 (s : Int), .int .i64 (nv : Int), .int .i64 (l : Int), .int .i64 (k : Int)] 29))
  have H := Lib.hid (H.out.below ((Below.refl _ _).alloc (Nat.le_refl _) (.cells #[.int .i64 (m : Int), .int .i64 (n : Int), .int .i64 (g : Int), .int .i64 (s : Int), .int .i64 (nv : Int), .int .i64 (l : Int), .int .i64 (k : Int)] 29)))
  have PB := Lib.hid (At.new (w := w2) (g := w2.heap.size) #[.int .i64 (m : Int), .int .i64 (n : Int), .int .i64 (g : Int), .int .i64 (s : Int), .int .i64 (nv : Int), .int .i64 (l : Int), .int .i64 (k : Int)] 29 rfl)
  have BB := Lib.hid (BB.out.alloc hsz (.cells #[.int .i64 (m : Int), .int .i64 (n : Int), .int .i64 (g : Int), .int .i64 (s : Int), .int .i64 (nv : Int), .int .i64 (l : Int), .int .i64 (k : Int)] 29))
  subst hy
  go_wp2_with fail
  refine (possible_yes m n g s nv l k hok.out hk.out _).mono ?_
  rintro e w3 ⟨rfl, HB⟩
  have RB := Lib.hid (RB.out.below HB RB.out.lt)
  have BB := Lib.hid (BB.out.trans (HB.mono (up BB.out rfl)))
  have H := Lib.hid (H.out.below HB)
  have PB := Lib.hid (PB.out.below HB PB.out.lt)
  have c1 := PB.out.cell 1
  clear HB
  go_wp2_with fail
  refine (zeros_yes _ (n - 22) (c - 22) (L.drop 22) _ (by omega) (H.out.drop 22 hn) hz.out).mono ?_
  rintro e w4 ⟨rfl, rfl⟩
  have c0 := PB.out.cell 0; have c2 := PB.out.cell 2; have c3 := PB.out.cell 3; have c4 := PB.out.cell 4; have c5 := PB.out.cell 5; have c6 := PB.out.cell 6
  go_wp2_with (refine wpList_store_part rfl 29 (.tmp 2) (.tmp 49) rfl w.heap.size 0 29 Lab.zero.cs (Lab.mk m n g s nv l k).cs rfl rfl RB.out size29 (by simp [cs_size]) (cs_all _) ?_; intro w9 hat9 hb9; rw [part_lab] at hat9; have R := Lib.hid hat9; have BB := Lib.hid (BB.out.trans (hb9.below (B := w.heap.size) (fun j e => by omega) (Nat.le_of_lt RB.out.lt))); clear hat9 hb9)
  refine bodyPost_ret (results_cell_slot (p := 2) (u := 3) (ty := 29) rfl _ _ w.heap.size (Lab.mk m n g s nv l k).cs _ rfl R.out Try.underlying29 size29) rfl ?_
  exact ⟨rfl, BB.out⟩

theorem decode_any (A : Option Addr) (n c : Nat) (L : List (BitVec 8)) (w : World) (hc : n ≤ c) (hcm : c ≤ maxLen) (hn6 : n ≤ 1000000) (h : Has w A n L) : Calls Try.prog 10 #[.slice A n c] w (Answers w (dec L).1 (dec L).2) := by
  have hl := h.1
  by_cases hn : n < 22
  · rw [dec_size (by omega)]
    exact decode_size A n c w hn
  have hn : 22 ≤ n := by omega
  by_cases hs : Crc.held (L.drop 18) 4 = Crc.sum (L.take 18)
  · have HS := Lib.hid (show Crc.held ((L.take 22).drop 18) 4 = Crc.sum ((L.take 22).take 18) by rw [held_take L (by omega), take_18]; exact hs)
    have HF := Lib.hid (show fld (L.take 18) 0 4 = fld L 0 4 from fld_take L 0 4 (by omega))
    have HL := Lib.hid (lab_take L)
    have hg : good L ↔ fld L 0 4 = mark ∧ (lab L).ok ∧ (lab L).k < (lab L).m ∧ (lab L).b = L.length ∧ None0 (L.drop 22) := Iff.rfl
    have hbad := dec_bad (L := L) (by omega) hs
    have hgood := dec_good (L := L) (by omega) hs
    rw [hg] at hbad hgood
    clear hg
    generalize hy : fld L 0 4 = y at *
    generalize hx : lab L = x at *
    obtain ⟨m, b, g, s, nv, l, k⟩ := x
    by_cases h1 : y = 827540562
    · by_cases h2 : Ok (m : Int) b g s nv l
      · have hb := ok_block (x := ⟨m, b, g, s, nv, l, k⟩) h2
        by_cases h3 : k < m
        · by_cases h4 : n = b
          · by_cases h5 : None0 (L.drop 22)
            · rw [hgood ⟨h1, h2, h3, by show b = _; omega, h5⟩]
              exact decode_good A n c L w hn hc hcm hn6 h HS m b g s nv l k y HL HF h1 h2 (show (k : Int) < (m : Int) by omega) h4 (by have := hb.1; simp only at this; omega) h5
            · rw [hbad (fun hh => h5 hh.2.2.2.2)]
              exact decode_zeros A n c L w hn hc hcm hn6 h HS m b g s nv l k y HL HF h1 h2 (show (k : Int) < (m : Int) by omega) h4 (by have := hb.1; simp only at this; omega) h5
          · rw [hbad (fun hh => h4 (by have := hh.2.2.2.1; simp only at this; omega))]
            exact decode_len A n c L w hn hc hcm hn6 h HS m b g s nv l k y HL HF h1 h2 (show (k : Int) < (m : Int) by omega) (by simp; omega)
        · rw [hbad (fun hh => h3 hh.2.2.1)]
          exact decode_none A n c L w hn hc hcm hn6 h HS m b g s nv l k y HL HF h1 h2 (show ¬ (k : Int) < (m : Int) by omega)
      · rw [hbad (fun hh => h2 hh.2.1)]
        exact decode_bad A n c L w hn hc hcm hn6 h HS m b g s nv l k y HL HF h1 h2
    · rw [hbad (fun hh => h1 hh.1)]
      exact decode_mark A n c L w hn hc hcm hn6 h HS m b g s nv l k y HL HF (by simp; omega)
  · rw [dec_sum (by omega) hs]
    exact decode_sum A n c L w hn hc hcm h hs

end Go.Proofs.Ytkhjeaabhjfkgaa
