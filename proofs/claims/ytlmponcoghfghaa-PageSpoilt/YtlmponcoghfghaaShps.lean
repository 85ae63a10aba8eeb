/-
  SHAPES BY NATURAL NUMBERS: how many pages; the shapes that the laws ask.
-/
import Derived.Test.YtlmponcoghfghaaRowsM
namespace Go.Proofs.Ytlmponcoghfghaa
open Go.RowKit
set_option linter.unusedVariables false
set_option maxRecDepth 100000


/-- A shape that may be. -/
abbrev OkN (m b g s n l : Nat) : Prop := Ok (m : Int) b g s n l
/-- What follows of it. -/
structure Bnd (m b g s l : Nat) : Prop where
  m : 3 ≤ m ∧ m ≤ 16
  b : 32 ≤ b ∧ b ≤ 512
  g : 4 ≤ g ∧ g ≤ 64
  s : 2 ≤ s ∧ s ≤ 16
  l : 1 ≤ l ∧ l ≤ 12810
theorem OkN.bnd {m b g s n l : Nat} (h : OkN m b g s n l) : Bnd m b g s l := by
  obtain ⟨h1, h2, h3, h4⟩ := h
  have h5 := (three_l h1).2
  obtain ⟨⟨a1, a2⟩, ⟨a3, a4⟩, ⟨a5, a6⟩⟩ := h1
  obtain ⟨b1, b2, b3⟩ := h2
  obtain ⟨c1, c2⟩ := h4
  exact ⟨by omega, by omega, by omega, by omega, by omega⟩
/-- How many pages. -/
def npg (b g l : Nat) : Nat := (12 + 9 * g + 4 * l + (b - 15) - 1) / (b - 15)
theorem npg_int {b g l : Nat} (hb : 32 ≤ b) : ((npg b g l : Nat) : Int) = pgs b g l := by
  obtain ⟨k, rfl⟩ : ∃ k, b = k + 15 := ⟨b - 15, by omega⟩
  unfold npg pgs
  rw [Nat.add_sub_cancel, show ((k + 15 : Nat) : Int) - 15 = (k : Int) by omega, show (12 + 9 * (g : Int) + 4 * (l : Int) + (k : Int) - 1) = ((12 + 9 * g + 4 * l + k - 1 : Nat) : Int) by omega]
  rfl
theorem npg_le {m b g s l : Nat} (h : Bnd m b g s l) : npg b g l * (b - 15) ≤ 12 + 9 * g + 4 * l + (b - 15) - 1 := Nat.div_mul_le_self _ _
theorem npg_ge {m b g s l : Nat} (h : Bnd m b g s l) : 12 + 9 * g + 4 * l ≤ npg b g l * (b - 15) := by
  have hb := h.b
  have h1 := Nat.lt_div_mul_add (a := 12 + 9 * g + 4 * l + (b - 15) - 1) (show 0 < b - 15 by omega)
  unfold npg
  omega
theorem npg_max {m b g s l : Nat} (h : Bnd m b g s l) : npg b g l * (b - 15) ≤ 60000 := by
  have := npg_le h
  have := h.b; have := h.g; have := h.l
  omega
theorem npg_few {m b g s l : Nat} (h : Bnd m b g s l) : 1 ≤ npg b g l ∧ npg b g l ≤ 60000 := by
  have h1 := npg_ge h
  have h2 := npg_max h
  have hb := h.b
  rcases Nat.eq_zero_or_pos (npg b g l) with h0 | h0
  · rw [h0] at h1; omega
  · exact ⟨h0, Nat.le_trans (Nat.le_mul_of_pos_right _ (by omega)) h2⟩
theorem pages_nat {m b g s n l : Nat} (h : Bnd m b g s l) (w : World) : Calls Try.prog 25 #[sv m b g s n l] w fun e w' => e = .returned (.int .i64 (npg b g l : Int)) ∧ Below w.heap.size w w' := by
  have hb := h.b; have hg := h.g; have hl := h.l
  rw [npg_int hb.1]
  exact pages_any _ _ _ _ _ _ (by omega) (by omega) (by omega) w
theorem page_nat {m b g s n l : Nat} (h : Bnd m b g s l) (w : World) : Calls Try.prog 26 #[sv m b g s n l] w fun e w' => e = .returned (.int .i64 ((b - 15 : Nat) : Int)) ∧ Below w.heap.size w w' := by
  have hb := h.b
  rw [show (((b - 15 : Nat)) : Int) = (b : Int) - 15 by omega]
  exact page_any _ _ _ _ _ _ (by omega) w
theorem all_nat {m b g s n l : Nat} (h : Bnd m b g s l) (w : World) : Calls Try.prog 21 #[sv m b g s n l] w fun e w' => e = .returned (.int .i64 ((g * s : Nat) : Int)) ∧ Below w.heap.size w w' := by
  have hg := h.g; have hs := h.s
  rw [Int.natCast_mul]
  exact all_any _ _ _ _ _ _ (by omega) (by omega) w
theorem slots_nat {m b g s n l : Nat} (h : Bnd m b g s l) (w : World) : Calls Try.prog 22 #[sv m b g s n l] w fun e w' => e = .returned (.int .i64 ((m - 2 : Nat) : Int)) ∧ Below w.heap.size w w' := by
  have hm := h.m
  rw [show (((m - 2 : Nat)) : Int) = (m : Int) - 2 by omega]
  exact slots_any _ _ _ _ _ _ (by omega) w

/-- A byte. -/
def Byte (x : Int) : Prop := 0 ≤ x ∧ x ≤ 255
/-- Six small numbers, as the model holds them. -/
abbrev sm (x0 x1 x2 x3 x4 x5 : Int) : Value := .agg #[.int .u8 x0, .int .u8 x1, .int .u8 x2, .int .u8 x3, .int .u8 x4, .int .u8 x5]
/-- The shape of small numbers; with as many blocks as may be. -/
def Shaped (x : Value) (m b g s n l : Nat) : Prop := ∀ w, Calls Try.prog 19 #[x] w fun e w' => e = .returned (sv m b g s n l) ∧ Below w.heap.size w w'
def Filled (x : Value) (m b g s n l : Nat) : Prop := ∀ w, Calls Try.prog 8 #[x] w fun e w' => e = .returned (sv m b g s n l) ∧ Below w.heap.size w w'
structure Few (m b g s l : Nat) : Prop where
  m : 3 ≤ m ∧ m ≤ 5
  b : 32 ≤ b ∧ b ≤ 48
  g : 4 ≤ g ∧ g ≤ 6
  s : 2 ≤ s ∧ s ≤ 3
  l : 1 ≤ l ∧ l ≤ 18
theorem shape_nat (x0 x1 x2 x3 x4 x5 : Int) (h0 : Byte x0) (h1 : Byte x1) (h2 : Byte x2) (h3 : Byte x3) (h4 : Byte x4) (h5 : Byte x5) :
    ∃ m b g s n l : Nat, OkN m b g s n l ∧ Few m b g s l ∧ Shaped (sm x0 x1 x2 x3 x4 x5) m b g s n l := by
  obtain ⟨m, b, g, s, n, l, hS, hsh⟩ := shape_small x0 x1 x2 x3 x4 x5 h0 h1 h2 h3 h4 h5
  obtain ⟨hm, hb, hg, hs, hl, ok⟩ := hS
  have hn := ok.2.2.1.1
  obtain ⟨m', rfl⟩ := Int.eq_ofNat_of_zero_le (show 0 ≤ m by omega)
  obtain ⟨b', rfl⟩ := Int.eq_ofNat_of_zero_le (show 0 ≤ b by omega)
  obtain ⟨g', rfl⟩ := Int.eq_ofNat_of_zero_le (show 0 ≤ g by omega)
  obtain ⟨s', rfl⟩ := Int.eq_ofNat_of_zero_le (show 0 ≤ s by omega)
  obtain ⟨n', rfl⟩ := Int.eq_ofNat_of_zero_le (show 0 ≤ n by omega)
  obtain ⟨l', rfl⟩ := Int.eq_ofNat_of_zero_le (show 0 ≤ l by omega)
  exact ⟨m', b', g', s', n', l', ok, ⟨by omega, by omega, by omega, by omega, by omega⟩, hsh⟩
set_option maxHeartbeats 400000 in
theorem full_of (x0 x1 x2 x3 x4 x5 : Int) (m b g s n l L : Nat) (SH : Hid (Shaped (sm x0 x1 x2 x3 x4 x5) m b g s n l)) (hm : 3 ≤ m ∧ m ≤ 5) (hg : 4 ≤ g ∧ g ≤ 6) (hs : 2 ≤ s ∧ s ≤ 3) (h1 : 1 ≤ ((g : Int) - 3) * ((s : Int) - 1) ∧ ((g : Int) - 3) * ((s : Int) - 1) ≤ 6) (hL : ((g : Int) - 3) * ((s : Int) - 1) * ((m : Int) - 2) = (L : Int)) (h2 : L ≤ 18) : Filled (sm x0 x1 x2 x3 x4 x5) m b g s n L := by
  intro w
  unfold sm at *
  go_enter Try.func8, Try.ntmps8
  go_wp2_with fail
  refine (SH.out _).mono ?_
  rintro e w1 ⟨rfl, hb1⟩
  have B1 := Lib.hid (show Below w.heap.size w w1 from (((Below.refl _ _).alloc (Nat.le_refl _) _).alloc (by simp) _).trans (hb1.mono (by simp; omega)))
  have R1 := Lib.hid (show At w1 (w.heap.size + 1) #[.int .i64 0, .int .i64 0, .int .i64 0, .int .i64 0, .int .i64 0, .int .i64 0] 32 from (At.new _ _ (by simp)).below hb1 (by simp))
  clear hb1
  unfold sv
  go_wp2_with (refine wpList_store_part rfl 32 (.tmp 2) (.tmp 18) rfl (w.heap.size + 1) 0 32 #[.int .i64 0, .int .i64 0, .int .i64 0, .int .i64 0, .int .i64 0, .int .i64 0] #[.int .i64 (m : Int), .int .i64 (b : Int), .int .i64 (g : Int), .int .i64 (s : Int), .int .i64 (n : Int), .int .i64 (L : Int)] rfl rfl (R1.out.alloc _) info32 (by simp) (by simp [Value.oneCell']) ?_; intro w4 hat4 hb4; have R := Lib.hid (show At w4 (w.heap.size + 1) #[.int .i64 (m : Int), .int .i64 (b : Int), .int .i64 (g : Int), .int .i64 (s : Int), .int .i64 (n : Int), .int .i64 (L : Int)] 32 from hat4); have BB := Lib.hid hb4; clear hat4 hb4)
  refine bodyPost_ret (results_cell_row (p := 2) (ty := 32) rfl _ _ (w.heap.size + 1) 32 #[.int .i64 (m : Int), .int .i64 (b : Int), .int .i64 (g : Int), .int .i64 (s : Int), .int .i64 (n : Int), .int .i64 (L : Int)] (0, 0) _ rfl R.out Try.underlying32 rfl info32) rfl ?_
  exact ⟨rfl, (B1.out.alloc B1.out.size _).trans (BB.out.below (fun k e => by omega) (by have := B1.out.size; simp; omega))⟩
theorem full_nat (x0 x1 x2 x3 x4 x5 : Int) (h0 : Byte x0) (h1 : Byte x1) (h2 : Byte x2) (h3 : Byte x3) (h4 : Byte x4) (h5 : Byte x5) :
    ∃ m b g s n l : Nat, OkN m b g s n l ∧ Few m b g s l ∧ Filled (sm x0 x1 x2 x3 x4 x5) m b g s n l := by
  obtain ⟨m, b, g, s, n, l, ok, fw, sh⟩ := shape_nat x0 x1 x2 x3 x4 x5 h0 h1 h2 h3 h4 h5
  obtain ⟨hm, hb, hg, hs, hl⟩ := fw
  have hgs : 1 ≤ ((g : Int) - 3) * ((s : Int) - 1) ∧ ((g : Int) - 3) * ((s : Int) - 1) ≤ 6 := by
    rcases (show s = 2 ∨ s = 3 by omega) with e | e <;> rw [e] <;> omega
  have bL : 1 ≤ ((g : Int) - 3) * ((s : Int) - 1) * ((m : Int) - 2) ∧ ((g : Int) - 3) * ((s : Int) - 1) * ((m : Int) - 2) ≤ 18 := by
    rcases (show m = 3 ∨ m = 4 ∨ m = 5 by omega) with e | e | e <;> rw [e] <;> omega
  obtain ⟨L, hL⟩ := Int.eq_ofNat_of_zero_le (show 0 ≤ ((g : Int) - 3) * ((s : Int) - 1) * ((m : Int) - 2) by omega)
  refine ⟨m, b, g, s, n, L, ⟨ok.1, ok.2.1, ok.2.2.1, ⟨by omega, by rw [hL]; exact Int.le_refl _⟩⟩, ⟨hm, hb, hg, hs, by omega⟩, full_of x0 x1 x2 x3 x4 x5 m b g s n l L sh hm hg hs hgs hL (by omega)⟩
end Go.Proofs.Ytlmponcoghfghaa
