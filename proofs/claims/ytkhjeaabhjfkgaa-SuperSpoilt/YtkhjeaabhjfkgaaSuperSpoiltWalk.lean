/-
  THE WALK OF SuperSpoilt: a label's sector with a byte turned, sealed anew or not, cut or not.
-/
import Derived.Test.YtkhjeaabhjfkgaaTells
import Derived.Test.YtkhjeaabhjfkgaaReadsAny
namespace Go.Proofs.Ytkhjeaabhjfkgaa
open Go.RowKit
set_option linter.unusedVariables false
set_option maxRecDepth 100000

/-- A row of the call's own: its block may be stored into. -/
theorem own_at {w : World} {base G n cap : Nat} {xs : List Value} (h : w.ownsRow base 5 1 (.slice (some ⟨G, 0, none⟩) n cap) n xs) : ∃ cur, At w G cur 5 := by
  rcases h.2 with ⟨e, _⟩ | ⟨g', cap', cur, e, _, hh, _⟩
  · cases e
  · injection e with e1 _ e2
    injection e1 with e1
    injection e1 with e1
    subst e1
    exact ⟨cur, hh⟩
theorem has_set {w : World} {G n : Nat} {cur : Array Value} {L : List (BitVec 8)} (h : Has w (some ⟨G, 0, none⟩) n L) (ha : At w G cur 5) (K : Nat) (hK : K < n) (y : BitVec 8) :
    Has (w.setCell ⟨G, K, none⟩ (.int .u8 (y.toNat : Int))) (some ⟨G, 0, none⟩) n (L.set K y) := by
  have hl := h.1
  have hc : ∀ j (hj : j < L.length), cur[j]? = some (val L[j]) := by
    intro j hj
    have h1 := h.cell j (by omega)
    rw [Nat.zero_add, ha.cell] at h1
    exact h1
  refine Has.of_block (ha.set K _) (by rw [List.length_set]; exact hl) fun j hj => ?_
  rw [List.length_set] at hj
  rw [Array.getElem?_setIfInBounds]
  by_cases e : K = j
  · subst e
    have hs : K < cur.size := by
      have := hc K hj
      exact (Array.getElem?_eq_some_iff.1 this).1
    rw [if_pos rfl, if_pos hs, List.getElem_set_self]
    rfl
  · rw [if_neg e, List.getElem_set_ne e]
    exact hc j hj

set_option maxHeartbeats 1600000 in
theorem spoilt_even_bare_all (x0 x1 x2 x3 x4 x5 : Int) (p a K : Nat) (z : BitVec 8) (hp : p < 256) (ha : a < 256) (m b g s n l : Nat) (hK : K < b) (hpar : (((a : Nat) : Int) % 2 == 0) = true) (hKe : (a : Int) / 2 % 18 = (K : Int))  (ok : Hid (Ok (m : Int) b g s n l)) (hb5 : b ≤ 512) (hb3 : 32 ≤ b) (SHP : Hid (Shaped x0 x1 x2 x3 x4 x5 m b g s n l)) (w : World) :
    Calls Try.prog 5 #[.agg #[.int .u8 x0, .int .u8 x1, .int .u8 x2, .int .u8 x3, .int .u8 x4, .int .u8 x5], .int .u8 (p : Int), .int .u8 (a : Int), .int .u8 (z.toNat : Int), .bool false, .bool false] w fun e w' => e = .returned (.bool true) ∧ Below w.heap.size w w' := by
  have PR := Lib.hid hpar
  have KE := Lib.hid hKe
  clear hpar hKe
  have A := Lib.hid (At.new (w := w) (g := w.heap.size) #[.int .u8 x0, .int .u8 x1, .int .u8 x2, .int .u8 x3, .int .u8 x4, .int .u8 x5] 23 rfl)
  have BB := Lib.hid ((Below.refl w.heap.size w).alloc (Nat.le_refl _) (.cells #[.int .u8 x0, .int .u8 x1, .int .u8 x2, .int .u8 x3, .int .u8 x4, .int .u8 x5] 23))
  go_enter Try.func5, Try.ntmps5
  go_wp2_with fail
  refine (awake_any _).mono ?_
  rintro e w1 ⟨rfl, hb1⟩
  have A := Lib.hid (A.out.below hb1 A.out.lt)
  have BB := Lib.hid (BB.out.trans (hb1.mono BB.out.size))
  have c0 := A.out.cell 0; have c1 := A.out.cell 1; have c2 := A.out.cell 2; have c3 := A.out.cell 3; have c4 := A.out.cell 4; have c5 := A.out.cell 5
  clear hb1
  go_wp2_with fail
  refine (SHP.out _).mono ?_
  rintro e w2 ⟨rfl, hb2⟩
  have BB := Lib.hid (BB.out.trans (hb2.mono BB.out.size))
  clear hb2 c0 c1 c2 c3 c4 c5 A
  go_wp2_with fail
  rw [show (p : Int) % 6 = ((p % 6 : Nat) : Int) by omega]
  have OK := Lib.hid (show (Lab.mk m b g s n l (p % 6)).ok from ok.out)
  have FT := Lib.hid (Lab.ok_fits OK.out (show p % 6 < 256 by omega))
  refine (tells_any ⟨m, b, g, s, n, l, p % 6⟩ _ FT.out ⟨show 22 ≤ b by omega, hb5⟩).mono ?_
  rintro e w3 ⟨v3, rfl, hf3⟩
  obtain ⟨A3, cap, e3, hc1, hc2, hh3, hA3⟩ := Has.of_own (show w3.ownsRow _ 5 1 v3 b _ from hf3.1)
  subst e3
  obtain ⟨S3, rfl⟩ := some_of hh3 (by omega)
  obtain ⟨G, rfl, hG⟩ := hA3 _ rfl
  have GB := Lib.hid (Nat.le_trans BB.out.size hG)
  have BB := Lib.hid (BB.out.trans (hf3.2.mono BB.out.size))
  obtain ⟨cur, hcur⟩ := own_at (show w3.ownsRow _ 5 1 (.slice (some ⟨G, 0, none⟩) b cap) b _ from hf3.1)
  generalize sector ⟨m, b, g, s, n, l, p % 6⟩ = L at *
  have hKl : K < L.length := by rw [hh3.1]; exact hK
  have hcK : w3.cell? ⟨G, K, none⟩ = some (.int .u8 (L[K].toNat : Int)) := by have := hh3.cell K hK; rw [Nat.zero_add] at this; exact this
  have hfK : w3.frozen? ⟨G, K, none⟩ = false := hcur.frozen K
  have H := Lib.hid (has_set hh3 hcur K hK (L[K] ^^^ z))
  have BB := Lib.hid (BB.out.setCell (p := ⟨G, K, none⟩) GB.out (.int .u8 ((L[K] ^^^ z).toNat : Int)))
  have hcm : cap ≤ 9223372036854775807 := by unfold maxLen at hc2; omega
  have hzl := lt8 z
  have hxl := lt8 L[K]
  have hx8 := Lib.hid (xor8 L[K] z)
  clear hf3 hh3 hA3 hcur hG FT OK ok SHP hc2
  generalize L[K] = x at *
  have hKe := KE.out
  have hpar := PR.out
  go_wp2_with fail
  rw [hx8.out]
  clear hcK hfK hx8 hKe hpar hxl hzl KE PR hKl hK
  generalize w3.setCell ⟨G, K, none⟩ (.int .u8 ((x ^^^ z).toNat : Int)) = w4 at *
  generalize L.set K (x ^^^ z) = L4 at *
  obtain ⟨X, EC, hD⟩ : ∃ X EC, dec L4 = (X, EC) := ⟨_, _, rfl⟩
  obtain ⟨M0, M1, M2, M3, M4, M5, M6⟩ := X
  have HD := Lib.hid hD
  have heq := fun w => (show (binOp .eql 29 (.agg #[.int .i64 (M0 : Int), .int .i64 (M1 : Int), .int .i64 (M2 : Int), .int .i64 (M3 : Int), .int .i64 (M4 : Int), .int .i64 (M5 : Int), .int .i64 (M6 : Int)]) (.agg #[.int .i64 (M0 : Int), .int .i64 (M1 : Int), .int .i64 (M2 : Int), .int .i64 (M3 : Int), .int .i64 (M4 : Int), .int .i64 (M5 : Int), .int .i64 (M6 : Int)])).run Try.prog w = .ok (.bool true) w from lab_eql ⟨M0, M1, M2, M3, M4, M5, M6⟩ w)
  clear hD
  refine (decode_any (some ⟨G, 0, none⟩) b cap L4 w4 hc1 (by unfold maxLen; omega) (by omega) H.out).mono ?_
  rintro e wD ⟨rfl, hbD⟩
  rw [HD.out]
  simp only [Lab.cs]
  have H := Lib.hid (H.out.below hbD)
  have BB := Lib.hid (BB.out.trans (hbD.mono BB.out.size))
  clear hbD
  have H := Lib.hid (H.out.below ((Below.refl _ _).alloc (Nat.le_refl _) (.cells #[.int .i64 (M0 : Int), .int .i64 (M1 : Int), .int .i64 (M2 : Int), .int .i64 (M3 : Int), .int .i64 (M4 : Int), .int .i64 (M5 : Int), .int .i64 (M6 : Int)] 29)))
  have PX := Lib.hid (At.new (w := wD) (g := wD.heap.size) #[.int .i64 (M0 : Int), .int .i64 (M1 : Int), .int .i64 (M2 : Int), .int .i64 (M3 : Int), .int .i64 (M4 : Int), .int .i64 (M5 : Int), .int .i64 (M6 : Int)] 29 rfl)
  have BB := Lib.hid (BB.out.alloc BB.out.size (.cells #[.int .i64 (M0 : Int), .int .i64 (M1 : Int), .int .i64 (M2 : Int), .int .i64 (M3 : Int), .int .i64 (M4 : Int), .int .i64 (M5 : Int), .int .i64 (M6 : Int)] 29))
  go_wp2_with fail
  refine (reads_any (some ⟨G, 0, none⟩) b cap L4 _ hc1 (by unfold maxLen; omega) (by omega) H.out).mono ?_
  rintro e wE ⟨rfl, hbE⟩
  rw [HD.out]
  simp only [Lab.cs]
  have PX := Lib.hid (PX.out.below hbE PX.out.lt)
  have BB := Lib.hid (BB.out.trans (hbE.mono BB.out.size))
  clear hbE
  have PX := Lib.hid (PX.out.alloc (.cells #[.int .i64 (M0 : Int), .int .i64 (M1 : Int), .int .i64 (M2 : Int), .int .i64 (M3 : Int), .int .i64 (M4 : Int), .int .i64 (M5 : Int), .int .i64 (M6 : Int)] 29))
  have BB := Lib.hid (BB.out.alloc BB.out.size (.cells #[.int .i64 (M0 : Int), .int .i64 (M1 : Int), .int .i64 (M2 : Int), .int .i64 (M3 : Int), .int .i64 (M4 : Int), .int .i64 (M5 : Int), .int .i64 (M6 : Int)] 29))
  have c0 := PX.out.cell 0; have c1 := PX.out.cell 1; have c2 := PX.out.cell 2; have c3 := PX.out.cell 3; have c4 := PX.out.cell 4; have c5 := PX.out.cell 5; have c6 := PX.out.cell 6
  go_wp2
  go_ret
  exact ⟨by simp, BB.out⟩
set_option maxHeartbeats 1600000 in
theorem spoilt_even_bare_cut (x0 x1 x2 x3 x4 x5 : Int) (p a K : Nat) (z : BitVec 8) (hp : p < 256) (ha : a < 256) (m b g s n l : Nat) (hK : K < b) (hpar : (((a : Nat) : Int) % 2 == 0) = true) (hKe : (a : Int) / 2 % 18 = (K : Int))  (ok : Hid (Ok (m : Int) b g s n l)) (hb5 : b ≤ 512) (hb3 : 32 ≤ b) (SHP : Hid (Shaped x0 x1 x2 x3 x4 x5 m b g s n l)) (w : World) :
    Calls Try.prog 5 #[.agg #[.int .u8 x0, .int .u8 x1, .int .u8 x2, .int .u8 x3, .int .u8 x4, .int .u8 x5], .int .u8 (p : Int), .int .u8 (a : Int), .int .u8 (z.toNat : Int), .bool false, .bool true] w fun e w' => e = .returned (.bool true) ∧ Below w.heap.size w w' := by
  have PR := Lib.hid hpar
  have KE := Lib.hid hKe
  clear hpar hKe
  have A := Lib.hid (At.new (w := w) (g := w.heap.size) #[.int .u8 x0, .int .u8 x1, .int .u8 x2, .int .u8 x3, .int .u8 x4, .int .u8 x5] 23 rfl)
  have BB := Lib.hid ((Below.refl w.heap.size w).alloc (Nat.le_refl _) (.cells #[.int .u8 x0, .int .u8 x1, .int .u8 x2, .int .u8 x3, .int .u8 x4, .int .u8 x5] 23))
  go_enter Try.func5, Try.ntmps5
  go_wp2_with fail
  refine (awake_any _).mono ?_
  rintro e w1 ⟨rfl, hb1⟩
  have A := Lib.hid (A.out.below hb1 A.out.lt)
  have BB := Lib.hid (BB.out.trans (hb1.mono BB.out.size))
  have c0 := A.out.cell 0; have c1 := A.out.cell 1; have c2 := A.out.cell 2; have c3 := A.out.cell 3; have c4 := A.out.cell 4; have c5 := A.out.cell 5
  clear hb1
  go_wp2_with fail
  refine (SHP.out _).mono ?_
  rintro e w2 ⟨rfl, hb2⟩
  have BB := Lib.hid (BB.out.trans (hb2.mono BB.out.size))
  clear hb2 c0 c1 c2 c3 c4 c5 A
  go_wp2_with fail
  rw [show (p : Int) % 6 = ((p % 6 : Nat) : Int) by omega]
  have OK := Lib.hid (show (Lab.mk m b g s n l (p % 6)).ok from ok.out)
  have FT := Lib.hid (Lab.ok_fits OK.out (show p % 6 < 256 by omega))
  refine (tells_any ⟨m, b, g, s, n, l, p % 6⟩ _ FT.out ⟨show 22 ≤ b by omega, hb5⟩).mono ?_
  rintro e w3 ⟨v3, rfl, hf3⟩
  obtain ⟨A3, cap, e3, hc1, hc2, hh3, hA3⟩ := Has.of_own (show w3.ownsRow _ 5 1 v3 b _ from hf3.1)
  subst e3
  obtain ⟨S3, rfl⟩ := some_of hh3 (by omega)
  obtain ⟨G, rfl, hG⟩ := hA3 _ rfl
  have GB := Lib.hid (Nat.le_trans BB.out.size hG)
  have BB := Lib.hid (BB.out.trans (hf3.2.mono BB.out.size))
  obtain ⟨cur, hcur⟩ := own_at (show w3.ownsRow _ 5 1 (.slice (some ⟨G, 0, none⟩) b cap) b _ from hf3.1)
  generalize sector ⟨m, b, g, s, n, l, p % 6⟩ = L at *
  have hKl : K < L.length := by rw [hh3.1]; exact hK
  have hcK : w3.cell? ⟨G, K, none⟩ = some (.int .u8 (L[K].toNat : Int)) := by have := hh3.cell K hK; rw [Nat.zero_add] at this; exact this
  have hfK : w3.frozen? ⟨G, K, none⟩ = false := hcur.frozen K
  have H := Lib.hid (has_set hh3 hcur K hK (L[K] ^^^ z))
  have BB := Lib.hid (BB.out.setCell (p := ⟨G, K, none⟩) GB.out (.int .u8 ((L[K] ^^^ z).toNat : Int)))
  have hcm : cap ≤ 9223372036854775807 := by unfold maxLen at hc2; omega
  have hzl := lt8 z
  have hxl := lt8 L[K]
  have hx8 := Lib.hid (xor8 L[K] z)
  clear hf3 hh3 hA3 hcur hG FT OK ok SHP hc2
  generalize L[K] = x at *
  have hKe := KE.out
  have hpar := PR.out
  go_wp2_with fail
  rw [hx8.out]
  clear hcK hfK hx8 hKe hpar hxl hzl KE PR hKl hK
  generalize w3.setCell ⟨G, K, none⟩ (.int .u8 ((x ^^^ z).toNat : Int)) = w4 at *
  generalize L.set K (x ^^^ z) = L4 at *
  have H := Lib.hid (H.out.take (b - 1) (by omega))
  obtain ⟨X, EC, hD⟩ : ∃ X EC, dec (L4.take (b - 1)) = (X, EC) := ⟨_, _, rfl⟩
  obtain ⟨M0, M1, M2, M3, M4, M5, M6⟩ := X
  have HD := Lib.hid hD
  have heq := fun w => (show (binOp .eql 29 (.agg #[.int .i64 (M0 : Int), .int .i64 (M1 : Int), .int .i64 (M2 : Int), .int .i64 (M3 : Int), .int .i64 (M4 : Int), .int .i64 (M5 : Int), .int .i64 (M6 : Int)]) (.agg #[.int .i64 (M0 : Int), .int .i64 (M1 : Int), .int .i64 (M2 : Int), .int .i64 (M3 : Int), .int .i64 (M4 : Int), .int .i64 (M5 : Int), .int .i64 (M6 : Int)])).run Try.prog w = .ok (.bool true) w from lab_eql ⟨M0, M1, M2, M3, M4, M5, M6⟩ w)
  clear hD
  refine (decode_any (some ⟨G, 0, none⟩) (b - 1) cap (L4.take (b - 1)) w4 (by omega) (by unfold maxLen; omega) (by omega) H.out).mono ?_
  rintro e wD ⟨rfl, hbD⟩
  rw [HD.out]
  simp only [Lab.cs]
  have H := Lib.hid (H.out.below hbD)
  have BB := Lib.hid (BB.out.trans (hbD.mono BB.out.size))
  clear hbD
  have H := Lib.hid (H.out.below ((Below.refl _ _).alloc (Nat.le_refl _) (.cells #[.int .i64 (M0 : Int), .int .i64 (M1 : Int), .int .i64 (M2 : Int), .int .i64 (M3 : Int), .int .i64 (M4 : Int), .int .i64 (M5 : Int), .int .i64 (M6 : Int)] 29)))
  have PX := Lib.hid (At.new (w := wD) (g := wD.heap.size) #[.int .i64 (M0 : Int), .int .i64 (M1 : Int), .int .i64 (M2 : Int), .int .i64 (M3 : Int), .int .i64 (M4 : Int), .int .i64 (M5 : Int), .int .i64 (M6 : Int)] 29 rfl)
  have BB := Lib.hid (BB.out.alloc BB.out.size (.cells #[.int .i64 (M0 : Int), .int .i64 (M1 : Int), .int .i64 (M2 : Int), .int .i64 (M3 : Int), .int .i64 (M4 : Int), .int .i64 (M5 : Int), .int .i64 (M6 : Int)] 29))
  go_wp2_with fail
  refine (reads_any (some ⟨G, 0, none⟩) (b - 1) cap (L4.take (b - 1)) _ (by omega) (by unfold maxLen; omega) (by omega) H.out).mono ?_
  rintro e wE ⟨rfl, hbE⟩
  rw [HD.out]
  simp only [Lab.cs]
  have PX := Lib.hid (PX.out.below hbE PX.out.lt)
  have BB := Lib.hid (BB.out.trans (hbE.mono BB.out.size))
  clear hbE
  have PX := Lib.hid (PX.out.alloc (.cells #[.int .i64 (M0 : Int), .int .i64 (M1 : Int), .int .i64 (M2 : Int), .int .i64 (M3 : Int), .int .i64 (M4 : Int), .int .i64 (M5 : Int), .int .i64 (M6 : Int)] 29))
  have BB := Lib.hid (BB.out.alloc BB.out.size (.cells #[.int .i64 (M0 : Int), .int .i64 (M1 : Int), .int .i64 (M2 : Int), .int .i64 (M3 : Int), .int .i64 (M4 : Int), .int .i64 (M5 : Int), .int .i64 (M6 : Int)] 29))
  have c0 := PX.out.cell 0; have c1 := PX.out.cell 1; have c2 := PX.out.cell 2; have c3 := PX.out.cell 3; have c4 := PX.out.cell 4; have c5 := PX.out.cell 5; have c6 := PX.out.cell 6
  go_wp2
  go_ret
  exact ⟨by simp, BB.out⟩
set_option maxHeartbeats 1600000 in
theorem spoilt_even_seal_all (x0 x1 x2 x3 x4 x5 : Int) (p a K : Nat) (z : BitVec 8) (hp : p < 256) (ha : a < 256) (m b g s n l : Nat) (hK : K < b) (hpar : (((a : Nat) : Int) % 2 == 0) = true) (hKe : (a : Int) / 2 % 18 = (K : Int))  (ok : Hid (Ok (m : Int) b g s n l)) (hb5 : b ≤ 512) (hb3 : 32 ≤ b) (SHP : Hid (Shaped x0 x1 x2 x3 x4 x5 m b g s n l)) (w : World) :
    Calls Try.prog 5 #[.agg #[.int .u8 x0, .int .u8 x1, .int .u8 x2, .int .u8 x3, .int .u8 x4, .int .u8 x5], .int .u8 (p : Int), .int .u8 (a : Int), .int .u8 (z.toNat : Int), .bool true, .bool false] w fun e w' => e = .returned (.bool true) ∧ Below w.heap.size w w' := by
  have PR := Lib.hid hpar
  have KE := Lib.hid hKe
  clear hpar hKe
  have A := Lib.hid (At.new (w := w) (g := w.heap.size) #[.int .u8 x0, .int .u8 x1, .int .u8 x2, .int .u8 x3, .int .u8 x4, .int .u8 x5] 23 rfl)
  have BB := Lib.hid ((Below.refl w.heap.size w).alloc (Nat.le_refl _) (.cells #[.int .u8 x0, .int .u8 x1, .int .u8 x2, .int .u8 x3, .int .u8 x4, .int .u8 x5] 23))
  go_enter Try.func5, Try.ntmps5
  go_wp2_with fail
  refine (awake_any _).mono ?_
  rintro e w1 ⟨rfl, hb1⟩
  have A := Lib.hid (A.out.below hb1 A.out.lt)
  have BB := Lib.hid (BB.out.trans (hb1.mono BB.out.size))
  have c0 := A.out.cell 0; have c1 := A.out.cell 1; have c2 := A.out.cell 2; have c3 := A.out.cell 3; have c4 := A.out.cell 4; have c5 := A.out.cell 5
  clear hb1
  go_wp2_with fail
  refine (SHP.out _).mono ?_
  rintro e w2 ⟨rfl, hb2⟩
  have BB := Lib.hid (BB.out.trans (hb2.mono BB.out.size))
  clear hb2 c0 c1 c2 c3 c4 c5 A
  go_wp2_with fail
  rw [show (p : Int) % 6 = ((p % 6 : Nat) : Int) by omega]
  have OK := Lib.hid (show (Lab.mk m b g s n l (p % 6)).ok from ok.out)
  have FT := Lib.hid (Lab.ok_fits OK.out (show p % 6 < 256 by omega))
  refine (tells_any ⟨m, b, g, s, n, l, p % 6⟩ _ FT.out ⟨show 22 ≤ b by omega, hb5⟩).mono ?_
  rintro e w3 ⟨v3, rfl, hf3⟩
  obtain ⟨A3, cap, e3, hc1, hc2, hh3, hA3⟩ := Has.of_own (show w3.ownsRow _ 5 1 v3 b _ from hf3.1)
  subst e3
  obtain ⟨S3, rfl⟩ := some_of hh3 (by omega)
  obtain ⟨G, rfl, hG⟩ := hA3 _ rfl
  have GB := Lib.hid (Nat.le_trans BB.out.size hG)
  have BB := Lib.hid (BB.out.trans (hf3.2.mono BB.out.size))
  obtain ⟨cur, hcur⟩ := own_at (show w3.ownsRow _ 5 1 (.slice (some ⟨G, 0, none⟩) b cap) b _ from hf3.1)
  generalize sector ⟨m, b, g, s, n, l, p % 6⟩ = L at *
  have hKl : K < L.length := by rw [hh3.1]; exact hK
  have hcK : w3.cell? ⟨G, K, none⟩ = some (.int .u8 (L[K].toNat : Int)) := by have := hh3.cell K hK; rw [Nat.zero_add] at this; exact this
  have hfK : w3.frozen? ⟨G, K, none⟩ = false := hcur.frozen K
  have H := Lib.hid (has_set hh3 hcur K hK (L[K] ^^^ z))
  have BB := Lib.hid (BB.out.setCell (p := ⟨G, K, none⟩) GB.out (.int .u8 ((L[K] ^^^ z).toNat : Int)))
  have hcm : cap ≤ 9223372036854775807 := by unfold maxLen at hc2; omega
  have hzl := lt8 z
  have hxl := lt8 L[K]
  have hx8 := Lib.hid (xor8 L[K] z)
  clear hf3 hh3 hA3 hcur hG FT OK ok SHP hc2
  generalize L[K] = x at *
  have hKe := KE.out
  have hpar := PR.out
  go_wp2_with fail
  rw [hx8.out]
  clear hcK hfK hx8 hKe hpar hxl hzl KE PR hKl hK
  generalize w3.setCell ⟨G, K, none⟩ (.int .u8 ((x ^^^ z).toNat : Int)) = w4 at *
  generalize L.set K (x ^^^ z) = L4 at *
  obtain ⟨o2, ho2⟩ : ∃ o2, (cap = 22 ∧ o2 = 0) ∨ (cap ≠ 22 ∧ o2 = 22) := by
    by_cases e : cap = 22
    · exact ⟨_, .inl ⟨e, rfl⟩⟩
    · exact ⟨_, .inr ⟨e, rfl⟩⟩
  obtain ⟨uS, huS⟩ : ∃ u, u = w4.drew := ⟨_, rfl⟩
  have H := Lib.hid (show Has uS (some ⟨G, 0, none⟩) b L4 by rw [huS]; exact H.out.drewN 1)
  have BB := Lib.hid (show Below w.heap.size w uS by rw [huS]; exact below_drewN BB.out 1)
  have D2 := Lib.hid (show Has uS (some ⟨G, o2, none⟩) (b - 22) (L4.drop 22) by
    rcases ho2 with ⟨e, rfl⟩ | ⟨e, rfl⟩
    · have hn0 : b - 22 = 0 := by omega
      rw [hn0, List.drop_eq_nil_of_le (by rw [H.out.1]; omega)]
      exact Has.nil _ _
    · exact H.out.drop 22 (by omega))
  refine wp_region_early (fun _ => True) (fun _ => true) (by kernel_rfl) ?_
  change wpEarly _ _ _ _ _ _ 7 (Array.replicate 7 false) _ w4.drew
  rw [← huS]
  clear huS
  refine early_take (i := 0) 48 (.slice (some ⟨G, 0, none⟩) b cap) rfl rfl (by kernel_rfl) (by kernel_rfl) (by kernel_rfl) (by kernel_rfl) rfl (fun _ _ _ h => h) (fun w' hw' => by go_simp) trivial ?_
  simp only [Act.put, List.setIfInBounds_toArray, List.set_cons_zero, List.set_cons_succ]
  refine early_take (i := 1) 49 (.slice (some ⟨G, 0, none⟩) 18 cap) rfl rfl (by kernel_rfl) (by kernel_rfl) (by kernel_rfl) (by kernel_rfl) rfl (fun _ _ _ h => h) (fun w' hw' => by go_simp; intro h; exfalso; omega) trivial ?_
  simp only [Act.put, List.setIfInBounds_toArray, List.set_cons_zero, List.set_cons_succ]
  refine early_take (i := 3) 51 (.slice (some ⟨G, 0, none⟩) b cap) rfl rfl (by kernel_rfl) (by kernel_rfl) (by kernel_rfl) (by kernel_rfl) rfl (fun _ _ _ h => h) (fun w' hw' => by go_simp) trivial ?_
  simp only [Act.put, List.setIfInBounds_toArray, List.set_cons_zero, List.set_cons_succ]
  refine early_take (i := 4) 52 (.slice (some ⟨G, o2, none⟩) (b - 22) (cap - 22)) rfl rfl (by kernel_rfl) (by kernel_rfl) (by kernel_rfl) (by kernel_rfl) rfl (fun _ _ _ h => h) (fun w' hw' => by rcases ho2 with ⟨e, rfl⟩ | ⟨e, rfl⟩ <;> go_simp <;> first | omega | (intro h; exfalso; omega) | (simp_all; done) | (simp [e]; omega)) trivial ?_
  simp only [Act.put, List.setIfInBounds_toArray, List.set_cons_zero, List.set_cons_succ]
  refine early_only (i := 2) (by kernel_rfl) rfl (fun K hK => ?_)
  simp only [opWp, List.getElem?_toArray, List.getElem?_cons_succ, List.getElem?_cons_zero]
  go_simp
  go_at_call 13
  refine (sealed_any _ 18 cap (L4.take 18) uS (by omega) (H.out.take 18 (by omega))).mono ?_
  rintro e uT ⟨vT, rfl, hfT⟩
  have HO := Lib.hid hfT.1
  have BL := Lib.hid hfT.2
  have D2 := Lib.hid (D2.out.below hfT.2)
  clear hfT
  refine hK _ _ (fun _ => trivial) ?_
  refine early_only (i := 5) (by kernel_rfl) rfl (fun K hK => ?_)
  simp only [opWp, List.getElem?_toArray, List.getElem?_cons_succ, List.getElem?_cons_zero]
  refine wp_append_has (.tmp 50) (.tmp 52) rfl uS.heap.size vT 22 (sealL (L4.take 18)) rfl HO.out ⟨G, o2, none⟩ (b - 22) (cap - 22) (L4.drop 22) rfl D2.out (by omega) BL.out.size ?_
  intro A8 c8 w8 hown hgr
  have BB := Lib.hid ((BB.out.trans (BL.out.mono BB.out.size)).grown hgr (Nat.le_trans BB.out.size BL.out.size) (fun k hk => Nat.le_trans BB.out.size (HO.out.lt k hk).1))
  obtain ⟨A', c', e', hcU1, hcU2, hhU, _⟩ := Has.of_own hown
  injection e' with e1 e2 e3
  subst e1 e3
  have H := Lib.hid hhU
  have CU := Lib.hid (And.intro hcU1 hcU2)
  clear hown hgr hcU1 hcU2 hhU HO BL D2 e2
  refine hK _ _ (fun _ => trivial) ?_
  simp only [Act.put, List.setIfInBounds_toArray, List.set_cons_zero, List.set_cons_succ]
  refine early_take (i := 6) 13 (.slice A8 (22 + (b - 22)) c8) rfl rfl (by kernel_rfl) (by kernel_rfl) (by kernel_rfl) (by kernel_rfl) rfl (fun _ _ _ h => h) (fun w' hw' => by go_simp) trivial ?_
  simp only [Act.put, List.setIfInBounds_toArray, List.set_cons_zero, List.set_cons_succ]
  refine early_done (by kernel_rfl) ?_
  generalize sealL (L4.take 18) ++ L4.drop 22 = L8 at *
  have NB := Lib.hid (show 22 + (b - 22) = b by omega)
  generalize 22 + (b - 22) = N8 at *
  have hN8 : N8 ≤ 600 := by have := NB.out; omega
  have hL8 : 22 ≤ N8 := by have := NB.out; omega
  have HN8 : N8 = b := NB.out
  clear ho2 NB HN8
  obtain ⟨X, EC, hD⟩ : ∃ X EC, dec L8 = (X, EC) := ⟨_, _, rfl⟩
  obtain ⟨M0, M1, M2, M3, M4, M5, M6⟩ := X
  have HD := Lib.hid hD
  have heq := fun w => (show (binOp .eql 29 (.agg #[.int .i64 (M0 : Int), .int .i64 (M1 : Int), .int .i64 (M2 : Int), .int .i64 (M3 : Int), .int .i64 (M4 : Int), .int .i64 (M5 : Int), .int .i64 (M6 : Int)]) (.agg #[.int .i64 (M0 : Int), .int .i64 (M1 : Int), .int .i64 (M2 : Int), .int .i64 (M3 : Int), .int .i64 (M4 : Int), .int .i64 (M5 : Int), .int .i64 (M6 : Int)])).run Try.prog w = .ok (.bool true) w from lab_eql ⟨M0, M1, M2, M3, M4, M5, M6⟩ w)
  clear hD
  go_wp2_with fail
  refine (decode_any A8 N8 c8 L8 w8 CU.out.1 CU.out.2 (by omega) H.out).mono ?_
  rintro e wD ⟨rfl, hbD⟩
  rw [HD.out]
  simp only [Lab.cs]
  have H := Lib.hid (H.out.below hbD)
  have BB := Lib.hid (BB.out.trans (hbD.mono BB.out.size))
  clear hbD
  have H := Lib.hid (H.out.below ((Below.refl _ _).alloc (Nat.le_refl _) (.cells #[.int .i64 (M0 : Int), .int .i64 (M1 : Int), .int .i64 (M2 : Int), .int .i64 (M3 : Int), .int .i64 (M4 : Int), .int .i64 (M5 : Int), .int .i64 (M6 : Int)] 29)))
  have PX := Lib.hid (At.new (w := wD) (g := wD.heap.size) #[.int .i64 (M0 : Int), .int .i64 (M1 : Int), .int .i64 (M2 : Int), .int .i64 (M3 : Int), .int .i64 (M4 : Int), .int .i64 (M5 : Int), .int .i64 (M6 : Int)] 29 rfl)
  have BB := Lib.hid (BB.out.alloc BB.out.size (.cells #[.int .i64 (M0 : Int), .int .i64 (M1 : Int), .int .i64 (M2 : Int), .int .i64 (M3 : Int), .int .i64 (M4 : Int), .int .i64 (M5 : Int), .int .i64 (M6 : Int)] 29))
  go_wp2_with fail
  refine (reads_any A8 N8 c8 L8 _ CU.out.1 CU.out.2 (by omega) H.out).mono ?_
  rintro e wE ⟨rfl, hbE⟩
  rw [HD.out]
  simp only [Lab.cs]
  have PX := Lib.hid (PX.out.below hbE PX.out.lt)
  have BB := Lib.hid (BB.out.trans (hbE.mono BB.out.size))
  clear hbE
  have PX := Lib.hid (PX.out.alloc (.cells #[.int .i64 (M0 : Int), .int .i64 (M1 : Int), .int .i64 (M2 : Int), .int .i64 (M3 : Int), .int .i64 (M4 : Int), .int .i64 (M5 : Int), .int .i64 (M6 : Int)] 29))
  have BB := Lib.hid (BB.out.alloc BB.out.size (.cells #[.int .i64 (M0 : Int), .int .i64 (M1 : Int), .int .i64 (M2 : Int), .int .i64 (M3 : Int), .int .i64 (M4 : Int), .int .i64 (M5 : Int), .int .i64 (M6 : Int)] 29))
  have c0 := PX.out.cell 0; have c1 := PX.out.cell 1; have c2 := PX.out.cell 2; have c3 := PX.out.cell 3; have c4 := PX.out.cell 4; have c5 := PX.out.cell 5; have c6 := PX.out.cell 6
  go_wp2
  go_ret
  exact ⟨by simp, BB.out⟩
set_option maxHeartbeats 1600000 in
theorem spoilt_even_seal_cut (x0 x1 x2 x3 x4 x5 : Int) (p a K : Nat) (z : BitVec 8) (hp : p < 256) (ha : a < 256) (m b g s n l : Nat) (hK : K < b) (hpar : (((a : Nat) : Int) % 2 == 0) = true) (hKe : (a : Int) / 2 % 18 = (K : Int))  (ok : Hid (Ok (m : Int) b g s n l)) (hb5 : b ≤ 512) (hb3 : 32 ≤ b) (SHP : Hid (Shaped x0 x1 x2 x3 x4 x5 m b g s n l)) (w : World) :
    Calls Try.prog 5 #[.agg #[.int .u8 x0, .int .u8 x1, .int .u8 x2, .int .u8 x3, .int .u8 x4, .int .u8 x5], .int .u8 (p : Int), .int .u8 (a : Int), .int .u8 (z.toNat : Int), .bool true, .bool true] w fun e w' => e = .returned (.bool true) ∧ Below w.heap.size w w' := by
  have PR := Lib.hid hpar
  have KE := Lib.hid hKe
  clear hpar hKe
  have A := Lib.hid (At.new (w := w) (g := w.heap.size) #[.int .u8 x0, .int .u8 x1, .int .u8 x2, .int .u8 x3, .int .u8 x4, .int .u8 x5] 23 rfl)
  have BB := Lib.hid ((Below.refl w.heap.size w).alloc (Nat.le_refl _) (.cells #[.int .u8 x0, .int .u8 x1, .int .u8 x2, .int .u8 x3, .int .u8 x4, .int .u8 x5] 23))
  go_enter Try.func5, Try.ntmps5
  go_wp2_with fail
  refine (awake_any _).mono ?_
  rintro e w1 ⟨rfl, hb1⟩
  have A := Lib.hid (A.out.below hb1 A.out.lt)
  have BB := Lib.hid (BB.out.trans (hb1.mono BB.out.size))
  have c0 := A.out.cell 0; have c1 := A.out.cell 1; have c2 := A.out.cell 2; have c3 := A.out.cell 3; have c4 := A.out.cell 4; have c5 := A.out.cell 5
  clear hb1
  go_wp2_with fail
  refine (SHP.out _).mono ?_
  rintro e w2 ⟨rfl, hb2⟩
  have BB := Lib.hid (BB.out.trans (hb2.mono BB.out.size))
  clear hb2 c0 c1 c2 c3 c4 c5 A
  go_wp2_with fail
  rw [show (p : Int) % 6 = ((p % 6 : Nat) : Int) by omega]
  have OK := Lib.hid (show (Lab.mk m b g s n l (p % 6)).ok from ok.out)
  have FT := Lib.hid (Lab.ok_fits OK.out (show p % 6 < 256 by omega))
  refine (tells_any ⟨m, b, g, s, n, l, p % 6⟩ _ FT.out ⟨show 22 ≤ b by omega, hb5⟩).mono ?_
  rintro e w3 ⟨v3, rfl, hf3⟩
  obtain ⟨A3, cap, e3, hc1, hc2, hh3, hA3⟩ := Has.of_own (show w3.ownsRow _ 5 1 v3 b _ from hf3.1)
  subst e3
  obtain ⟨S3, rfl⟩ := some_of hh3 (by omega)
  obtain ⟨G, rfl, hG⟩ := hA3 _ rfl
  have GB := Lib.hid (Nat.le_trans BB.out.size hG)
  have BB := Lib.hid (BB.out.trans (hf3.2.mono BB.out.size))
  obtain ⟨cur, hcur⟩ := own_at (show w3.ownsRow _ 5 1 (.slice (some ⟨G, 0, none⟩) b cap) b _ from hf3.1)
  generalize sector ⟨m, b, g, s, n, l, p % 6⟩ = L at *
  have hKl : K < L.length := by rw [hh3.1]; exact hK
  have hcK : w3.cell? ⟨G, K, none⟩ = some (.int .u8 (L[K].toNat : Int)) := by have := hh3.cell K hK; rw [Nat.zero_add] at this; exact this
  have hfK : w3.frozen? ⟨G, K, none⟩ = false := hcur.frozen K
  have H := Lib.hid (has_set hh3 hcur K hK (L[K] ^^^ z))
  have BB := Lib.hid (BB.out.setCell (p := ⟨G, K, none⟩) GB.out (.int .u8 ((L[K] ^^^ z).toNat : Int)))
  have hcm : cap ≤ 9223372036854775807 := by unfold maxLen at hc2; omega
  have hzl := lt8 z
  have hxl := lt8 L[K]
  have hx8 := Lib.hid (xor8 L[K] z)
  clear hf3 hh3 hA3 hcur hG FT OK ok SHP hc2
  generalize L[K] = x at *
  have hKe := KE.out
  have hpar := PR.out
  go_wp2_with fail
  rw [hx8.out]
  clear hcK hfK hx8 hKe hpar hxl hzl KE PR hKl hK
  generalize w3.setCell ⟨G, K, none⟩ (.int .u8 ((x ^^^ z).toNat : Int)) = w4 at *
  generalize L.set K (x ^^^ z) = L4 at *
  obtain ⟨o2, ho2⟩ : ∃ o2, (cap = 22 ∧ o2 = 0) ∨ (cap ≠ 22 ∧ o2 = 22) := by
    by_cases e : cap = 22
    · exact ⟨_, .inl ⟨e, rfl⟩⟩
    · exact ⟨_, .inr ⟨e, rfl⟩⟩
  obtain ⟨uS, huS⟩ : ∃ u, u = w4.drew := ⟨_, rfl⟩
  have H := Lib.hid (show Has uS (some ⟨G, 0, none⟩) b L4 by rw [huS]; exact H.out.drewN 1)
  have BB := Lib.hid (show Below w.heap.size w uS by rw [huS]; exact below_drewN BB.out 1)
  have D2 := Lib.hid (show Has uS (some ⟨G, o2, none⟩) (b - 22) (L4.drop 22) by
    rcases ho2 with ⟨e, rfl⟩ | ⟨e, rfl⟩
    · have hn0 : b - 22 = 0 := by omega
      rw [hn0, List.drop_eq_nil_of_le (by rw [H.out.1]; omega)]
      exact Has.nil _ _
    · exact H.out.drop 22 (by omega))
  refine wp_region_early (fun _ => True) (fun _ => true) (by kernel_rfl) ?_
  change wpEarly _ _ _ _ _ _ 7 (Array.replicate 7 false) _ w4.drew
  rw [← huS]
  clear huS
  refine early_take (i := 0) 48 (.slice (some ⟨G, 0, none⟩) b cap) rfl rfl (by kernel_rfl) (by kernel_rfl) (by kernel_rfl) (by kernel_rfl) rfl (fun _ _ _ h => h) (fun w' hw' => by go_simp) trivial ?_
  simp only [Act.put, List.setIfInBounds_toArray, List.set_cons_zero, List.set_cons_succ]
  refine early_take (i := 1) 49 (.slice (some ⟨G, 0, none⟩) 18 cap) rfl rfl (by kernel_rfl) (by kernel_rfl) (by kernel_rfl) (by kernel_rfl) rfl (fun _ _ _ h => h) (fun w' hw' => by go_simp; intro h; exfalso; omega) trivial ?_
  simp only [Act.put, List.setIfInBounds_toArray, List.set_cons_zero, List.set_cons_succ]
  refine early_take (i := 3) 51 (.slice (some ⟨G, 0, none⟩) b cap) rfl rfl (by kernel_rfl) (by kernel_rfl) (by kernel_rfl) (by kernel_rfl) rfl (fun _ _ _ h => h) (fun w' hw' => by go_simp) trivial ?_
  simp only [Act.put, List.setIfInBounds_toArray, List.set_cons_zero, List.set_cons_succ]
  refine early_take (i := 4) 52 (.slice (some ⟨G, o2, none⟩) (b - 22) (cap - 22)) rfl rfl (by kernel_rfl) (by kernel_rfl) (by kernel_rfl) (by kernel_rfl) rfl (fun _ _ _ h => h) (fun w' hw' => by rcases ho2 with ⟨e, rfl⟩ | ⟨e, rfl⟩ <;> go_simp <;> first | omega | (intro h; exfalso; omega) | (simp_all; done) | (simp [e]; omega)) trivial ?_
  simp only [Act.put, List.setIfInBounds_toArray, List.set_cons_zero, List.set_cons_succ]
  refine early_only (i := 2) (by kernel_rfl) rfl (fun K hK => ?_)
  simp only [opWp, List.getElem?_toArray, List.getElem?_cons_succ, List.getElem?_cons_zero]
  go_simp
  go_at_call 13
  refine (sealed_any _ 18 cap (L4.take 18) uS (by omega) (H.out.take 18 (by omega))).mono ?_
  rintro e uT ⟨vT, rfl, hfT⟩
  have HO := Lib.hid hfT.1
  have BL := Lib.hid hfT.2
  have D2 := Lib.hid (D2.out.below hfT.2)
  clear hfT
  refine hK _ _ (fun _ => trivial) ?_
  refine early_only (i := 5) (by kernel_rfl) rfl (fun K hK => ?_)
  simp only [opWp, List.getElem?_toArray, List.getElem?_cons_succ, List.getElem?_cons_zero]
  refine wp_append_has (.tmp 50) (.tmp 52) rfl uS.heap.size vT 22 (sealL (L4.take 18)) rfl HO.out ⟨G, o2, none⟩ (b - 22) (cap - 22) (L4.drop 22) rfl D2.out (by omega) BL.out.size ?_
  intro A8 c8 w8 hown hgr
  have BB := Lib.hid ((BB.out.trans (BL.out.mono BB.out.size)).grown hgr (Nat.le_trans BB.out.size BL.out.size) (fun k hk => Nat.le_trans BB.out.size (HO.out.lt k hk).1))
  obtain ⟨A', c', e', hcU1, hcU2, hhU, _⟩ := Has.of_own hown
  injection e' with e1 e2 e3
  subst e1 e3
  have H := Lib.hid hhU
  have CU := Lib.hid (And.intro hcU1 hcU2)
  clear hown hgr hcU1 hcU2 hhU HO BL D2 e2
  refine hK _ _ (fun _ => trivial) ?_
  simp only [Act.put, List.setIfInBounds_toArray, List.set_cons_zero, List.set_cons_succ]
  refine early_take (i := 6) 13 (.slice A8 (22 + (b - 22)) c8) rfl rfl (by kernel_rfl) (by kernel_rfl) (by kernel_rfl) (by kernel_rfl) rfl (fun _ _ _ h => h) (fun w' hw' => by go_simp) trivial ?_
  simp only [Act.put, List.setIfInBounds_toArray, List.set_cons_zero, List.set_cons_succ]
  refine early_done (by kernel_rfl) ?_
  generalize sealL (L4.take 18) ++ L4.drop 22 = L8 at *
  have NB := Lib.hid (show 22 + (b - 22) = b by omega)
  generalize 22 + (b - 22) = N8 at *
  have hN8 : N8 ≤ 600 := by have := NB.out; omega
  have hL8 : 22 ≤ N8 := by have := NB.out; omega
  have HN8 : N8 = b := NB.out
  clear ho2 NB HN8
  obtain ⟨b8, o8, rfl⟩ := H.out.some_ (by omega)
  have hcu1 : N8 ≤ c8 := CU.out.1
  have hcu2 : c8 ≤ 9223372036854775807 := by have := CU.out.2; unfold maxLen at this; omega
  have H := Lib.hid (H.out.take (N8 - 1) (by omega))
  obtain ⟨X, EC, hD⟩ : ∃ X EC, dec (L8.take (N8 - 1)) = (X, EC) := ⟨_, _, rfl⟩
  obtain ⟨M0, M1, M2, M3, M4, M5, M6⟩ := X
  have HD := Lib.hid hD
  have heq := fun w => (show (binOp .eql 29 (.agg #[.int .i64 (M0 : Int), .int .i64 (M1 : Int), .int .i64 (M2 : Int), .int .i64 (M3 : Int), .int .i64 (M4 : Int), .int .i64 (M5 : Int), .int .i64 (M6 : Int)]) (.agg #[.int .i64 (M0 : Int), .int .i64 (M1 : Int), .int .i64 (M2 : Int), .int .i64 (M3 : Int), .int .i64 (M4 : Int), .int .i64 (M5 : Int), .int .i64 (M6 : Int)])).run Try.prog w = .ok (.bool true) w from lab_eql ⟨M0, M1, M2, M3, M4, M5, M6⟩ w)
  clear hD
  go_wp2_with fail
  refine (decode_any (some ⟨b8, o8, none⟩) (N8 - 1) c8 (L8.take (N8 - 1)) w8 (by have := CU.out.1; omega) CU.out.2 (by omega) H.out).mono ?_
  rintro e wD ⟨rfl, hbD⟩
  rw [HD.out]
  simp only [Lab.cs]
  have H := Lib.hid (H.out.below hbD)
  have BB := Lib.hid (BB.out.trans (hbD.mono BB.out.size))
  clear hbD
  have H := Lib.hid (H.out.below ((Below.refl _ _).alloc (Nat.le_refl _) (.cells #[.int .i64 (M0 : Int), .int .i64 (M1 : Int), .int .i64 (M2 : Int), .int .i64 (M3 : Int), .int .i64 (M4 : Int), .int .i64 (M5 : Int), .int .i64 (M6 : Int)] 29)))
  have PX := Lib.hid (At.new (w := wD) (g := wD.heap.size) #[.int .i64 (M0 : Int), .int .i64 (M1 : Int), .int .i64 (M2 : Int), .int .i64 (M3 : Int), .int .i64 (M4 : Int), .int .i64 (M5 : Int), .int .i64 (M6 : Int)] 29 rfl)
  have BB := Lib.hid (BB.out.alloc BB.out.size (.cells #[.int .i64 (M0 : Int), .int .i64 (M1 : Int), .int .i64 (M2 : Int), .int .i64 (M3 : Int), .int .i64 (M4 : Int), .int .i64 (M5 : Int), .int .i64 (M6 : Int)] 29))
  go_wp2_with fail
  refine (reads_any (some ⟨b8, o8, none⟩) (N8 - 1) c8 (L8.take (N8 - 1)) _ (by have := CU.out.1; omega) CU.out.2 (by omega) H.out).mono ?_
  rintro e wE ⟨rfl, hbE⟩
  rw [HD.out]
  simp only [Lab.cs]
  have PX := Lib.hid (PX.out.below hbE PX.out.lt)
  have BB := Lib.hid (BB.out.trans (hbE.mono BB.out.size))
  clear hbE
  have PX := Lib.hid (PX.out.alloc (.cells #[.int .i64 (M0 : Int), .int .i64 (M1 : Int), .int .i64 (M2 : Int), .int .i64 (M3 : Int), .int .i64 (M4 : Int), .int .i64 (M5 : Int), .int .i64 (M6 : Int)] 29))
  have BB := Lib.hid (BB.out.alloc BB.out.size (.cells #[.int .i64 (M0 : Int), .int .i64 (M1 : Int), .int .i64 (M2 : Int), .int .i64 (M3 : Int), .int .i64 (M4 : Int), .int .i64 (M5 : Int), .int .i64 (M6 : Int)] 29))
  have c0 := PX.out.cell 0; have c1 := PX.out.cell 1; have c2 := PX.out.cell 2; have c3 := PX.out.cell 3; have c4 := PX.out.cell 4; have c5 := PX.out.cell 5; have c6 := PX.out.cell 6
  go_wp2
  go_ret
  exact ⟨by simp, BB.out⟩
set_option maxHeartbeats 1600000 in
theorem spoilt_odd_bare_all (x0 x1 x2 x3 x4 x5 : Int) (p a K : Nat) (z : BitVec 8) (hp : p < 256) (ha : a < 256) (m b g s n l : Nat) (hK : K < b) (hpar : (((a : Nat) : Int) % 2 == 0) = false) (hKe : (a : Int) % (b : Int) = (K : Int)) (ok : Hid (Ok (m : Int) b g s n l)) (hb5 : b ≤ 512) (hb3 : 32 ≤ b) (SHP : Hid (Shaped x0 x1 x2 x3 x4 x5 m b g s n l)) (w : World) :
    Calls Try.prog 5 #[.agg #[.int .u8 x0, .int .u8 x1, .int .u8 x2, .int .u8 x3, .int .u8 x4, .int .u8 x5], .int .u8 (p : Int), .int .u8 (a : Int), .int .u8 (z.toNat : Int), .bool false, .bool false] w fun e w' => e = .returned (.bool true) ∧ Below w.heap.size w w' := by
  have PR := Lib.hid hpar
  have KE := Lib.hid hKe
  clear hpar hKe
  have A := Lib.hid (At.new (w := w) (g := w.heap.size) #[.int .u8 x0, .int .u8 x1, .int .u8 x2, .int .u8 x3, .int .u8 x4, .int .u8 x5] 23 rfl)
  have BB := Lib.hid ((Below.refl w.heap.size w).alloc (Nat.le_refl _) (.cells #[.int .u8 x0, .int .u8 x1, .int .u8 x2, .int .u8 x3, .int .u8 x4, .int .u8 x5] 23))
  go_enter Try.func5, Try.ntmps5
  go_wp2_with fail
  refine (awake_any _).mono ?_
  rintro e w1 ⟨rfl, hb1⟩
  have A := Lib.hid (A.out.below hb1 A.out.lt)
  have BB := Lib.hid (BB.out.trans (hb1.mono BB.out.size))
  have c0 := A.out.cell 0; have c1 := A.out.cell 1; have c2 := A.out.cell 2; have c3 := A.out.cell 3; have c4 := A.out.cell 4; have c5 := A.out.cell 5
  clear hb1
  go_wp2_with fail
  refine (SHP.out _).mono ?_
  rintro e w2 ⟨rfl, hb2⟩
  have BB := Lib.hid (BB.out.trans (hb2.mono BB.out.size))
  clear hb2 c0 c1 c2 c3 c4 c5 A
  go_wp2_with fail
  rw [show (p : Int) % 6 = ((p % 6 : Nat) : Int) by omega]
  have OK := Lib.hid (show (Lab.mk m b g s n l (p % 6)).ok from ok.out)
  have FT := Lib.hid (Lab.ok_fits OK.out (show p % 6 < 256 by omega))
  refine (tells_any ⟨m, b, g, s, n, l, p % 6⟩ _ FT.out ⟨show 22 ≤ b by omega, hb5⟩).mono ?_
  rintro e w3 ⟨v3, rfl, hf3⟩
  obtain ⟨A3, cap, e3, hc1, hc2, hh3, hA3⟩ := Has.of_own (show w3.ownsRow _ 5 1 v3 b _ from hf3.1)
  subst e3
  obtain ⟨S3, rfl⟩ := some_of hh3 (by omega)
  obtain ⟨G, rfl, hG⟩ := hA3 _ rfl
  have GB := Lib.hid (Nat.le_trans BB.out.size hG)
  have BB := Lib.hid (BB.out.trans (hf3.2.mono BB.out.size))
  obtain ⟨cur, hcur⟩ := own_at (show w3.ownsRow _ 5 1 (.slice (some ⟨G, 0, none⟩) b cap) b _ from hf3.1)
  generalize sector ⟨m, b, g, s, n, l, p % 6⟩ = L at *
  have hKl : K < L.length := by rw [hh3.1]; exact hK
  have hcK : w3.cell? ⟨G, K, none⟩ = some (.int .u8 (L[K].toNat : Int)) := by have := hh3.cell K hK; rw [Nat.zero_add] at this; exact this
  have hfK : w3.frozen? ⟨G, K, none⟩ = false := hcur.frozen K
  have H := Lib.hid (has_set hh3 hcur K hK (L[K] ^^^ z))
  have BB := Lib.hid (BB.out.setCell (p := ⟨G, K, none⟩) GB.out (.int .u8 ((L[K] ^^^ z).toNat : Int)))
  have hcm : cap ≤ 9223372036854775807 := by unfold maxLen at hc2; omega
  have hzl := lt8 z
  have hxl := lt8 L[K]
  have hx8 := Lib.hid (xor8 L[K] z)
  clear hf3 hh3 hA3 hcur hG FT OK ok SHP hc2
  generalize L[K] = x at *
  have hKe := KE.out
  have hpar := PR.out
  go_wp2_with fail
  rw [hx8.out]
  clear hcK hfK hx8 hKe hpar hxl hzl KE PR hKl hK
  generalize w3.setCell ⟨G, K, none⟩ (.int .u8 ((x ^^^ z).toNat : Int)) = w4 at *
  generalize L.set K (x ^^^ z) = L4 at *
  obtain ⟨X, EC, hD⟩ : ∃ X EC, dec L4 = (X, EC) := ⟨_, _, rfl⟩
  obtain ⟨M0, M1, M2, M3, M4, M5, M6⟩ := X
  have HD := Lib.hid hD
  have heq := fun w => (show (binOp .eql 29 (.agg #[.int .i64 (M0 : Int), .int .i64 (M1 : Int), .int .i64 (M2 : Int), .int .i64 (M3 : Int), .int .i64 (M4 : Int), .int .i64 (M5 : Int), .int .i64 (M6 : Int)]) (.agg #[.int .i64 (M0 : Int), .int .i64 (M1 : Int), .int .i64 (M2 : Int), .int .i64 (M3 : Int), .int .i64 (M4 : Int), .int .i64 (M5 : Int), .int .i64 (M6 : Int)])).run Try.prog w = .ok (.bool true) w from lab_eql ⟨M0, M1, M2, M3, M4, M5, M6⟩ w)
  clear hD
  refine (decode_any (some ⟨G, 0, none⟩) b cap L4 w4 hc1 (by unfold maxLen; omega) (by omega) H.out).mono ?_
  rintro e wD ⟨rfl, hbD⟩
  rw [HD.out]
  simp only [Lab.cs]
  have H := Lib.hid (H.out.below hbD)
  have BB := Lib.hid (BB.out.trans (hbD.mono BB.out.size))
  clear hbD
  have H := Lib.hid (H.out.below ((Below.refl _ _).alloc (Nat.le_refl _) (.cells #[.int .i64 (M0 : Int), .int .i64 (M1 : Int), .int .i64 (M2 : Int), .int .i64 (M3 : Int), .int .i64 (M4 : Int), .int .i64 (M5 : Int), .int .i64 (M6 : Int)] 29)))
  have PX := Lib.hid (At.new (w := wD) (g := wD.heap.size) #[.int .i64 (M0 : Int), .int .i64 (M1 : Int), .int .i64 (M2 : Int), .int .i64 (M3 : Int), .int .i64 (M4 : Int), .int .i64 (M5 : Int), .int .i64 (M6 : Int)] 29 rfl)
  have BB := Lib.hid (BB.out.alloc BB.out.size (.cells #[.int .i64 (M0 : Int), .int .i64 (M1 : Int), .int .i64 (M2 : Int), .int .i64 (M3 : Int), .int .i64 (M4 : Int), .int .i64 (M5 : Int), .int .i64 (M6 : Int)] 29))
  go_wp2_with fail
  refine (reads_any (some ⟨G, 0, none⟩) b cap L4 _ hc1 (by unfold maxLen; omega) (by omega) H.out).mono ?_
  rintro e wE ⟨rfl, hbE⟩
  rw [HD.out]
  simp only [Lab.cs]
  have PX := Lib.hid (PX.out.below hbE PX.out.lt)
  have BB := Lib.hid (BB.out.trans (hbE.mono BB.out.size))
  clear hbE
  have PX := Lib.hid (PX.out.alloc (.cells #[.int .i64 (M0 : Int), .int .i64 (M1 : Int), .int .i64 (M2 : Int), .int .i64 (M3 : Int), .int .i64 (M4 : Int), .int .i64 (M5 : Int), .int .i64 (M6 : Int)] 29))
  have BB := Lib.hid (BB.out.alloc BB.out.size (.cells #[.int .i64 (M0 : Int), .int .i64 (M1 : Int), .int .i64 (M2 : Int), .int .i64 (M3 : Int), .int .i64 (M4 : Int), .int .i64 (M5 : Int), .int .i64 (M6 : Int)] 29))
  have c0 := PX.out.cell 0; have c1 := PX.out.cell 1; have c2 := PX.out.cell 2; have c3 := PX.out.cell 3; have c4 := PX.out.cell 4; have c5 := PX.out.cell 5; have c6 := PX.out.cell 6
  go_wp2
  go_ret
  exact ⟨by simp, BB.out⟩
set_option maxHeartbeats 1600000 in
theorem spoilt_odd_bare_cut (x0 x1 x2 x3 x4 x5 : Int) (p a K : Nat) (z : BitVec 8) (hp : p < 256) (ha : a < 256) (m b g s n l : Nat) (hK : K < b) (hpar : (((a : Nat) : Int) % 2 == 0) = false) (hKe : (a : Int) % (b : Int) = (K : Int)) (ok : Hid (Ok (m : Int) b g s n l)) (hb5 : b ≤ 512) (hb3 : 32 ≤ b) (SHP : Hid (Shaped x0 x1 x2 x3 x4 x5 m b g s n l)) (w : World) :
    Calls Try.prog 5 #[.agg #[.int .u8 x0, .int .u8 x1, .int .u8 x2, .int .u8 x3, .int .u8 x4, .int .u8 x5], .int .u8 (p : Int), .int .u8 (a : Int), .int .u8 (z.toNat : Int), .bool false, .bool true] w fun e w' => e = .returned (.bool true) ∧ Below w.heap.size w w' := by
  have PR := Lib.hid hpar
  have KE := Lib.hid hKe
  clear hpar hKe
  have A := Lib.hid (At.new (w := w) (g := w.heap.size) #[.int .u8 x0, .int .u8 x1, .int .u8 x2, .int .u8 x3, .int .u8 x4, .int .u8 x5] 23 rfl)
  have BB := Lib.hid ((Below.refl w.heap.size w).alloc (Nat.le_refl _) (.cells #[.int .u8 x0, .int .u8 x1, .int .u8 x2, .int .u8 x3, .int .u8 x4, .int .u8 x5] 23))
  go_enter Try.func5, Try.ntmps5
  go_wp2_with fail
  refine (awake_any _).mono ?_
  rintro e w1 ⟨rfl, hb1⟩
  have A := Lib.hid (A.out.below hb1 A.out.lt)
  have BB := Lib.hid (BB.out.trans (hb1.mono BB.out.size))
  have c0 := A.out.cell 0; have c1 := A.out.cell 1; have c2 := A.out.cell 2; have c3 := A.out.cell 3; have c4 := A.out.cell 4; have c5 := A.out.cell 5
  clear hb1
  go_wp2_with fail
  refine (SHP.out _).mono ?_
  rintro e w2 ⟨rfl, hb2⟩
  have BB := Lib.hid (BB.out.trans (hb2.mono BB.out.size))
  clear hb2 c0 c1 c2 c3 c4 c5 A
  go_wp2_with fail
  rw [show (p : Int) % 6 = ((p % 6 : Nat) : Int) by omega]
  have OK := Lib.hid (show (Lab.mk m b g s n l (p % 6)).ok from ok.out)
  have FT := Lib.hid (Lab.ok_fits OK.out (show p % 6 < 256 by omega))
  refine (tells_any ⟨m, b, g, s, n, l, p % 6⟩ _ FT.out ⟨show 22 ≤ b by omega, hb5⟩).mono ?_
  rintro e w3 ⟨v3, rfl, hf3⟩
  obtain ⟨A3, cap, e3, hc1, hc2, hh3, hA3⟩ := Has.of_own (show w3.ownsRow _ 5 1 v3 b _ from hf3.1)
  subst e3
  obtain ⟨S3, rfl⟩ := some_of hh3 (by omega)
  obtain ⟨G, rfl, hG⟩ := hA3 _ rfl
  have GB := Lib.hid (Nat.le_trans BB.out.size hG)
  have BB := Lib.hid (BB.out.trans (hf3.2.mono BB.out.size))
  obtain ⟨cur, hcur⟩ := own_at (show w3.ownsRow _ 5 1 (.slice (some ⟨G, 0, none⟩) b cap) b _ from hf3.1)
  generalize sector ⟨m, b, g, s, n, l, p % 6⟩ = L at *
  have hKl : K < L.length := by rw [hh3.1]; exact hK
  have hcK : w3.cell? ⟨G, K, none⟩ = some (.int .u8 (L[K].toNat : Int)) := by have := hh3.cell K hK; rw [Nat.zero_add] at this; exact this
  have hfK : w3.frozen? ⟨G, K, none⟩ = false := hcur.frozen K
  have H := Lib.hid (has_set hh3 hcur K hK (L[K] ^^^ z))
  have BB := Lib.hid (BB.out.setCell (p := ⟨G, K, none⟩) GB.out (.int .u8 ((L[K] ^^^ z).toNat : Int)))
  have hcm : cap ≤ 9223372036854775807 := by unfold maxLen at hc2; omega
  have hzl := lt8 z
  have hxl := lt8 L[K]
  have hx8 := Lib.hid (xor8 L[K] z)
  clear hf3 hh3 hA3 hcur hG FT OK ok SHP hc2
  generalize L[K] = x at *
  have hKe := KE.out
  have hpar := PR.out
  go_wp2_with fail
  rw [hx8.out]
  clear hcK hfK hx8 hKe hpar hxl hzl KE PR hKl hK
  generalize w3.setCell ⟨G, K, none⟩ (.int .u8 ((x ^^^ z).toNat : Int)) = w4 at *
  generalize L.set K (x ^^^ z) = L4 at *
  have H := Lib.hid (H.out.take (b - 1) (by omega))
  obtain ⟨X, EC, hD⟩ : ∃ X EC, dec (L4.take (b - 1)) = (X, EC) := ⟨_, _, rfl⟩
  obtain ⟨M0, M1, M2, M3, M4, M5, M6⟩ := X
  have HD := Lib.hid hD
  have heq := fun w => (show (binOp .eql 29 (.agg #[.int .i64 (M0 : Int), .int .i64 (M1 : Int), .int .i64 (M2 : Int), .int .i64 (M3 : Int), .int .i64 (M4 : Int), .int .i64 (M5 : Int), .int .i64 (M6 : Int)]) (.agg #[.int .i64 (M0 : Int), .int .i64 (M1 : Int), .int .i64 (M2 : Int), .int .i64 (M3 : Int), .int .i64 (M4 : Int), .int .i64 (M5 : Int), .int .i64 (M6 : Int)])).run Try.prog w = .ok (.bool true) w from lab_eql ⟨M0, M1, M2, M3, M4, M5, M6⟩ w)
  clear hD
  refine (decode_any (some ⟨G, 0, none⟩) (b - 1) cap (L4.take (b - 1)) w4 (by omega) (by unfold maxLen; omega) (by omega) H.out).mono ?_
  rintro e wD ⟨rfl, hbD⟩
  rw [HD.out]
  simp only [Lab.cs]
  have H := Lib.hid (H.out.below hbD)
  have BB := Lib.hid (BB.out.trans (hbD.mono BB.out.size))
  clear hbD
  have H := Lib.hid (H.out.below ((Below.refl _ _).alloc (Nat.le_refl _) (.cells #[.int .i64 (M0 : Int), .int .i64 (M1 : Int), .int .i64 (M2 : Int), .int .i64 (M3 : Int), .int .i64 (M4 : Int), .int .i64 (M5 : Int), .int .i64 (M6 : Int)] 29)))
  have PX := Lib.hid (At.new (w := wD) (g := wD.heap.size) #[.int .i64 (M0 : Int), .int .i64 (M1 : Int), .int .i64 (M2 : Int), .int .i64 (M3 : Int), .int .i64 (M4 : Int), .int .i64 (M5 : Int), .int .i64 (M6 : Int)] 29 rfl)
  have BB := Lib.hid (BB.out.alloc BB.out.size (.cells #[.int .i64 (M0 : Int), .int .i64 (M1 : Int), .int .i64 (M2 : Int), .int .i64 (M3 : Int), .int .i64 (M4 : Int), .int .i64 (M5 : Int), .int .i64 (M6 : Int)] 29))
  go_wp2_with fail
  refine (reads_any (some ⟨G, 0, none⟩) (b - 1) cap (L4.take (b - 1)) _ (by omega) (by unfold maxLen; omega) (by omega) H.out).mono ?_
  rintro e wE ⟨rfl, hbE⟩
  rw [HD.out]
  simp only [Lab.cs]
  have PX := Lib.hid (PX.out.below hbE PX.out.lt)
  have BB := Lib.hid (BB.out.trans (hbE.mono BB.out.size))
  clear hbE
  have PX := Lib.hid (PX.out.alloc (.cells #[.int .i64 (M0 : Int), .int .i64 (M1 : Int), .int .i64 (M2 : Int), .int .i64 (M3 : Int), .int .i64 (M4 : Int), .int .i64 (M5 : Int), .int .i64 (M6 : Int)] 29))
  have BB := Lib.hid (BB.out.alloc BB.out.size (.cells #[.int .i64 (M0 : Int), .int .i64 (M1 : Int), .int .i64 (M2 : Int), .int .i64 (M3 : Int), .int .i64 (M4 : Int), .int .i64 (M5 : Int), .int .i64 (M6 : Int)] 29))
  have c0 := PX.out.cell 0; have c1 := PX.out.cell 1; have c2 := PX.out.cell 2; have c3 := PX.out.cell 3; have c4 := PX.out.cell 4; have c5 := PX.out.cell 5; have c6 := PX.out.cell 6
  go_wp2
  go_ret
  exact ⟨by simp, BB.out⟩
set_option maxHeartbeats 1600000 in
theorem spoilt_odd_seal_all (x0 x1 x2 x3 x4 x5 : Int) (p a K : Nat) (z : BitVec 8) (hp : p < 256) (ha : a < 256) (m b g s n l : Nat) (hK : K < b) (hpar : (((a : Nat) : Int) % 2 == 0) = false) (hKe : (a : Int) % (b : Int) = (K : Int)) (ok : Hid (Ok (m : Int) b g s n l)) (hb5 : b ≤ 512) (hb3 : 32 ≤ b) (SHP : Hid (Shaped x0 x1 x2 x3 x4 x5 m b g s n l)) (w : World) :
    Calls Try.prog 5 #[.agg #[.int .u8 x0, .int .u8 x1, .int .u8 x2, .int .u8 x3, .int .u8 x4, .int .u8 x5], .int .u8 (p : Int), .int .u8 (a : Int), .int .u8 (z.toNat : Int), .bool true, .bool false] w fun e w' => e = .returned (.bool true) ∧ Below w.heap.size w w' := by
  have PR := Lib.hid hpar
  have KE := Lib.hid hKe
  clear hpar hKe
  have A := Lib.hid (At.new (w := w) (g := w.heap.size) #[.int .u8 x0, .int .u8 x1, .int .u8 x2, .int .u8 x3, .int .u8 x4, .int .u8 x5] 23 rfl)
  have BB := Lib.hid ((Below.refl w.heap.size w).alloc (Nat.le_refl _) (.cells #[.int .u8 x0, .int .u8 x1, .int .u8 x2, .int .u8 x3, .int .u8 x4, .int .u8 x5] 23))
  go_enter Try.func5, Try.ntmps5
  go_wp2_with fail
  refine (awake_any _).mono ?_
  rintro e w1 ⟨rfl, hb1⟩
  have A := Lib.hid (A.out.below hb1 A.out.lt)
  have BB := Lib.hid (BB.out.trans (hb1.mono BB.out.size))
  have c0 := A.out.cell 0; have c1 := A.out.cell 1; have c2 := A.out.cell 2; have c3 := A.out.cell 3; have c4 := A.out.cell 4; have c5 := A.out.cell 5
  clear hb1
  go_wp2_with fail
  refine (SHP.out _).mono ?_
  rintro e w2 ⟨rfl, hb2⟩
  have BB := Lib.hid (BB.out.trans (hb2.mono BB.out.size))
  clear hb2 c0 c1 c2 c3 c4 c5 A
  go_wp2_with fail
  rw [show (p : Int) % 6 = ((p % 6 : Nat) : Int) by omega]
  have OK := Lib.hid (show (Lab.mk m b g s n l (p % 6)).ok from ok.out)
  have FT := Lib.hid (Lab.ok_fits OK.out (show p % 6 < 256 by omega))
  refine (tells_any ⟨m, b, g, s, n, l, p % 6⟩ _ FT.out ⟨show 22 ≤ b by omega, hb5⟩).mono ?_
  rintro e w3 ⟨v3, rfl, hf3⟩
  obtain ⟨A3, cap, e3, hc1, hc2, hh3, hA3⟩ := Has.of_own (show w3.ownsRow _ 5 1 v3 b _ from hf3.1)
  subst e3
  obtain ⟨S3, rfl⟩ := some_of hh3 (by omega)
  obtain ⟨G, rfl, hG⟩ := hA3 _ rfl
  have GB := Lib.hid (Nat.le_trans BB.out.size hG)
  have BB := Lib.hid (BB.out.trans (hf3.2.mono BB.out.size))
  obtain ⟨cur, hcur⟩ := own_at (show w3.ownsRow _ 5 1 (.slice (some ⟨G, 0, none⟩) b cap) b _ from hf3.1)
  generalize sector ⟨m, b, g, s, n, l, p % 6⟩ = L at *
  have hKl : K < L.length := by rw [hh3.1]; exact hK
  have hcK : w3.cell? ⟨G, K, none⟩ = some (.int .u8 (L[K].toNat : Int)) := by have := hh3.cell K hK; rw [Nat.zero_add] at this; exact this
  have hfK : w3.frozen? ⟨G, K, none⟩ = false := hcur.frozen K
  have H := Lib.hid (has_set hh3 hcur K hK (L[K] ^^^ z))
  have BB := Lib.hid (BB.out.setCell (p := ⟨G, K, none⟩) GB.out (.int .u8 ((L[K] ^^^ z).toNat : Int)))
  have hcm : cap ≤ 9223372036854775807 := by unfold maxLen at hc2; omega
  have hzl := lt8 z
  have hxl := lt8 L[K]
  have hx8 := Lib.hid (xor8 L[K] z)
  clear hf3 hh3 hA3 hcur hG FT OK ok SHP hc2
  generalize L[K] = x at *
  have hKe := KE.out
  have hpar := PR.out
  go_wp2_with fail
  rw [hx8.out]
  clear hcK hfK hx8 hKe hpar hxl hzl KE PR hKl hK
  generalize w3.setCell ⟨G, K, none⟩ (.int .u8 ((x ^^^ z).toNat : Int)) = w4 at *
  generalize L.set K (x ^^^ z) = L4 at *
  obtain ⟨o2, ho2⟩ : ∃ o2, (cap = 22 ∧ o2 = 0) ∨ (cap ≠ 22 ∧ o2 = 22) := by
    by_cases e : cap = 22
    · exact ⟨_, .inl ⟨e, rfl⟩⟩
    · exact ⟨_, .inr ⟨e, rfl⟩⟩
  obtain ⟨uS, huS⟩ : ∃ u, u = w4.drew := ⟨_, rfl⟩
  have H := Lib.hid (show Has uS (some ⟨G, 0, none⟩) b L4 by rw [huS]; exact H.out.drewN 1)
  have BB := Lib.hid (show Below w.heap.size w uS by rw [huS]; exact below_drewN BB.out 1)
  have D2 := Lib.hid (show Has uS (some ⟨G, o2, none⟩) (b - 22) (L4.drop 22) by
    rcases ho2 with ⟨e, rfl⟩ | ⟨e, rfl⟩
    · have hn0 : b - 22 = 0 := by omega
      rw [hn0, List.drop_eq_nil_of_le (by rw [H.out.1]; omega)]
      exact Has.nil _ _
    · exact H.out.drop 22 (by omega))
  refine wp_region_early (fun _ => True) (fun _ => true) (by kernel_rfl) ?_
  change wpEarly _ _ _ _ _ _ 7 (Array.replicate 7 false) _ w4.drew
  rw [← huS]
  clear huS
  refine early_take (i := 0) 48 (.slice (some ⟨G, 0, none⟩) b cap) rfl rfl (by kernel_rfl) (by kernel_rfl) (by kernel_rfl) (by kernel_rfl) rfl (fun _ _ _ h => h) (fun w' hw' => by go_simp) trivial ?_
  simp only [Act.put, List.setIfInBounds_toArray, List.set_cons_zero, List.set_cons_succ]
  refine early_take (i := 1) 49 (.slice (some ⟨G, 0, none⟩) 18 cap) rfl rfl (by kernel_rfl) (by kernel_rfl) (by kernel_rfl) (by kernel_rfl) rfl (fun _ _ _ h => h) (fun w' hw' => by go_simp; intro h; exfalso; omega) trivial ?_
  simp only [Act.put, List.setIfInBounds_toArray, List.set_cons_zero, List.set_cons_succ]
  refine early_take (i := 3) 51 (.slice (some ⟨G, 0, none⟩) b cap) rfl rfl (by kernel_rfl) (by kernel_rfl) (by kernel_rfl) (by kernel_rfl) rfl (fun _ _ _ h => h) (fun w' hw' => by go_simp) trivial ?_
  simp only [Act.put, List.setIfInBounds_toArray, List.set_cons_zero, List.set_cons_succ]
  refine early_take (i := 4) 52 (.slice (some ⟨G, o2, none⟩) (b - 22) (cap - 22)) rfl rfl (by kernel_rfl) (by kernel_rfl) (by kernel_rfl) (by kernel_rfl) rfl (fun _ _ _ h => h) (fun w' hw' => by rcases ho2 with ⟨e, rfl⟩ | ⟨e, rfl⟩ <;> go_simp <;> first | omega | (intro h; exfalso; omega) | (simp_all; done) | (simp [e]; omega)) trivial ?_
  simp only [Act.put, List.setIfInBounds_toArray, List.set_cons_zero, List.set_cons_succ]
  refine early_only (i := 2) (by kernel_rfl) rfl (fun K hK => ?_)
  simp only [opWp, List.getElem?_toArray, List.getElem?_cons_succ, List.getElem?_cons_zero]
  go_simp
  go_at_call 13
  refine (sealed_any _ 18 cap (L4.take 18) uS (by omega) (H.out.take 18 (by omega))).mono ?_
  rintro e uT ⟨vT, rfl, hfT⟩
  have HO := Lib.hid hfT.1
  have BL := Lib.hid hfT.2
  have D2 := Lib.hid (D2.out.below hfT.2)
  clear hfT
  refine hK _ _ (fun _ => trivial) ?_
  refine early_only (i := 5) (by kernel_rfl) rfl (fun K hK => ?_)
  simp only [opWp, List.getElem?_toArray, List.getElem?_cons_succ, List.getElem?_cons_zero]
  refine wp_append_has (.tmp 50) (.tmp 52) rfl uS.heap.size vT 22 (sealL (L4.take 18)) rfl HO.out ⟨G, o2, none⟩ (b - 22) (cap - 22) (L4.drop 22) rfl D2.out (by omega) BL.out.size ?_
  intro A8 c8 w8 hown hgr
  have BB := Lib.hid ((BB.out.trans (BL.out.mono BB.out.size)).grown hgr (Nat.le_trans BB.out.size BL.out.size) (fun k hk => Nat.le_trans BB.out.size (HO.out.lt k hk).1))
  obtain ⟨A', c', e', hcU1, hcU2, hhU, _⟩ := Has.of_own hown
  injection e' with e1 e2 e3
  subst e1 e3
  have H := Lib.hid hhU
  have CU := Lib.hid (And.intro hcU1 hcU2)
  clear hown hgr hcU1 hcU2 hhU HO BL D2 e2
  refine hK _ _ (fun _ => trivial) ?_
  simp only [Act.put, List.setIfInBounds_toArray, List.set_cons_zero, List.set_cons_succ]
  refine early_take (i := 6) 13 (.slice A8 (22 + (b - 22)) c8) rfl rfl (by kernel_rfl) (by kernel_rfl) (by kernel_rfl) (by kernel_rfl) rfl (fun _ _ _ h => h) (fun w' hw' => by go_simp) trivial ?_
  simp only [Act.put, List.setIfInBounds_toArray, List.set_cons_zero, List.set_cons_succ]
  refine early_done (by kernel_rfl) ?_
  generalize sealL (L4.take 18) ++ L4.drop 22 = L8 at *
  have NB := Lib.hid (show 22 + (b - 22) = b by omega)
  generalize 22 + (b - 22) = N8 at *
  have hN8 : N8 ≤ 600 := by have := NB.out; omega
  have hL8 : 22 ≤ N8 := by have := NB.out; omega
  have HN8 : N8 = b := NB.out
  clear ho2 NB HN8
  obtain ⟨X, EC, hD⟩ : ∃ X EC, dec L8 = (X, EC) := ⟨_, _, rfl⟩
  obtain ⟨M0, M1, M2, M3, M4, M5, M6⟩ := X
  have HD := Lib.hid hD
  have heq := fun w => (show (binOp .eql 29 (.agg #[.int .i64 (M0 : Int), .int .i64 (M1 : Int), .int .i64 (M2 : Int), .int .i64 (M3 : Int), .int .i64 (M4 : Int), .int .i64 (M5 : Int), .int .i64 (M6 : Int)]) (.agg #[.int .i64 (M0 : Int), .int .i64 (M1 : Int), .int .i64 (M2 : Int), .int .i64 (M3 : Int), .int .i64 (M4 : Int), .int .i64 (M5 : Int), .int .i64 (M6 : Int)])).run Try.prog w = .ok (.bool true) w from lab_eql ⟨M0, M1, M2, M3, M4, M5, M6⟩ w)
  clear hD
  go_wp2_with fail
  refine (decode_any A8 N8 c8 L8 w8 CU.out.1 CU.out.2 (by omega) H.out).mono ?_
  rintro e wD ⟨rfl, hbD⟩
  rw [HD.out]
  simp only [Lab.cs]
  have H := Lib.hid (H.out.below hbD)
  have BB := Lib.hid (BB.out.trans (hbD.mono BB.out.size))
  clear hbD
  have H := Lib.hid (H.out.below ((Below.refl _ _).alloc (Nat.le_refl _) (.cells #[.int .i64 (M0 : Int), .int .i64 (M1 : Int), .int .i64 (M2 : Int), .int .i64 (M3 : Int), .int .i64 (M4 : Int), .int .i64 (M5 : Int), .int .i64 (M6 : Int)] 29)))
  have PX := Lib.hid (At.new (w := wD) (g := wD.heap.size) #[.int .i64 (M0 : Int), .int .i64 (M1 : Int), .int .i64 (M2 : Int), .int .i64 (M3 : Int), .int .i64 (M4 : Int), .int .i64 (M5 : Int), .int .i64 (M6 : Int)] 29 rfl)
  have BB := Lib.hid (BB.out.alloc BB.out.size (.cells #[.int .i64 (M0 : Int), .int .i64 (M1 : Int), .int .i64 (M2 : Int), .int .i64 (M3 : Int), .int .i64 (M4 : Int), .int .i64 (M5 : Int), .int .i64 (M6 : Int)] 29))
  go_wp2_with fail
  refine (reads_any A8 N8 c8 L8 _ CU.out.1 CU.out.2 (by omega) H.out).mono ?_
  rintro e wE ⟨rfl, hbE⟩
  rw [HD.out]
  simp only [Lab.cs]
  have PX := Lib.hid (PX.out.below hbE PX.out.lt)
  have BB := Lib.hid (BB.out.trans (hbE.mono BB.out.size))
  clear hbE
  have PX := Lib.hid (PX.out.alloc (.cells #[.int .i64 (M0 : Int), .int .i64 (M1 : Int), .int .i64 (M2 : Int), .int .i64 (M3 : Int), .int .i64 (M4 : Int), .int .i64 (M5 : Int), .int .i64 (M6 : Int)] 29))
  have BB := Lib.hid (BB.out.alloc BB.out.size (.cells #[.int .i64 (M0 : Int), .int .i64 (M1 : Int), .int .i64 (M2 : Int), .int .i64 (M3 : Int), .int .i64 (M4 : Int), .int .i64 (M5 : Int), .int .i64 (M6 : Int)] 29))
  have c0 := PX.out.cell 0; have c1 := PX.out.cell 1; have c2 := PX.out.cell 2; have c3 := PX.out.cell 3; have c4 := PX.out.cell 4; have c5 := PX.out.cell 5; have c6 := PX.out.cell 6
  go_wp2
  go_ret
  exact ⟨by simp, BB.out⟩
set_option maxHeartbeats 1600000 in
theorem spoilt_odd_seal_cut (x0 x1 x2 x3 x4 x5 : Int) (p a K : Nat) (z : BitVec 8) (hp : p < 256) (ha : a < 256) (m b g s n l : Nat) (hK : K < b) (hpar : (((a : Nat) : Int) % 2 == 0) = false) (hKe : (a : Int) % (b : Int) = (K : Int)) (ok : Hid (Ok (m : Int) b g s n l)) (hb5 : b ≤ 512) (hb3 : 32 ≤ b) (SHP : Hid (Shaped x0 x1 x2 x3 x4 x5 m b g s n l)) (w : World) :
    Calls Try.prog 5 #[.agg #[.int .u8 x0, .int .u8 x1, .int .u8 x2, .int .u8 x3, .int .u8 x4, .int .u8 x5], .int .u8 (p : Int), .int .u8 (a : Int), .int .u8 (z.toNat : Int), .bool true, .bool true] w fun e w' => e = .returned (.bool true) ∧ Below w.heap.size w w' := by
  have PR := Lib.hid hpar
  have KE := Lib.hid hKe
  clear hpar hKe
  have A := Lib.hid (At.new (w := w) (g := w.heap.size) #[.int .u8 x0, .int .u8 x1, .int .u8 x2, .int .u8 x3, .int .u8 x4, .int .u8 x5] 23 rfl)
  have BB := Lib.hid ((Below.refl w.heap.size w).alloc (Nat.le_refl _) (.cells #[.int .u8 x0, .int .u8 x1, .int .u8 x2, .int .u8 x3, .int .u8 x4, .int .u8 x5] 23))
  go_enter Try.func5, Try.ntmps5
  go_wp2_with fail
  refine (awake_any _).mono ?_
  rintro e w1 ⟨rfl, hb1⟩
  have A := Lib.hid (A.out.below hb1 A.out.lt)
  have BB := Lib.hid (BB.out.trans (hb1.mono BB.out.size))
  have c0 := A.out.cell 0; have c1 := A.out.cell 1; have c2 := A.out.cell 2; have c3 := A.out.cell 3; have c4 := A.out.cell 4; have c5 := A.out.cell 5
  clear hb1
  go_wp2_with fail
  refine (SHP.out _).mono ?_
  rintro e w2 ⟨rfl, hb2⟩
  have BB := Lib.hid (BB.out.trans (hb2.mono BB.out.size))
  clear hb2 c0 c1 c2 c3 c4 c5 A
  go_wp2_with fail
  rw [show (p : Int) % 6 = ((p % 6 : Nat) : Int) by omega]
  have OK := Lib.hid (show (Lab.mk m b g s n l (p % 6)).ok from ok.out)
  have FT := Lib.hid (Lab.ok_fits OK.out (show p % 6 < 256 by omega))
  refine (tells_any ⟨m, b, g, s, n, l, p % 6⟩ _ FT.out ⟨show 22 ≤ b by omega, hb5⟩).mono ?_
  rintro e w3 ⟨v3, rfl, hf3⟩
  obtain ⟨A3, cap, e3, hc1, hc2, hh3, hA3⟩ := Has.of_own (show w3.ownsRow _ 5 1 v3 b _ from hf3.1)
  subst e3
  obtain ⟨S3, rfl⟩ := some_of hh3 (by omega)
  obtain ⟨G, rfl, hG⟩ := hA3 _ rfl
  have GB := Lib.hid (Nat.le_trans BB.out.size hG)
  have BB := Lib.hid (BB.out.trans (hf3.2.mono BB.out.size))
  obtain ⟨cur, hcur⟩ := own_at (show w3.ownsRow _ 5 1 (.slice (some ⟨G, 0, none⟩) b cap) b _ from hf3.1)
  generalize sector ⟨m, b, g, s, n, l, p % 6⟩ = L at *
  have hKl : K < L.length := by rw [hh3.1]; exact hK
  have hcK : w3.cell? ⟨G, K, none⟩ = some (.int .u8 (L[K].toNat : Int)) := by have := hh3.cell K hK; rw [Nat.zero_add] at this; exact this
  have hfK : w3.frozen? ⟨G, K, none⟩ = false := hcur.frozen K
  have H := Lib.hid (has_set hh3 hcur K hK (L[K] ^^^ z))
  have BB := Lib.hid (BB.out.setCell (p := ⟨G, K, none⟩) GB.out (.int .u8 ((L[K] ^^^ z).toNat : Int)))
  have hcm : cap ≤ 9223372036854775807 := by unfold maxLen at hc2; omega
  have hzl := lt8 z
  have hxl := lt8 L[K]
  have hx8 := Lib.hid (xor8 L[K] z)
  clear hf3 hh3 hA3 hcur hG FT OK ok SHP hc2
  generalize L[K] = x at *
  have hKe := KE.out
  have hpar := PR.out
  go_wp2_with fail
  rw [hx8.out]
  clear hcK hfK hx8 hKe hpar hxl hzl KE PR hKl hK
  generalize w3.setCell ⟨G, K, none⟩ (.int .u8 ((x ^^^ z).toNat : Int)) = w4 at *
  generalize L.set K (x ^^^ z) = L4 at *
  obtain ⟨o2, ho2⟩ : ∃ o2, (cap = 22 ∧ o2 = 0) ∨ (cap ≠ 22 ∧ o2 = 22) := by
    by_cases e : cap = 22
    · exact ⟨_, .inl ⟨e, rfl⟩⟩
    · exact ⟨_, .inr ⟨e, rfl⟩⟩
  obtain ⟨uS, huS⟩ : ∃ u, u = w4.drew := ⟨_, rfl⟩
  have H := Lib.hid (show Has uS (some ⟨G, 0, none⟩) b L4 by rw [huS]; exact H.out.drewN 1)
  have BB := Lib.hid (show Below w.heap.size w uS by rw [huS]; exact below_drewN BB.out 1)
  have D2 := Lib.hid (show Has uS (some ⟨G, o2, none⟩) (b - 22) (L4.drop 22) by
    rcases ho2 with ⟨e, rfl⟩ | ⟨e, rfl⟩
    · have hn0 : b - 22 = 0 := by omega
      rw [hn0, List.drop_eq_nil_of_le (by rw [H.out.1]; omega)]
      exact Has.nil _ _
    · exact H.out.drop 22 (by omega))
  refine wp_region_early (fun _ => True) (fun _ => true) (by kernel_rfl) ?_
  change wpEarly _ _ _ _ _ _ 7 (Array.replicate 7 false) _ w4.drew
  rw [← huS]
  clear huS
  refine early_take (i := 0) 48 (.slice (some ⟨G, 0, none⟩) b cap) rfl rfl (by kernel_rfl) (by kernel_rfl) (by kernel_rfl) (by kernel_rfl) rfl (fun _ _ _ h => h) (fun w' hw' => by go_simp) trivial ?_
  simp only [Act.put, List.setIfInBounds_toArray, List.set_cons_zero, List.set_cons_succ]
  refine early_take (i := 1) 49 (.slice (some ⟨G, 0, none⟩) 18 cap) rfl rfl (by kernel_rfl) (by kernel_rfl) (by kernel_rfl) (by kernel_rfl) rfl (fun _ _ _ h => h) (fun w' hw' => by go_simp; intro h; exfalso; omega) trivial ?_
  simp only [Act.put, List.setIfInBounds_toArray, List.set_cons_zero, List.set_cons_succ]
  refine early_take (i := 3) 51 (.slice (some ⟨G, 0, none⟩) b cap) rfl rfl (by kernel_rfl) (by kernel_rfl) (by kernel_rfl) (by kernel_rfl) rfl (fun _ _ _ h => h) (fun w' hw' => by go_simp) trivial ?_
  simp only [Act.put, List.setIfInBounds_toArray, List.set_cons_zero, List.set_cons_succ]
  refine early_take (i := 4) 52 (.slice (some ⟨G, o2, none⟩) (b - 22) (cap - 22)) rfl rfl (by kernel_rfl) (by kernel_rfl) (by kernel_rfl) (by kernel_rfl) rfl (fun _ _ _ h => h) (fun w' hw' => by rcases ho2 with ⟨e, rfl⟩ | ⟨e, rfl⟩ <;> go_simp <;> first | omega | (intro h; exfalso; omega) | (simp_all; done) | (simp [e]; omega)) trivial ?_
  simp only [Act.put, List.setIfInBounds_toArray, List.set_cons_zero, List.set_cons_succ]
  refine early_only (i := 2) (by kernel_rfl) rfl (fun K hK => ?_)
  simp only [opWp, List.getElem?_toArray, List.getElem?_cons_succ, List.getElem?_cons_zero]
  go_simp
  go_at_call 13
  refine (sealed_any _ 18 cap (L4.take 18) uS (by omega) (H.out.take 18 (by omega))).mono ?_
  rintro e uT ⟨vT, rfl, hfT⟩
  have HO := Lib.hid hfT.1
  have BL := Lib.hid hfT.2
  have D2 := Lib.hid (D2.out.below hfT.2)
  clear hfT
  refine hK _ _ (fun _ => trivial) ?_
  refine early_only (i := 5) (by kernel_rfl) rfl (fun K hK => ?_)
  simp only [opWp, List.getElem?_toArray, List.getElem?_cons_succ, List.getElem?_cons_zero]
  refine wp_append_has (.tmp 50) (.tmp 52) rfl uS.heap.size vT 22 (sealL (L4.take 18)) rfl HO.out ⟨G, o2, none⟩ (b - 22) (cap - 22) (L4.drop 22) rfl D2.out (by omega) BL.out.size ?_
  intro A8 c8 w8 hown hgr
  have BB := Lib.hid ((BB.out.trans (BL.out.mono BB.out.size)).grown hgr (Nat.le_trans BB.out.size BL.out.size) (fun k hk => Nat.le_trans BB.out.size (HO.out.lt k hk).1))
  obtain ⟨A', c', e', hcU1, hcU2, hhU, _⟩ := Has.of_own hown
  injection e' with e1 e2 e3
  subst e1 e3
  have H := Lib.hid hhU
  have CU := Lib.hid (And.intro hcU1 hcU2)
  clear hown hgr hcU1 hcU2 hhU HO BL D2 e2
  refine hK _ _ (fun _ => trivial) ?_
  simp only [Act.put, List.setIfInBounds_toArray, List.set_cons_zero, List.set_cons_succ]
  refine early_take (i := 6) 13 (.slice A8 (22 + (b - 22)) c8) rfl rfl (by kernel_rfl) (by kernel_rfl) (by kernel_rfl) (by kernel_rfl) rfl (fun _ _ _ h => h) (fun w' hw' => by go_simp) trivial ?_
  simp only [Act.put, List.setIfInBounds_toArray, List.set_cons_zero, List.set_cons_succ]
  refine early_done (by kernel_rfl) ?_
  generalize sealL (L4.take 18) ++ L4.drop 22 = L8 at *
  have NB := Lib.hid (show 22 + (b - 22) = b by omega)
  generalize 22 + (b - 22) = N8 at *
  have hN8 : N8 ≤ 600 := by have := NB.out; omega
  have hL8 : 22 ≤ N8 := by have := NB.out; omega
  have HN8 : N8 = b := NB.out
  clear ho2 NB HN8
  obtain ⟨b8, o8, rfl⟩ := H.out.some_ (by omega)
  have hcu1 : N8 ≤ c8 := CU.out.1
  have hcu2 : c8 ≤ 9223372036854775807 := by have := CU.out.2; unfold maxLen at this; omega
  have H := Lib.hid (H.out.take (N8 - 1) (by omega))
  obtain ⟨X, EC, hD⟩ : ∃ X EC, dec (L8.take (N8 - 1)) = (X, EC) := ⟨_, _, rfl⟩
  obtain ⟨M0, M1, M2, M3, M4, M5, M6⟩ := X
  have HD := Lib.hid hD
  have heq := fun w => (show (binOp .eql 29 (.agg #[.int .i64 (M0 : Int), .int .i64 (M1 : Int), .int .i64 (M2 : Int), .int .i64 (M3 : Int), .int .i64 (M4 : Int), .int .i64 (M5 : Int), .int .i64 (M6 : Int)]) (.agg #[.int .i64 (M0 : Int), .int .i64 (M1 : Int), .int .i64 (M2 : Int), .int .i64 (M3 : Int), .int .i64 (M4 : Int), .int .i64 (M5 : Int), .int .i64 (M6 : Int)])).run Try.prog w = .ok (.bool true) w from lab_eql ⟨M0, M1, M2, M3, M4, M5, M6⟩ w)
  clear hD
  go_wp2_with fail
  refine (decode_any (some ⟨b8, o8, none⟩) (N8 - 1) c8 (L8.take (N8 - 1)) w8 (by have := CU.out.1; omega) CU.out.2 (by omega) H.out).mono ?_
  rintro e wD ⟨rfl, hbD⟩
  rw [HD.out]
  simp only [Lab.cs]
  have H := Lib.hid (H.out.below hbD)
  have BB := Lib.hid (BB.out.trans (hbD.mono BB.out.size))
  clear hbD
  have H := Lib.hid (H.out.below ((Below.refl _ _).alloc (Nat.le_refl _) (.cells #[.int .i64 (M0 : Int), .int .i64 (M1 : Int), .int .i64 (M2 : Int), .int .i64 (M3 : Int), .int .i64 (M4 : Int), .int .i64 (M5 : Int), .int .i64 (M6 : Int)] 29)))
  have PX := Lib.hid (At.new (w := wD) (g := wD.heap.size) #[.int .i64 (M0 : Int), .int .i64 (M1 : Int), .int .i64 (M2 : Int), .int .i64 (M3 : Int), .int .i64 (M4 : Int), .int .i64 (M5 : Int), .int .i64 (M6 : Int)] 29 rfl)
  have BB := Lib.hid (BB.out.alloc BB.out.size (.cells #[.int .i64 (M0 : Int), .int .i64 (M1 : Int), .int .i64 (M2 : Int), .int .i64 (M3 : Int), .int .i64 (M4 : Int), .int .i64 (M5 : Int), .int .i64 (M6 : Int)] 29))
  go_wp2_with fail
  refine (reads_any (some ⟨b8, o8, none⟩) (N8 - 1) c8 (L8.take (N8 - 1)) _ (by have := CU.out.1; omega) CU.out.2 (by omega) H.out).mono ?_
  rintro e wE ⟨rfl, hbE⟩
  rw [HD.out]
  simp only [Lab.cs]
  have PX := Lib.hid (PX.out.below hbE PX.out.lt)
  have BB := Lib.hid (BB.out.trans (hbE.mono BB.out.size))
  clear hbE
  have PX := Lib.hid (PX.out.alloc (.cells #[.int .i64 (M0 : Int), .int .i64 (M1 : Int), .int .i64 (M2 : Int), .int .i64 (M3 : Int), .int .i64 (M4 : Int), .int .i64 (M5 : Int), .int .i64 (M6 : Int)] 29))
  have BB := Lib.hid (BB.out.alloc BB.out.size (.cells #[.int .i64 (M0 : Int), .int .i64 (M1 : Int), .int .i64 (M2 : Int), .int .i64 (M3 : Int), .int .i64 (M4 : Int), .int .i64 (M5 : Int), .int .i64 (M6 : Int)] 29))
  have c0 := PX.out.cell 0; have c1 := PX.out.cell 1; have c2 := PX.out.cell 2; have c3 := PX.out.cell 3; have c4 := PX.out.cell 4; have c5 := PX.out.cell 5; have c6 := PX.out.cell 6
  go_wp2
  go_ret
  exact ⟨by simp, BB.out⟩

theorem spoilt_walk (x0 x1 x2 x3 x4 x5 : Int) (h0 : Byte x0) (h1 : Byte x1) (h2 : Byte x2) (h3 : Byte x3) (h4 : Byte x4) (h5 : Byte x5) (p a z : Int) (hp : Byte p) (ha : Byte a) (hz : Byte z) (sl cut : Bool) (w : World) :
    Calls Try.prog 5 #[.agg #[.int .u8 x0, .int .u8 x1, .int .u8 x2, .int .u8 x3, .int .u8 x4, .int .u8 x5], .int .u8 p, .int .u8 a, .int .u8 z, .bool sl, .bool cut] w fun e w' => e = .returned (.bool true) ∧ Below w.heap.size w w' := by
  obtain ⟨m, b, g, s, n, l, ok, _, _, hs⟩ := shape_nat x0 x1 x2 x3 x4 x5 h0 h1 h2 h3 h4 h5
  have hb := ok_block (x := ⟨m, b, g, s, n, l, 0⟩) ok
  unfold Byte at hp ha hz
  obtain ⟨p', rfl⟩ := Int.eq_ofNat_of_zero_le hp.1
  obtain ⟨a', rfl⟩ := Int.eq_ofNat_of_zero_le ha.1
  obtain ⟨z', rfl⟩ := Int.eq_ofNat_of_zero_le hz.1
  have hb1 : 32 ≤ b := hb.1
  have hb2 : b ≤ 512 := hb.2
  have ez : (z' : Int) = ((BitVec.ofNat 8 z').toNat : Int) := by
    rw [BitVec.toNat_ofNat]
    omega
  rw [ez]
  by_cases hpar : a' % 2 = 0
  · have hd : (((a' : Nat) : Int) % 2 == 0) = true := by simp; omega
    have hK : (a' : Int) / 2 % 18 = ((a' / 2 % 18 : Nat) : Int) := by omega
    cases sl <;> cases cut
    · exact spoilt_even_bare_all x0 x1 x2 x3 x4 x5 p' a' _ _ (by omega) (by omega) m b g s n l (by omega) hd hK ok hb2 hb1 hs w
    · exact spoilt_even_bare_cut x0 x1 x2 x3 x4 x5 p' a' _ _ (by omega) (by omega) m b g s n l (by omega) hd hK ok hb2 hb1 hs w
    · exact spoilt_even_seal_all x0 x1 x2 x3 x4 x5 p' a' _ _ (by omega) (by omega) m b g s n l (by omega) hd hK ok hb2 hb1 hs w
    · exact spoilt_even_seal_cut x0 x1 x2 x3 x4 x5 p' a' _ _ (by omega) (by omega) m b g s n l (by omega) hd hK ok hb2 hb1 hs w
  · have hd : (((a' : Nat) : Int) % 2 == 0) = false := by simp; omega
    have hK : (a' : Int) % (b : Int) = ((a' % b : Nat) : Int) := rfl
    have hl : a' % b < b := Nat.mod_lt _ (by omega)
    cases sl <;> cases cut
    · exact spoilt_odd_bare_all x0 x1 x2 x3 x4 x5 p' a' _ _ (by omega) (by omega) m b g s n l hl hd hK ok hb2 hb1 hs w
    · exact spoilt_odd_bare_cut x0 x1 x2 x3 x4 x5 p' a' _ _ (by omega) (by omega) m b g s n l hl hd hK ok hb2 hb1 hs w
    · exact spoilt_odd_seal_all x0 x1 x2 x3 x4 x5 p' a' _ _ (by omega) (by omega) m b g s n l hl hd hK ok hb2 hb1 hs w
    · exact spoilt_odd_seal_cut x0 x1 x2 x3 x4 x5 p' a' _ _ (by omega) (by omega) m b g s n l hl hd hK ok hb2 hb1 hs w

end Go.Proofs.Ytkhjeaabhjfkgaa
