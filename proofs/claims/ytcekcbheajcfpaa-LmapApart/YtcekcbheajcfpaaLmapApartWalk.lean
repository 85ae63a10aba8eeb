/-
  THE WALK OF LmapApart.
-/
import Derived.Test.YtcekcbheajcfpaaSys
import Derived.Deep.CutRange
namespace Go.Proofs.Ytcekcbheajcfpaa
open Go.RowKit
set_option linter.unusedVariables false
set_option maxRecDepth 100000


theorem all_cell {w : World} {a n k : Nat} {V : Nat → Int} (h : At w a (ints (allV n V)).toArray 3) (hk : k < n) : w.cell? ⟨a, k, none⟩ = some (.int .i64 (V k)) := by
  rw [h.cell, List.getElem?_toArray, ints_get (by rw [allV_len]; exact hk), allV_get V hk]
theorem At.drewN {w : World} {g : Nat} {cs : Array Value} {t : TypeId} (h : At w g cs t) (m : Nat) : At (w.drewN m) g cs t := h

set_option maxHeartbeats 3200000 in
theorem lmapApart_walk (A : Option Addr) (n c : Nat) (M : List Ac) (x y v : Int) (w : World) (hx : 0 ≤ x ∧ x ≤ 255) (hy : 0 ≤ y ∧ y ≤ 255) (hv : -32768 ≤ v ∧ v ≤ 32767) (h : Acts w A n c M) : Calls Try.prog 6 #[.slice A n c, .int .u8 x, .int .u8 y, .int .i16 v] w fun e w' => e = .returned (.bool true) ∧ Below w.heap.size w w' := by
  have H := Lib.hid h
  obtain ⟨J, rfl⟩ : ∃ J : Nat, x = (J : Int) := ⟨x.toNat, by omega⟩
  obtain ⟨K, rfl⟩ : ∃ K : Nat, y = (K : Int) := ⟨y.toNat, by omega⟩
  have hJ : J < 256 := by omega
  have hK : K < 256 := by omega
  clear h hx hy
  go_enter Try.func6, Try.ntmps6
  go_wp2_with fail
  refine (awake_any w).mono ?_
  rintro e w0 ⟨rfl, hb0⟩
  have B0 := Lib.hid hb0
  clear hb0
  by_cases hbig : 80 < n
  · have hbi : (80 : Int) < (n : Int) := by omega
    go_wp2
    go_ret
    exact ⟨rfl, B0.out⟩
  have hbi : ¬ (80 : Int) < (n : Int) := by omega
  go_wp2_with fail
  refine (made_sy (w0 := w) (n := 256) (by omega) B0.out).mono ?_
  rintro e w1 ⟨g, rfl, hS, _⟩
  have S1 := Lib.hid hS
  clear hS
  go_wp2_with fail
  go_loopg [11, 24] n (fun gg _ s24 wr => ∃ (k : Nat) (V : Nat → Int) (P : Nat → Bool), k ≤ n ∧ n - k ≤ gg ∧ s24 = .int .i64 (k : Int) ∧ Sy w wr (fun _ => False) g 256 V P)
  case atStart => exact ⟨0, _, _, Nat.zero_le _, by omega, rfl, S1.out⟩
  case round =>
    obtain ⟨k, V, P, hk0, hgg, rfl, hS⟩ := hrel
    have SS := Lib.hid hS
    clear hS
    by_cases hlt : k < n
    · have hk80 : k < 80 := by omega
      obtain ⟨ba, off, rfl, hacts⟩ := H.out.2.2.2 (by omega)
      have hkl : k < M.length := by rw [H.out.1]; exact hlt
      have hact := (hacts k hkl).below SS.out.bel
      generalize M[k] = X at hact
      obtain ⟨xl, xp⟩ := X
      obtain ⟨c0, c1, hdl, hdp, _⟩ := hact
      simp only at c0 c1 hdl hdp
      clear hacts
      have S4 := Lib.hid (SS.out.alloc (.cells #[.int .i8 xl, .int .i16 xp] 32))
      go_wp2_with fail
      refine (set_sy xl xp (by omega) S4.out).mono ?_
      rintro e w2 ⟨rfl, hS, _⟩
      have S5 := Lib.hid hS
      clear hS
      go_wp2
      go_roundg (n - (k + 1))
      case measure => omega
      case rel => exact ⟨k + 1, _, _, by omega, Nat.le_refl _, by go_num, S5.out⟩
    · obtain rfl : k = n := by omega
      clear hlt hgg hk0
      go_wp2_with fail
      refine (get_sy (K : Int) SS.out).mono ?_
      rw [lies_in V hK]
      rintro e w2 ⟨rfl, hw⟩
      subst hw
      go_wp2_with fail
      refine (all_sy SS.out).mono ?_
      rintro e w3 ⟨a1, rfl, ha1, hat1, hb3⟩
      have A3 := Lib.hid hat1
      have S3 := Lib.hid (SS.out.new hb3 ha1 hat1.lt)
      clear hat1 hb3 ha1
      go_wp2_with fail
      obtain ⟨M2, hM⟩ : ∃ M2, M2 = max v (-1) := ⟨_, rfl⟩
      have ML := Lib.hid (show -1 ≤ M2 ∧ M2 ≤ 32767 by omega)
      have hmax := fun (w : World) => run_max2 (P := Try.prog) w #[3, 3] 3 v (-1) M2 hM
      refine (set_sy (J : Int) v (by omega) S3.out).mono ?_
      rw [setI_in V v hJ, ← hM]
      clear hM
      rintro e w4 ⟨rfl, hS, hb4⟩
      have S4 := Lib.hid hS
      have A4 := Lib.hid (A3.out.but hb4 (fun h => h.2 (.inr rfl)))
      clear hS hb4
      obtain ⟨V2, hV2⟩ : ∃ V2, V2 = setN V J M2 := ⟨_, rfl⟩
      rw [← hV2] at S4
      have VJ := Lib.hid (show V2 J = M2 by rw [hV2, setN_same])
      have VO := Lib.hid (show ∀ j, j ≠ J → V2 j = V j from fun j hj => by rw [hV2, setN_other V M2 hj])
      clear hV2
      by_cases hJK : J = K
      · subst hJK
        have hne : ((J : Int) != (J : Int)) = false := by simp
        go_wp2_with fail
        refine (all_sy S4.out).mono ?_
        rintro e w5 ⟨a2, rfl, ha2, hat2, hb5⟩
        have A5 := Lib.hid hat2
        have A6 := Lib.hid (A4.out.below hb5 A4.out.lt)
        have B5 := Lib.hid (S4.out.below hb5).bel
        clear hat2 hb5 ha2
        go_wp2_with fail
        go_loopg [15, 72] 256 (fun gg _ s72 wr => ∃ k q : Nat, k ≤ 256 ∧ 256 - k ≤ gg ∧ s72 = .int .i64 (k : Int) ∧ wr = w5.drewN q)
        case atStart => exact ⟨0, 0, by omega, by omega, rfl, rfl⟩
        case round =>
          obtain ⟨k, q, hk0, hgg, rfl, hw⟩ := hrel
          subst hw
          by_cases hlt : k < 256
          · have d1 : w5.cell? ⟨a1, k, none⟩ = some (.int .i64 (V k)) := all_cell A6.out hlt
            have d2 : w5.cell? ⟨a2, k, none⟩ = some (.int .i64 (V2 k)) := all_cell A5.out hlt
            by_cases hk : k = J
            · have hne : ((k : Int) != (J : Int)) = false := by rw [hk]; simp
              clear d1 d2
              go_wp2_with fail
              go_quiet (fail)
              go_wp2_with fail
              go_roundg (256 - (k + 1))
              case measure => omega
              case rel => exact ⟨k + 1, _, by omega, Nat.le_refl _, by go_num, rfl⟩
            · have hne : ((k : Int) != (J : Int)) = true := bne_iff_ne.mpr (by omega)
              rw [VO.out k hk] at d2
              go_wp2_with fail
              go_quiet (fail)
              go_wp2_with fail
              go_roundg (256 - (k + 1))
              case measure => omega
              case rel => exact ⟨k + 1, _, by omega, Nat.le_refl _, by go_num, rfl⟩
          · obtain rfl : k = 256 := by omega
            have d2 : w5.cell? ⟨a2, J, none⟩ = some (.int .i64 (V2 J)) := all_cell A5.out hJ
            rw [VJ.out] at d2
            go_wp2_with fail
            go_ret
            exact ⟨rfl, below_drewN B5.out q⟩
      · have hne : ((J : Int) != (K : Int)) = true := bne_iff_ne.mpr (by omega)
        go_wp2_with fail
        refine (get_sy (K : Int) S4.out).mono ?_
        rw [lies_in V2 hK, VO.out K (fun e => hJK e.symm)]
        rintro e w4b ⟨rfl, hw⟩
        subst hw
        go_wp2_with fail
        refine (all_sy S4.out).mono ?_
        rintro e w5 ⟨a2, rfl, ha2, hat2, hb5⟩
        have A5 := Lib.hid hat2
        have A6 := Lib.hid (A4.out.below hb5 A4.out.lt)
        have B5 := Lib.hid (S4.out.below hb5).bel
        clear hat2 hb5 ha2
        go_wp2_with fail
        go_loopg [15, 72] 256 (fun gg _ s72 wr => ∃ k q : Nat, k ≤ 256 ∧ 256 - k ≤ gg ∧ s72 = .int .i64 (k : Int) ∧ wr = w5.drewN q)
        case atStart => exact ⟨0, 0, by omega, by omega, rfl, rfl⟩
        case round =>
          obtain ⟨k, q, hk0, hgg, rfl, hw⟩ := hrel
          subst hw
          by_cases hlt : k < 256
          · have d1 : w5.cell? ⟨a1, k, none⟩ = some (.int .i64 (V k)) := all_cell A6.out hlt
            have d2 : w5.cell? ⟨a2, k, none⟩ = some (.int .i64 (V2 k)) := all_cell A5.out hlt
            by_cases hk : k = J
            · have hne : ((k : Int) != (J : Int)) = false := by rw [hk]; simp
              clear d1 d2
              go_wp2_with fail
              go_quiet (fail)
              go_wp2_with fail
              go_roundg (256 - (k + 1))
              case measure => omega
              case rel => exact ⟨k + 1, _, by omega, Nat.le_refl _, by go_num, rfl⟩
            · have hne : ((k : Int) != (J : Int)) = true := bne_iff_ne.mpr (by omega)
              rw [VO.out k hk] at d2
              go_wp2_with fail
              go_quiet (fail)
              go_wp2_with fail
              go_roundg (256 - (k + 1))
              case measure => omega
              case rel => exact ⟨k + 1, _, by omega, Nat.le_refl _, by go_num, rfl⟩
          · obtain rfl : k = 256 := by omega
            have d2 : w5.cell? ⟨a2, J, none⟩ = some (.int .i64 (V2 J)) := all_cell A5.out hJ
            rw [VJ.out] at d2
            go_wp2_with fail
            go_ret
            exact ⟨rfl, below_drewN B5.out q⟩

end Go.Proofs.Ytcekcbheajcfpaa
