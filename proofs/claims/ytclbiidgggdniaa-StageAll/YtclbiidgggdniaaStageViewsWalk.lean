/-
  THE WALK OF StageViews.
-/
import Derived.Test.YtclbiidgggdniaaAwake
import Derived.Deep.CutRange
namespace Go.Proofs.Ytclbiidgggdniaa
open Go.RowKit
set_option linter.unusedVariables false
set_option maxRecDepth 100000

theorem abs_vw (M : List Rc) : (vw Rc.lba M).map Rc.abs = vw Rr.lba (M.map Rc.abs) := (vw_map Rr.lba Rc.abs M).symm
theorem Rw.rs {w : World} {B : Nat} {v : Value} {L : List Rc} (h : Rw w B v L) : ∃ A c, v = .slice A L.length c ∧ L.length ≤ c ∧ c ≤ maxLen ∧ Rs w A L.length L := by
  obtain ⟨A, c, e, h1, h2, h3, _⟩ := h.form
  exact ⟨A, c, e, h1, h2, h3⟩
theorem below_drewN (w : World) (q : Nat) : Below w.heap.size w (w.drewN q) := ⟨rfl, rfl, rfl, Nat.le_refl _, fun _ _ => rfl⟩
set_option maxHeartbeats 1600000 in
theorem stageViews_walk (A : Option Addr) (n c : Nat) (L : List It) (a : Int) (w : World) (h : Items w A n c L) (ha : 0 ≤ a ∧ a ≤ 65535) : Calls Try.prog 3 #[.slice A n c, .int .u16 a] w fun e w' => e = .returned (.bool true) ∧ Below w.heap.size w w' := by
  obtain ⟨f, rfl⟩ : ∃ f : Nat, a = (f : Int) := ⟨a.toNat, by omega⟩
  have H := Lib.hid h
  clear h
  go_enter Try.func3, Try.ntmps3
  go_wp2_with fail
  refine (awake_any w).mono ?_
  rintro e w0 ⟨rfl, hb0⟩
  have B0 := Lib.hid hb0
  clear hb0
  by_cases hbig : 60 < n
  · have hbi : (60 : Int) < (n : Int) := by omega
    go_wp2
    go_ret
    exact ⟨rfl, B0.out⟩
  have hbi : ¬ (60 : Int) < (n : Int) := by omega
  go_wp2_with fail
  refine (make_any A n c L f w0 (by omega) (by omega) (H.out.below B0.out)).mono ?_
  rintro e w1 ⟨v, M, rfl, hR, hM, hl, hb⟩
  obtain ⟨A1, c1, rfl, hc1, hcm, hs, _⟩ := hR.form
  rw [hl] at hs hc1
  rw [hl]
  have B1 := Lib.hid (B0.out.trans (hb.mono B0.out.size))
  have X1 := Lib.hid hs
  have M1 := Lib.hid hM
  clear hb hs hM hR hl
  go_wp2_with fail
  refine (view_any A1 n c1 M w1 (by omega) X1.out).mono ?_
  rintro e w2 ⟨v, V, rfl, hR, hV, _, hb⟩
  have B2 := Lib.hid (B1.out.trans (hb.mono B1.out.size))
  have X2 := Lib.hid (X1.out.below hb)
  obtain ⟨A2, c2, rfl, _, _, hs⟩ := hR.rs
  have V2 := Lib.hid hs
  have E2 := Lib.hid hV
  clear hR hb hs hV
  go_wp2_with fail
  refine (lview_any A1 n c1 M w2 (by omega) X2.out hc1 hcm).mono ?_
  rintro e w3 ⟨v, rfl, hR, hb⟩
  have B3 := Lib.hid (B2.out.trans (hb.mono B2.out.size))
  have X3 := Lib.hid (X2.out.below hb)
  have V3 := Lib.hid (V2.out.below hb)
  obtain ⟨A3, c3, rfl, _, _, hs⟩ := hR.rs
  have el : (vw Rc.lba M).length = V.length := by have := congrArg List.length (E2.out.trans (abs_vw M).symm); simpa using this.symm
  rw [el] at hs ⊢
  have W3 := Lib.hid hs
  have hv : V.length ≤ 1000 := by have := vw_len Rc.lba M; have := X1.out.len; omega
  clear hR hb hs el
  go_wp2_with fail
  refine (same_yes A2 A3 V.length c2 c3 V (vw Rc.lba M) w3 hv V3.out W3.out (E2.out.trans (abs_vw M).symm)).mono ?_
  rintro e w4 ⟨rfl, q, rfl⟩
  have B4 := Lib.hid (B3.out.trans ((below_drewN w3 q).mono B3.out.size))
  have X4 := Lib.hid (X3.out.drewN q)
  go_wp2_with fail
  generalize w3.drewN q = w4 at *
  refine (make_any A n c L f w4 (by omega) (by omega) (H.out.below B4.out)).mono ?_
  rintro e w5 ⟨v, M2, rfl, hR, hM, hl, hb⟩
  obtain ⟨A5, c5, rfl, _, _, hs⟩ := hR.rs
  rw [hl] at hs ⊢
  have B5 := Lib.hid (B4.out.trans (hb.mono B4.out.size))
  have X5 := Lib.hid (X4.out.below hb)
  have Y5 := Lib.hid hs
  have N5 := Lib.hid hM
  clear hR hb hs hM hl
  go_wp2_with fail
  refine (same_yes A1 A5 n c1 c5 M M2 w5 (by omega) X5.out Y5.out (M1.out.trans N5.out.symm)).mono ?_
  rintro e w6 ⟨rfl, q2, rfl⟩
  have B6 := Lib.hid (B5.out.trans ((below_drewN w5 q2).mono B5.out.size))
  go_wp2
  go_ret
  exact ⟨rfl, B6.out⟩
end Go.Proofs.Ytclbiidgggdniaa
