/-
  THE WALK OF GeomSpoilt: any small shape, any field, any number in its place.
-/
import Derived.Test.YtimehgckgpdmbaaMay
import Derived.Test.YtimehgckgpdmbaaAwake
import Derived.Test.YtimehgckgpdmbaaIn
import Derived.Deep.CutRange
import Derived.Deep.CutBlock
import Derived.Deep.DeepCutAuto
namespace Go.Proofs.Ytimehgckgpdmbaa
open Go.RowKit Go.Sort
set_option linter.unusedVariables false
set_option maxRecDepth 100000

/-- The cells ahead of round j: field q turned, once it was met. -/
def spo (cs : Array Value) (q : Nat) (v : Value) (j : Nat) : Array Value := if q < j then cs.setIfInBounds q v else cs
theorem spo_zero (cs : Array Value) (q : Nat) (v : Value) : spo cs q v 0 = cs := if_neg (by omega)
theorem spo_hit (cs : Array Value) (q : Nat) (v : Value) : (spo cs q v q).setIfInBounds q v = spo cs q v (q + 1) := by
  unfold spo
  rw [if_neg (by omega), if_pos (by omega)]
theorem spo_miss (cs : Array Value) {q j : Nat} (v : Value) (h : ¬ j = q) : spo cs q v j = spo cs q v (j + 1) := by
  unfold spo
  by_cases h1 : q < j
  · rw [if_pos h1, if_pos (by omega)]
  · rw [if_neg h1, if_neg (by omega)]
theorem spo_end (cs : Array Value) {q : Nat} (v : Value) (h : q < 6) : spo cs q v 6 = cs.setIfInBounds q v := if_pos h
theorem spo_at {cs : Array Value} {q j : Nat} {v : Value} (h : j < cs.size) : ∃ u, (spo cs q v j)[j]? = some u := by
  have hs : (spo cs q v j).size = cs.size := by
    unfold spo
    split
    · exact Array.size_setIfInBounds
    · rfl
  exact ⟨_, Array.getElem?_eq_getElem (by omega)⟩
theorem ptrs_at (G j : Nat) (h : j < 6) : ((#[.pointer (some ⟨G, 0, none⟩), .pointer (some ⟨G, 1, none⟩), .pointer (some ⟨G, 2, none⟩), .pointer (some ⟨G, 3, none⟩), .pointer (some ⟨G, 4, none⟩), .pointer (some ⟨G, 5, none⟩)] : Array Value))[j]? = some (.pointer (some ⟨G, j, none⟩)) := by
  match j, h with
  | 0, _ => rfl
  | 1, _ => rfl
  | 2, _ => rfl
  | 3, _ => rfl
  | 4, _ => rfl
  | 5, _ => rfl

theorem spoilt_of (x0 x1 x2 x3 x4 x5 m b g s n l : Int) (hS : Hid (Small m b g s n l)) (SHP : Hid (∀ w, Calls Try.prog 13 #[.agg #[.int .u8 x0, .int .u8 x1, .int .u8 x2, .int .u8 x3, .int .u8 x4, .int .u8 x5]] w fun e w' => e = .returned (sv m b g s n l) ∧ Below w.heap.size w w')) (q : Int) (hq : 0 ≤ q ∧ q ≤ 255) (qn : Nat) (hqn : q % 6 = (qn : Int)) (hq6 : qn < 6) (v : Int) (hv : -32768 ≤ v ∧ v ≤ 32767) (w : World) :
    Calls Try.prog 4 #[.agg #[.int .u8 x0, .int .u8 x1, .int .u8 x2, .int .u8 x3, .int .u8 x4, .int .u8 x5], .int .u8 q, .int .i16 v] w fun e w' => e = .returned (.bool true) ∧ Below w.heap.size w w' := by
  go_enter Try.func4, Try.ntmps4
  go_wp2_with fail
  have A := Lib.hid (At.new (w := w) (g := w.heap.size) #[.int .u8 x0, .int .u8 x1, .int .u8 x2, .int .u8 x3, .int .u8 x4, .int .u8 x5] 29 rfl)
  have B0 := Lib.hid ((Below.refl w.heap.size w).alloc (Nat.le_refl _) (.cells #[.int .u8 x0, .int .u8 x1, .int .u8 x2, .int .u8 x3, .int .u8 x4, .int .u8 x5] 29))
  refine (awake_any _).mono ?_
  rintro e w1 ⟨rfl, hb'⟩
  have A := Lib.hid (A.out.below hb' A.out.lt)
  have B0 := Lib.hid (B0.out.trans (hb'.mono (up B0.out rfl)))
  have c0 := A.out.cell 0; have c1 := A.out.cell 1; have c2 := A.out.cell 2; have c3 := A.out.cell 3; have c4 := A.out.cell 4; have c5 := A.out.cell 5
  clear hb'
  go_wp2_with fail
  refine (SHP.out _).mono ?_
  rintro e w2 ⟨rfl, hb'⟩
  have B0 := Lib.hid (B0.out.trans (hb'.mono (up B0.out rfl)))
  clear hb' c0 c1 c2 c3 c4 c5 A
  go_upto_region 4 with (fail)
  have A := Lib.hid (At.new (w := w2) (g := w2.heap.size) #[.int .i64 m, .int .i64 b, .int .i64 g, .int .i64 s, .int .i64 n, .int .i64 l] 23 rfl)
  have U := Lib.hid (up B0.out rfl)
  have B0 := Lib.hid (B0.out.alloc (up B0.out rfl) (.cells #[.int .i64 m, .int .i64 b, .int .i64 g, .int .i64 s, .int .i64 n, .int .i64 l] 23))
  generalize w2.alloc (.cells #[.int .i64 m, .int .i64 b, .int .i64 g, .int .i64 s, .int .i64 n, .int .i64 l] 23) = W at *
  generalize hG : w2.heap.size = G at *
  have UG := Lib.hid (show w.heap.size ≤ G from U.out)
  clear hG U
  have c0 := A.out.cell 0; have c1 := A.out.cell 1; have c2 := A.out.cell 2; have c3 := A.out.cell 3; have c4 := A.out.cell 4; have c5 := A.out.cell 5
  go_wp2_with fail
  refine (check_ok m b g s n l hS.out.ok _).mono ?_
  rintro e w3 ⟨rfl, hb'⟩
  have A := Lib.hid (A.out.below hb' A.out.lt)
  have B0 := Lib.hid (B0.out.trans (hb'.mono (up B0.out rfl)))
  clear hb' c0 c1 c2 c3 c4 c5
  go_wp2_with fail
  have Pt := Lib.hid (At.new (w := w3) (g := w3.heap.size) #[.pointer (some ⟨G, 0, none⟩), .pointer (some ⟨G, 1, none⟩), .pointer (some ⟨G, 2, none⟩), .pointer (some ⟨G, 3, none⟩), .pointer (some ⟨G, 4, none⟩), .pointer (some ⟨G, 5, none⟩)] 32 rfl)
  have A := Lib.hid (A.out.alloc (.cells #[.pointer (some ⟨G, 0, none⟩), .pointer (some ⟨G, 1, none⟩), .pointer (some ⟨G, 2, none⟩), .pointer (some ⟨G, 3, none⟩), .pointer (some ⟨G, 4, none⟩), .pointer (some ⟨G, 5, none⟩)] 32))
  have hne : ¬ w3.heap.size = G := by have := (At.lt (show At w3 G #[.int .i64 m, .int .i64 b, .int .i64 g, .int .i64 s, .int .i64 n, .int .i64 l] 23 from ‹Hid (At w3 G #[.int .i64 m, .int .i64 b, .int .i64 g, .int .i64 s, .int .i64 n, .int .i64 l] 23)›.out)); omega
  have NE := Lib.hid hne
  have US := Lib.hid (up B0.out rfl)
  have B0 := Lib.hid (B0.out.alloc (up B0.out rfl) (.cells #[.pointer (some ⟨G, 0, none⟩), .pointer (some ⟨G, 1, none⟩), .pointer (some ⟨G, 2, none⟩), .pointer (some ⟨G, 3, none⟩), .pointer (some ⟨G, 4, none⟩), .pointer (some ⟨G, 5, none⟩)] 32))
  clear hne
  generalize w3.alloc (.cells #[.pointer (some ⟨G, 0, none⟩), .pointer (some ⟨G, 1, none⟩), .pointer (some ⟨G, 2, none⟩), .pointer (some ⟨G, 3, none⟩), .pointer (some ⟨G, 4, none⟩), .pointer (some ⟨G, 5, none⟩)] 32) = W4 at *
  generalize w3.heap.size = Sb at *
  go_loopw [25] (fun i wr => ∃ j : Nat, j ≤ 6 ∧ i = .int .i64 j ∧ At wr G (spo #[.int .i64 m, .int .i64 b, .int .i64 g, .int .i64 s, .int .i64 n, .int .i64 l] qn (.int .i64 v) j) 23 ∧ At wr Sb #[.pointer (some ⟨G, 0, none⟩), .pointer (some ⟨G, 1, none⟩), .pointer (some ⟨G, 2, none⟩), .pointer (some ⟨G, 3, none⟩), .pointer (some ⟨G, 4, none⟩), .pointer (some ⟨G, 5, none⟩)] 32 ∧ Below w.heap.size w wr) (fun i _ => 6 - (intOf i).toNat)
  case atStart => exact ⟨0, Nat.zero_le _, rfl, by rw [spo_zero]; exact A.out, Pt.out, B0.out⟩
  case round =>
    obtain ⟨j, hj, rfl, hA, hPt, hB⟩ := hrel
    have A' := Lib.hid hA
    have P' := Lib.hid hPt
    have B' := Lib.hid hB
    clear hA hPt hB
    by_cases hlt : j < 6
    · have hcp : wr.cell? ⟨Sb, j, none⟩ = some (.pointer (some ⟨G, j, none⟩)) := (P'.out.cell j).trans (ptrs_at G j hlt)
      by_cases e : j = qn
      · subst e
        obtain ⟨u, hu⟩ := spo_at (cs := #[.int .i64 m, .int .i64 b, .int .i64 g, .int .i64 s, .int .i64 n, .int .i64 l]) (q := j) (j := j) (v := .int .i64 v) (by simp; omega)
        have hcu : wr.cell? ⟨G, j, none⟩ = some u := (A'.out.cell j).trans hu
        have hfz : wr.frozen? ⟨G, j, none⟩ = false := A'.out.frozen j
        clear hu
        go_wp2
        go_roundw
        case rel => exact ⟨j + 1, by omega, by go_num, by rw [← spo_hit]; exact A'.out.set j _, P'.out.other (fun e => NE.out e.symm) _, B'.out.setCell UG.out _⟩
        case measure => simp [intOf]; omega
      · have hd : decide ((j : Int) = (qn : Int)) = false := decide_eq_false (by omega)
        have E := Lib.hid e
        have hi : ¬ (j : Int) = (qn : Int) := by omega
        go_wp2
        go_roundw
        case rel => exact ⟨j + 1, by omega, by go_num, by rw [← spo_miss _ _ E.out]; exact A'.out, P'.out, B'.out⟩
        case measure => simp [intOf]; omega
    · obtain rfl : j = 6 := by omega
      obtain ⟨m', b', g', s', n', l', hA'⟩ : ∃ m' b' g' s' n' l' : Int, At wr G #[.int .i64 m', .int .i64 b', .int .i64 g', .int .i64 s', .int .i64 n', .int .i64 l'] 23 := by
        have := A'.out
        rw [spo_end _ _ hq6] at this
        rcases (show qn = 0 ∨ qn = 1 ∨ qn = 2 ∨ qn = 3 ∨ qn = 4 ∨ qn = 5 by omega) with e | e | e | e | e | e <;> subst e
        · exact ⟨v, b, g, s, n, l, this⟩
        · exact ⟨m, v, g, s, n, l, this⟩
        · exact ⟨m, b, v, s, n, l, this⟩
        · exact ⟨m, b, g, v, n, l, this⟩
        · exact ⟨m, b, g, s, v, l, this⟩
        · exact ⟨m, b, g, s, n, v, this⟩
      have A' := Lib.hid hA'
      clear hA'
      have k0 := cell_regrown (w := wr) (a := ⟨G, 0, none⟩) (v := .int .i64 m') (A'.out.cell 0)
      have k1 := cell_regrown (w := wr) (a := ⟨G, 1, none⟩) (v := .int .i64 b') (A'.out.cell 1)
      have k2 := cell_regrown (w := wr) (a := ⟨G, 2, none⟩) (v := .int .i64 g') (A'.out.cell 2)
      have k3 := cell_regrown (w := wr) (a := ⟨G, 3, none⟩) (v := .int .i64 s') (A'.out.cell 3)
      have k4 := cell_regrown (w := wr) (a := ⟨G, 4, none⟩) (v := .int .i64 n') (A'.out.cell 4)
      have k5 := cell_regrown (w := wr) (a := ⟨G, 5, none⟩) (v := .int .i64 l') (A'.out.cell 5)
      go_wp2_with fail
      by_cases ok : Ok m' b' g' s' n' l'
      · have O := Lib.hid ok
        clear ok
        refine wp_region_quiet_below (by kernel_rfl) (by kernel_rfl) ?_
        repeat (go_big_quiet_step ((first | (with_reducible exact Calls.regrown_of (check_ok m' b' g' s' n' l' O.out _)) | (with_reducible exact Calls.regrown_of (may_ok m' b' g' s' n' l' O.out _)))))
        refine wpQuiet_nil ?_
        intro _ hw'
        obtain ⟨⟨dq, osq⟩, hw''⟩ := hw'
        subst hw''
        go_wp2
        go_ret
        exact ⟨rfl, fin B'.out (up B'.out rfl) dq osq⟩
      · have O := Lib.hid ok
        clear ok
        refine wp_region_quiet_below (by kernel_rfl) (by kernel_rfl) ?_
        repeat (go_big_quiet_step ((first | (with_reducible exact Calls.regrown_of (check_bad m' b' g' s' n' l' O.out _)) | (with_reducible exact Calls.regrown_of (may_bad m' b' g' s' n' l' O.out _)))))
        refine wpQuiet_nil ?_
        intro _ hw'
        obtain ⟨⟨dq, osq⟩, hw''⟩ := hw'
        subst hw''
        go_wp2
        go_ret
        exact ⟨rfl, fin B'.out (up B'.out rfl) dq osq⟩

theorem spoilt_walk (x0 x1 x2 x3 x4 x5 : Int) (y0 : Byte x0) (y1 : Byte x1) (y2 : Byte x2) (y3 : Byte x3) (y4 : Byte x4) (y5 : Byte x5) (q : Int) (hq : Byte q) (v : Int) (hv : -32768 ≤ v ∧ v ≤ 32767) (w : World) :
    Calls Try.prog 4 #[.agg #[.int .u8 x0, .int .u8 x1, .int .u8 x2, .int .u8 x3, .int .u8 x4, .int .u8 x5], .int .u8 q, .int .i16 v] w fun e w' => e = .returned (.bool true) ∧ Below w.heap.size w w' := by
  obtain ⟨m, b, g, s, n, l, hS, hsh⟩ := shape_small x0 x1 x2 x3 x4 x5 y0 y1 y2 y3 y4 y5
  exact spoilt_of x0 x1 x2 x3 x4 x5 m b g s n l hS hsh q hq (q % 6).toNat (by have := hq.1; omega) (by have := hq.1; omega) v hv w

end Go.Proofs.Ytimehgckgpdmbaa
