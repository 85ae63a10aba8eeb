/-
  THE WALKS OF All AND Within.
-/
import Derived.Test.YtcekcbheajcfpaaRowsI
import Derived.Deep.CutRange
namespace Go.Proofs.Ytcekcbheajcfpaa
open Go.RowKit
set_option linter.unusedVariables false
set_option maxRecDepth 100000


theorem ints_zero (m : Nat) : (madeCells (Value.int .i64 0).cells (m * 1)).toList = ints (List.replicate m 0) := by
  unfold ints
  apply List.ext_getElem?
  intro k
  rw [List.getElem?_map, List.getElem?_replicate]
  rcases Nat.lt_or_ge k m with h | h
  · rw [if_pos h]
    simp [madeCells, h, Value.cells, Nat.mod_one]
  · rw [if_neg (by omega), List.getElem?_eq_none (by rw [Array.length_toList, size_madeCells]; omega)]
    rfl
theorem made_ints {w w1 : World} {n : Nat} (h : w1.ownsRow w.heap.size 3 1 (.slice (some ⟨w.heap.size, 0, none⟩) n n) n (madeCells (Value.int .i64 0).cells (n * 1)).toList) : At w1 w.heap.size (ints (List.replicate n 0)).toArray 3 := by
  rcases h.2 with ⟨e, _⟩ | ⟨g, cap, cur, e, _, hh, _, _, hs, ht⟩
  · cases e
  · injection e with e1 _ e2
    injection e1 with e1
    injection e1 with e1
    subst e1 e2
    unfold At
    rw [hh]
    congr 2
    apply Array.ext'
    rw [List.take_of_length_le (by simp [hs])] at ht
    rw [ht, ints_zero]

/-- The places of all blocks. -/
def allV (n : Nat) (V : Nat → Int) : List Int := (List.range n).map V
theorem allV_len (n : Nat) (V : Nat → Int) : (allV n V).length = n := by simp [allV]
theorem allV_get {n k : Nat} (V : Nat → Int) (h : k < n) : (allV n V)[k]'(by rw [allV_len]; exact h) = V k := by simp [allV]
/-- The first k of them are written. -/
def filled (n : Nat) (V : Nat → Int) (k : Nat) : List Int := allV k V ++ List.replicate (n - k) 0
theorem filled_len {n k : Nat} (V : Nat → Int) (h : k ≤ n) : (filled n V k).length = n := by simp [filled, allV]; omega
theorem filled_full (n : Nat) (V : Nat → Int) : filled n V n = allV n V := by simp [filled]
theorem filled_next {n k : Nat} (V : Nat → Int) (h : k < n) : (ints (filled n V k)).set k (.int .i64 (V k)) = ints (filled n V (k + 1)) := by
  unfold ints
  rw [← List.map_set (f := fun p => Value.int .i64 p) (a := V k)]
  congr 1
  unfold filled
  rw [List.set_append_right _ _ (by rw [allV_len]; exact Nat.le_refl _), allV_len, Nat.sub_self, show n - k = (n - (k + 1)) + 1 by omega, List.replicate_succ, List.set_cons_zero]
  unfold allV
  rw [List.range_succ, List.map_append, List.append_assoc]
  rfl

section
variable {w : World} {T : Nat → Prop} {g n : Nat} {V : Nat → Int} {A : Nat → Bool}
set_option maxHeartbeats 800000 in
theorem all_any (h : Lm w T g n V A) : Calls Try.prog 17 #[.pointer (some ⟨g, 0, none⟩)] w fun e w' => ∃ a, e = .returned (.slice (some ⟨a, 0, none⟩) n n) ∧ w.heap.size ≤ a ∧ At w' a (ints (allV n V)).toArray 3 ∧ Below w.heap.size w w' := by
  obtain ⟨i0, hi, hz0, hz1, hz2⟩ := info_parts int_info
  have H := Lib.hid h
  have hl := h.few
  have c0 : w.cell? ⟨g, 0, none⟩ = some (.int .i64 n) := by
    obtain ⟨r, Q, hq, _⟩ := h
    exact hq.box.cell 0
  clear h
  go_enter Try.func17, Try.ntmps17
  go_wp2_with (at_make; refine wpList_make_full _ rfl (.tmp 8) (.tmp 8) 26 rfl w.heap.size 3 i0 (.int .i64 0) 1 Try.underlying26 hi hz0 hz1 .i64 .i64 n n n rfl rfl rfl rfl (by rw [hz2]; omega) (by unfold maxLen; omega) (Nat.le_refl _) ?_; intro w1 hown1 hg1; have R := Lib.hid (made_ints hown1); have B := Lib.hid ((Below.refl w.heap.size w).grown hg1 (Nat.le_refl _) (by simp)); clear hown1 hg1)
  go_loopg [4, 12] n (fun gg _ s12 wr => ∃ k : Nat, k ≤ n ∧ n - k ≤ gg ∧ s12 = .int .i64 (k : Int) ∧ At wr w.heap.size (ints (filled n V k)).toArray 3 ∧ Below w.heap.size w wr)
  case atStart => exact ⟨0, Nat.zero_le _, by omega, rfl, R.out, B.out⟩
  case round =>
    obtain ⟨k, hk0, hgg, rfl, hat, hB⟩ := hrel
    by_cases hlt : k < n
    · have AT := Lib.hid hat
      have BW := Lib.hid hB
      obtain ⟨u, hu⟩ : ∃ u, (ints (filled n V k)).toArray[k]? = some u := ⟨_, Array.getElem?_eq_getElem (by rw [List.size_toArray, ints_len, filled_len V hk0]; exact hlt)⟩
      have c1 := (hat.cell k).trans hu
      have f1 := hat.frozen k
      have LI := Lib.hid (lies_in V hlt)
      have N1 := hat.set k (.int .i64 (V k))
      rw [List.setIfInBounds_toArray, filled_next V hlt] at N1
      have NW := Lib.hid N1
      have B2 := Lib.hid (((But.refl (fun k => k = w.heap.size) wr).setCell (p := ⟨w.heap.size, k, none⟩) (fun _ => rfl) (.int .i64 (V k))))
      clear hat hB hu N1
      go_wp2_with fail
      refine (geti_any (k : Int) (H.out.below BW.out)).mono ?_
      rintro e w2 ⟨rfl, hw2⟩
      subst hw2
      rw [LI.out]
      go_wp2
      go_roundg (n - (k + 1))
      case measure => omega
      case rel => exact ⟨k + 1, by omega, Nat.le_refl _, by go_num, NW.out, BW.out.trans (B2.out.below (fun k e => Nat.le_of_eq e.symm) BW.out.size)⟩
    · obtain rfl : k = n := by omega
      rw [filled_full] at hat
      go_wp2
      go_ret
      exact ⟨_, rfl, Nat.le_refl _, hat, hB⟩
end

/-- The blocks below K that lie from f to t. -/
def inn (V : Nat → Int) (f t : Int) (K : Nat) : List Int := ((List.range K).filter fun k => decide (f ≤ V k ∧ V k < t)).map fun (k : Nat) => (k : Int)
theorem inn_len (V : Nat → Int) (f t : Int) (K : Nat) : (inn V f t K).length ≤ K := by
  unfold inn
  rw [List.length_map]
  exact Nat.le_trans (List.length_filter_le _ _) (by simp)
theorem inn_yes {V : Nat → Int} {f t : Int} {k : Nat} (h : f ≤ V k ∧ V k < t) : inn V f t (k + 1) = inn V f t k ++ [(k : Int)] := by
  unfold inn
  rw [List.range_succ, List.filter_append, List.map_append]
  simp [h]
theorem inn_no {V : Nat → Int} {f t : Int} {k : Nat} (h : ¬ (f ≤ V k ∧ V k < t)) : inn V f t (k + 1) = inn V f t k := by
  unfold inn
  rw [List.range_succ, List.filter_append, List.map_append, List.filter_cons_of_neg (by simpa using h)]
  simp
theorem inn_same {V : Nat → Int} {f t : Int} {k : Nat} (hf : 0 ≤ f) : ∀ m, (∀ j, k ≤ j → j < k + m → V j = -1) → inn V f t (k + m) = inn V f t k
  | 0, _ => rfl
  | m + 1, h => by
    rw [← Nat.add_assoc, inn_no (by rw [h (k + m) (by omega) (by omega)]; omega)]
    exact inn_same hf m (fun j h1 h2 => h j h1 (by omega))

section
variable {w : World} {g r n : Nat} {Q : List (Option Nat)} {V : Nat → Int}
set_option maxHeartbeats 1600000 in
theorem withinq_any (from_ f t : Int) (hf : f = max from_ 0) (h : Lq w g r n Q V) : Calls Try.prog 18 #[.pointer (some ⟨g, 0, none⟩), .int .i64 from_, .int .i64 t] w fun e w' =>
    ∃ A c, e = .returned (.slice A (inn V f t (Q.length * 16)).length c) ∧ w'.ownsRow w.heap.size 3 1 (.slice A (inn V f t (Q.length * 16)).length c) (inn V f t (Q.length * 16)).length (ints (inn V f t (Q.length * 16))) ∧ Below w.heap.size w w' := by
  have H := Lib.hid h
  have c1 := h.box.cell 1
  have hl : Q.length ≤ 65536 := by have := h.few; have := h.len; omega
  clear h
  have hmax := fun (w : World) => run_max2 (P := Try.prog) w #[3, 3] 3 from_ 0 f hf
  have FP := Lib.hid (show 0 ≤ f by omega)
  clear hf
  have PL := Lib.hid (fun k => inn_len V f t k)
  obtain ⟨m, hm⟩ : ∃ m, m = Q.length := ⟨_, rfl⟩
  rw [← hm] at c1 hl ⊢
  have HM := Lib.hid hm
  clear hm
  go_enter Try.func18, Try.ntmps18
  go_wp2_with fail
  clear hmax
  go_loopg [7, 8, 9, 10, 11, 19, 26, 27] m (fun gg s7 _ _ _ _ s19 _ _ wr => ∃ (k : Nat) (A : Option Addr) (c : Nat), k ≤ m ∧ m - k ≤ gg ∧ s19 = .int .i64 (k : Int) ∧ s7 = .slice A (inn V f t (k * 16)).length c ∧ wr.ownsRow w.heap.size 3 1 (.slice A (inn V f t (k * 16)).length c) (inn V f t (k * 16)).length (ints (inn V f t (k * 16))) ∧ Below w.heap.size w wr)
  case atStart => exact ⟨0, none, 0, Nat.zero_le _, by omega, rfl, rfl, World.ownsRow_nil _ _ _ _, Below.refl _ _⟩
  case round =>
    obtain ⟨k, A, c, hk0, hgg, rfl, rfl, hown, hB⟩ := hrel
    have OW := Lib.hid hown
    have BW := Lib.hid hB
    have HW := Lib.hid (H.out.below hB)
    have c1 := HW.out.box.cell 1
    rw [← HM.out] at c1
    clear hown hB
    by_cases hlt : k < m
    · obtain ⟨q, hq⟩ : ∃ q, Q[k]? = some q := ⟨_, List.getElem?_eq_getElem (by rw [← HM.out]; exact hlt)⟩
      have d0 := HW.out.cell hq
      cases q with
      | none =>
        have N := Lib.hid (show inn V f t ((k + 1) * 16) = inn V f t (k * 16) by rw [show (k + 1) * 16 = k * 16 + 16 by omega]; exact inn_same FP.out 16 (fun j h1 h2 => by have := H.out.blank _ hq (j - k * 16) (by omega); rw [show k * 16 + (j - k * 16) = j by omega] at this; exact this))
        have d1 : wr.cell? ⟨r, k, none⟩ = some (.pointer none) := d0
        clear d0 hq
        generalize hP : inn V f t (k * 16) = P at *
        go_wp2
        go_roundg (m - (k + 1))
        case measure => omega
        case rel => exact ⟨k + 1, A, c, by omega, Nat.le_refl _, by go_num, by rw [N.out], by rw [N.out]; exact OW.out, BW.out⟩
      | some p =>
        have HQ := Lib.hid hq
        have d1 : wr.cell? ⟨r, k, none⟩ = some (.pointer (some ⟨p, 0, none⟩)) := d0
        clear d0 hq
        go_wp2_with fail
        go_loopg [7, 10, 11, 27] 16 (fun gg s7 _ _ s27 wq => ∃ (j : Nat) (A : Option Addr) (c : Nat), j ≤ 16 ∧ 16 - j ≤ gg ∧ s27 = .int .i64 (j : Int) ∧ s7 = .slice A (inn V f t (k * 16 + j)).length c ∧ wq.ownsRow w.heap.size 3 1 (.slice A (inn V f t (k * 16 + j)).length c) (inn V f t (k * 16 + j)).length (ints (inn V f t (k * 16 + j))) ∧ Below w.heap.size w wq)
        case atStart => exact ⟨0, A, c, by omega, by omega, rfl, rfl, OW.out, BW.out⟩
        case round =>
          obtain ⟨j, A, c, hj0, hgj, rfl, rfl, hown, hB⟩ := hrel
          have OV := Lib.hid hown
          have BV := Lib.hid hB
          have HV := Lib.hid (H.out.below hB)
          have IL := Lib.hid (PL.out (k * 16 + j))
          clear hown hB OW BW HW c1 d1
          by_cases hj : j < 16
          · have e2 := HV.out.place HQ.out hj
            by_cases hv : f ≤ V (k * 16 + j)
            · by_cases hv2 : V (k * 16 + j) < t
              · have N := Lib.hid (show inn V f t (k * 16 + j + 1) = inn V f t (k * 16 + j) ++ [(k : Int) * 16 + (j : Int)] by rw [inn_yes ⟨hv, hv2⟩]; simp)
                have q1 : decide (f ≤ V (k * 16 + j)) = true := by simpa using hv
                have q2 : decide (V (k * 16 + j) < t) = true := by simpa using hv2
                clear hv hv2
                generalize V (k * 16 + j) = v at e2 q1 q2
                generalize hP : inn V f t (k * 16 + j) = P at *
                clear hP
                have IL2 := IL.out
                go_wp2_with fail
                go_quiet (fail)
                have B3 := Lib.hid (show Below wr.heap.size wr ((wr.drewN nq).alloc (.cells #[.int .i64 ((k : Int) * 16 + (j : Int))] 3)) from (below_drewN (Below.refl _ _) nq).alloc (Nat.le_refl _) _)
                go_wp2_with (at_builtin; refine wpList_append_int rfl (.tmp 41) (.tmp 46) rfl w.heap.size (.slice A P.length c) P.length P rfl (own_below OV.out B3.out) ⟨wr.heap.size, 0, none⟩ 1 1 [(k : Int) * 16 + (j : Int)] rfl rfl (int_src (At.new _ 3 rfl)) (by omega) (by have := BV.out.size; have := B3.out.size; omega) ?_; intro A9 c9 w9 hown9 hg9 hf9; have R9 := Lib.hid hown9; have B9 := Lib.hid ((BV.out.trans (B3.out.mono BV.out.size)).grown hg9 (by have := BV.out.size; have := B3.out.size; omega) (fun i hi => (OV.out.lt i hi).1)); clear hown9 hg9 hf9)
                go_roundg (16 - (j + 1))
                case measure => omega
                case rel => exact ⟨j + 1, A9, c9, by omega, Nat.le_refl _, by go_num, by rw [← Nat.add_assoc, N.out, List.length_append]; rfl, by rw [← Nat.add_assoc, N.out, List.length_append]; exact R9.out, B9.out⟩
              · have N := Lib.hid (inn_no (f := f) (t := t) (fun h => hv2 h.2))
                have q1 : decide (f ≤ V (k * 16 + j)) = true := by simpa using hv
                have q2 : decide (V (k * 16 + j) < t) = false := by simpa using hv2
                clear hv hv2
                generalize V (k * 16 + j) = v at e2 q1 q2
                generalize hP : inn V f t (k * 16 + j) = P at *
                clear hP
                go_wp2_with fail
                go_quiet (fail)
                go_wp2_with fail
                go_roundg (16 - (j + 1))
                case measure => omega
                case rel => exact ⟨j + 1, A, c, by omega, Nat.le_refl _, by go_num, by rw [← Nat.add_assoc, N.out], by rw [← Nat.add_assoc, N.out]; exact own_below OV.out (below_drewN (Below.refl _ _) nq), below_drewN BV.out nq⟩
            · have N := Lib.hid (inn_no (f := f) (t := t) (fun h => hv h.1))
              have q1 : decide (f ≤ V (k * 16 + j)) = false := by simpa using hv
              clear hv
              generalize V (k * 16 + j) = v at e2 q1
              generalize hP : inn V f t (k * 16 + j) = P at *
              clear hP
              go_wp2_with fail
              go_quiet (fail)
              go_wp2_with fail
              go_roundg (16 - (j + 1))
              case measure => omega
              case rel => exact ⟨j + 1, A, c, by omega, Nat.le_refl _, by go_num, by rw [← Nat.add_assoc, N.out], by rw [← Nat.add_assoc, N.out]; exact own_below OV.out (below_drewN (Below.refl _ _) nq), below_drewN BV.out nq⟩
          · obtain rfl : j = 16 := by omega
            go_wp2_with fail
            go_roundg (m - (k + 1))
            case measure => omega
            case rel => exact ⟨k + 1, A, c, by omega, Nat.le_refl _, by go_num, by rw [show (k + 1) * 16 = k * 16 + 16 by omega], by rw [show (k + 1) * 16 = k * 16 + 16 by omega]; exact OV.out, BV.out⟩
    · obtain rfl : k = m := by omega
      go_wp2
      go_ret
      exact ⟨A, c, rfl, OW.out, BW.out⟩
end
section
variable {w : World} {T : Nat → Prop} {g n : Nat} {V : Nat → Int} {A : Nat → Bool}
/-- The blocks that lie from f to t. -/
def within (n : Nat) (V : Nat → Int) (f t : Int) : List Int := inn V (max f 0) t n
theorem within_len (n : Nat) (V : Nat → Int) (f t : Int) : (within n V f t).length ≤ n := inn_len V _ t n
theorem within_any (f t : Int) (h : Lm w T g n V A) : Calls Try.prog 18 #[.pointer (some ⟨g, 0, none⟩), .int .i64 f, .int .i64 t] w fun e w' =>
    ∃ A c, e = .returned (.slice A (within n V f t).length c) ∧ w'.ownsRow w.heap.size 3 1 (.slice A (within n V f t).length c) (within n V f t).length (ints (within n V f t)) ∧ Below w.heap.size w w' := by
  obtain ⟨r, Q, hl, ht, rfl⟩ := h
  have e : inn V (max f 0) t (Q.length * 16) = within n V f t := by
    rw [hl.len, show (n + 15) / 16 * 16 = n + ((n + 15) / 16 * 16 - n) by omega]
    exact inn_same (by omega) _ (fun j h1 _ => hl.off j h1)
  have := withinq_any f (max f 0) t rfl hl
  rw [e] at this
  exact this
end
end Go.Proofs.Ytcekcbheajcfpaa
