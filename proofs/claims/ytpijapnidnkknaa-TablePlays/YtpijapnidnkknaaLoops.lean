/-
  THE WALKS OF Many, First, Dead, Clear.
-/
import Derived.Test.YtpijapnidnkknaaCalls
import Derived.Deep.CutRange
namespace Go.Proofs.Ytpijapnidnkknaa
open Go.RowKit
set_option linter.unusedVariables false
set_option maxRecDepth 100000


/-- How many have the state s. -/
def many (T : List Sg) (s : Int) : Nat := (T.filter fun x => x.st == s).length
theorem many_le (T : List Sg) (s : Int) : many T s ≤ T.length := List.length_filter_le _ _
theorem many_next (T : List Sg) (s : Int) {k : Nat} (h : k < T.length) : many (T.take (k + 1)) s = many (T.take k) s + (if T[k].st = s then 1 else 0) := by
  unfold many
  rw [List.take_succ_eq_append_getElem h, List.filter_append, List.length_append]
  congr 1
  by_cases e : T[k].st = s
  · simp [e]
  · simp [e]
theorem many_yes {T : List Sg} {s : Int} {k : Nat} (h : k < T.length) (e : T[k].st = s) : many (T.take (k + 1)) s = many (T.take k) s + 1 := by rw [many_next T s h, if_pos e]
theorem many_no {T : List Sg} {s : Int} {k : Nat} (h : k < T.length) (e : ¬ T[k].st = s) : many (T.take (k + 1)) s = many (T.take k) s := by rw [many_next T s h, if_neg e]; rfl
theorem many_few {T : List Sg} (h : T.length ≤ 65536) (s : Int) (k : Nat) : many (T.take k) s ≤ 65536 := by
  have h1 := many_le (T.take k) s
  have h3 : (T.take k).length ≤ T.length := by rw [List.length_take]; omega
  omega

section
variable {w : World} {g r : Nat} {T : List Sg}
set_option maxHeartbeats 800000 in
theorem many_any (s : Int) (h : Tb w g r T) : Calls Try.prog 17 #[.pointer (some ⟨g, 0, none⟩), .int .i64 s] w fun e w' => e = .returned (.int .i64 (many T s : Int)) ∧ Below w.heap.size w w' := by
  have H := Lib.hid h
  have c0 := h.box.cell 0
  have hl := h.few
  have MF := Lib.hid (many_few h.few s)
  clear h
  go_enter Try.func17, Try.ntmps17
  go_wp2_with fail
  go_loopg [5, 7, 13] T.length (fun gg s5 _ s13 wr => ∃ k : Nat, k ≤ T.length ∧ T.length - k ≤ gg ∧ s13 = .int .i64 (k : Int) ∧ s5 = .int .i64 (many (T.take k) s : Int) ∧ Below w.heap.size w wr)
  case atStart => exact ⟨0, Nat.zero_le _, by omega, rfl, by simp [many], Below.refl _ _⟩
  case round =>
    obtain ⟨k, hk0, hgg, rfl, rfl, hB⟩ := hrel
    by_cases hlt : k < T.length
    · have hk : k < T.length := hlt
      have hrow := (H.out.below hB).row.cell hk
      generalize hX : T[k] = x at hrow
      obtain ⟨xs, xl, xb⟩ := x
      have HC := Lib.hid hrow
      have BW := Lib.hid hB
      clear hrow hB
      go_wp2_with (first
        | (refine wpList_load_part rfl 33 (.tmp 15) rfl r (k * 3) (Sg.ag ⟨xs, xl, xb⟩) _ rfl (fun j hj => HC.out j hj) Try.underlying33 rfl seg_size ?_)
        | (refine wpList_store_part rfl 33 (.tmp 7) (.tmp 16) rfl wr.heap.size 0 33 Sg.zero.ag (Sg.ag ⟨xs, xl, xb⟩) rfl rfl (At.new _ _ rfl) seg_size (by show 0 + 3 ≤ 3; omega) (ag_one _) ?_))
      intro w2 hat hb
      rw [part_whole] at hat
      have B2 := Lib.hid (show Below w.heap.size w w2 from BW.out.trans ((((But.refl (fun k => k = wr.heap.size) wr).alloc _).trans hb (fun _ h _ => h)).below (fun k e => by have := BW.out.size; omega) BW.out.size))
      have e0 : w2.cell? ⟨wr.heap.size, 0, none⟩ = some (.int .i64 xs) := hat.cell 0
      have hm := MF.out k
      clear hat hb
      by_cases he : xs = s
      · have MY := Lib.hid (many_yes (s := s) hk (by rw [hX]; exact he))
        subst he
        clear hX
        go_wp2
        go_roundg (T.length - (k + 1))
        case measure => omega
        case rel => exact ⟨k + 1, by omega, Nat.le_refl _, by go_num, by rw [MY.out]; go_num, B2.out⟩
      · have MN := Lib.hid (many_no (s := s) hk (by rw [hX]; exact he))
        clear hX
        go_wp2
        go_roundg (T.length - (k + 1))
        case measure => omega
        case rel => exact ⟨k + 1, by omega, Nat.le_refl _, by go_num, by rw [MN.out], B2.out⟩
    · obtain rfl : k = T.length := by omega
      rw [List.take_of_length_le (Nat.le_refl _)]
      go_wp2
      go_ret
      exact ⟨rfl, hB⟩

/-- The first that is free, or -1. -/
def first (T : List Sg) : Int := match T.findIdx? (fun x => x.st == 0) with | some i => (i : Int) | none => -1
theorem first_at {T : List Sg} {k : Nat} (h : k < T.length) (hn : ∀ j, (h : j < k) → ¬ (T[j]'(by omega)).st = 0) (e : T[k].st = 0) : first T = (k : Int) := by
  have h1 : T.findIdx? (fun x => x.st == 0) = some k := by
    rw [List.findIdx?_eq_some_iff_getElem]
    exact ⟨h, by simpa using e, fun j hj => by simpa using hn j hj⟩
  unfold first
  rw [h1]
theorem first_none {T : List Sg} (hn : ∀ j, (h : j < T.length) → ¬ (T[j]).st = 0) : first T = -1 := by
  have h1 : T.findIdx? (fun x => x.st == 0) = none := by
    rw [List.findIdx?_eq_none_iff]
    intro x hx
    obtain ⟨j, hj, rfl⟩ := List.getElem_of_mem hx
    simpa using hn j hj
  unfold first
  rw [h1]
set_option maxHeartbeats 800000 in
theorem first_any (h : Tb w g r T) : Calls Try.prog 19 #[.pointer (some ⟨g, 0, none⟩)] w fun e w' => e = .returned (.int .i64 (first T)) ∧ Below w.heap.size w w' := by
  have H := Lib.hid h
  have c0 := h.box.cell 0
  have hl := h.few
  clear h
  go_enter Try.func19, Try.ntmps19
  go_wp2_with fail
  go_loopg [3, 4, 10] T.length (fun gg _ _ s10 wr => ∃ k : Nat, k ≤ T.length ∧ T.length - k ≤ gg ∧ s10 = .int .i64 (k : Int) ∧ (∀ j, j < k → ∀ h : j < T.length, ¬ (T[j]).st = 0) ∧ Below w.heap.size w wr)
  case atStart => exact ⟨0, Nat.zero_le _, by omega, rfl, fun j hj => by omega, Below.refl _ _⟩
  case round =>
    obtain ⟨k, hk0, hgg, rfl, hn, hB⟩ := hrel
    have HN := Lib.hid hn
    clear hn
    by_cases hlt : k < T.length
    · have hk : k < T.length := hlt
      have hrow := (H.out.below hB).row.cell hk
      generalize hX : T[k] = x at hrow
      obtain ⟨xs, xl, xb⟩ := x
      have HC := Lib.hid hrow
      have BW := Lib.hid hB
      clear hrow hB
      go_wp2_with (first
        | (refine wpList_load_part rfl 33 (.tmp 13) rfl r (k * 3) (Sg.ag ⟨xs, xl, xb⟩) _ rfl (fun j hj => HC.out j hj) Try.underlying33 rfl seg_size ?_)
        | (refine wpList_store_part rfl 33 (.tmp 4) (.tmp 14) rfl wr.heap.size 0 33 Sg.zero.ag (Sg.ag ⟨xs, xl, xb⟩) rfl rfl (At.new _ _ rfl) seg_size (by show 0 + 3 ≤ 3; omega) (ag_one _) ?_))
      intro w2 hat hb
      rw [part_whole] at hat
      have B2 := Lib.hid (show Below w.heap.size w w2 from BW.out.trans ((((But.refl (fun k => k = wr.heap.size) wr).alloc _).trans hb (fun _ h _ => h)).below (fun k e => by have := BW.out.size; omega) BW.out.size))
      have e0 : w2.cell? ⟨wr.heap.size, 0, none⟩ = some (.int .i64 xs) := hat.cell 0
      clear hat hb
      by_cases he : xs = 0
      · have FA := Lib.hid (first_at hk (fun j hj => HN.out j hj (by omega)) (by rw [hX]; exact he))
        subst he
        clear hX
        go_wp2
        go_ret
        rw [FA.out]
        exact ⟨rfl, B2.out⟩
      · have HN2 := Lib.hid (show ∀ j, j < k + 1 → ∀ h : j < T.length, ¬ (T[j]).st = 0 from fun j hj h e => by
          by_cases e2 : j = k
          · subst e2; rw [hX] at e; exact he e
          · exact HN.out j (by omega) h e)
        clear hX
        go_wp2
        go_roundg (T.length - (k + 1))
        case measure => omega
        case rel => exact ⟨k + 1, by omega, Nat.le_refl _, by go_num, HN2.out, B2.out⟩
    · obtain rfl : k = T.length := by omega
      have FN := Lib.hid (first_none (fun j hj => HN.out j hj hj))
      go_wp2
      go_ret
      rw [FN.out]
      exact ⟨rfl, hB⟩
end
end Go.Proofs.Ytpijapnidnkknaa
