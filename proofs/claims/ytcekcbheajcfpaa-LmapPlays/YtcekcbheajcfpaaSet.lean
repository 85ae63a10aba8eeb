/-
  THE WALKS OF blank, pageOf, Set.
-/
import Derived.Test.YtcekcbheajcfpaaLm
import Derived.Test.YtcekcbheajcfpaaEarly
import Derived.Deep.CutRange
namespace Go.Proofs.Ytcekcbheajcfpaa
open Go.RowKit
set_option linter.unusedVariables false
set_option maxRecDepth 100000


/-- The cells of a page of which k are written. -/
def half (k : Nat) : List Int := List.replicate k (-1) ++ List.replicate (16 - k) 0
theorem half_len {k : Nat} (h : k ≤ 16) : (half k).length = 16 := by simp [half]; omega
theorem half_next {k : Nat} (h : k < 16) : (ints (half k)).set k (.int .i64 (-1)) = ints (half (k + 1)) := by
  apply List.ext_getElem?
  intro j
  unfold ints half
  rw [List.getElem?_set]
  simp only [List.length_map, List.length_append, List.length_replicate, List.getElem?_map]
  by_cases e : k = j
  · subst e
    rw [if_pos rfl, if_pos (by omega), List.getElem?_append_left (by simp), List.getElem?_replicate, if_pos (by omega)]
    rfl
  · rw [if_neg e]
    rcases Nat.lt_or_ge j k with h1 | h1
    · rw [List.getElem?_append_left (by simpa using h1), List.getElem?_append_left (by simp; omega), List.getElem?_replicate, List.getElem?_replicate, if_pos h1, if_pos (by omega)]
    · rw [List.getElem?_append_right (by simpa using h1), List.getElem?_append_right (by simp; omega), List.getElem?_replicate, List.getElem?_replicate]
      simp only [List.length_replicate]
      by_cases h2 : j < 16
      · rw [if_pos (by omega), if_pos (by omega)]
      · rw [if_neg (by omega), if_neg (by omega)]
theorem half_full : half 16 = List.replicate 16 (-1) := rfl
theorem half_zero : (ints (half 0)).toArray = #[.int .i64 0, .int .i64 0, .int .i64 0, .int .i64 0, .int .i64 0, .int .i64 0, .int .i64 0, .int .i64 0, .int .i64 0, .int .i64 0, .int .i64 0, .int .i64 0, .int .i64 0, .int .i64 0, .int .i64 0, .int .i64 0] := rfl

set_option maxHeartbeats 800000 in
theorem blank_any (w : World) : Calls Try.prog 24 #[] w fun e w' => ∃ p, e = .returned (.pointer (some ⟨p, 0, none⟩)) ∧ w.heap.size ≤ p ∧ At w' p (ints (List.replicate 16 (-1))).toArray 62 ∧ Below w.heap.size w w' := by
  go_enter Try.func24, Try.ntmps24
  go_wp2_with fail
  go_loopg [2, 3] 16 (fun gg _ s3 wr => ∃ k : Nat, k ≤ 16 ∧ 16 - k ≤ gg ∧ s3 = .int .i64 (k : Int) ∧ At wr w.heap.size (ints (half k)).toArray 62 ∧ Below w.heap.size w wr)
  case atStart => exact ⟨0, by omega, by omega, rfl, At.new _ _ rfl, (Below.refl _ _).alloc (Nat.le_refl _) _⟩
  case round =>
    obtain ⟨k, hk0, hgg, rfl, hat, hB⟩ := hrel
    by_cases hlt : k < 16
    · have AT := Lib.hid hat
      have BW := Lib.hid hB
      obtain ⟨u, hu⟩ : ∃ u, (ints (half k)).toArray[k]? = some u := ⟨_, Array.getElem?_eq_getElem (by rw [List.size_toArray, ints_len, half_len hk0]; exact hlt)⟩
      have c1 := (hat.cell k).trans hu
      have f1 := hat.frozen k
      have N1 := hat.set k (.int .i64 (-1))
      rw [List.setIfInBounds_toArray, half_next hlt] at N1
      have NW := Lib.hid N1
      have B2 := Lib.hid (((But.refl (fun k => k = w.heap.size) wr).setCell (p := ⟨w.heap.size, k, none⟩) (fun _ => rfl) (.int .i64 (-1))))
      clear hat hB hu N1
      go_wp2
      go_roundg (16 - (k + 1))
      case measure => omega
      case rel => exact ⟨k + 1, by omega, Nat.le_refl _, by go_num, NW.out, BW.out.trans (B2.out.below (fun k e => Nat.le_of_eq e.symm) BW.out.size)⟩
    · obtain rfl : k = 16 := by omega
      go_wp2
      go_ret
      exact ⟨_, rfl, Nat.le_refl _, hat, hB⟩

theorem pg_blank {V : Nat → Int} {i : Nat} (h : ∀ j, j < 16 → V (i * 16 + j) = -1) : pg V i = List.replicate 16 (-1) := by
  apply List.ext_getElem
  · simp [pg]
  · intro j h1 h2
    rw [pg_len] at h1
    rw [List.getElem_replicate]
    simp [pg, h j h1]

/-- A page more: the row's pointer set. -/
theorem Lq.more {w w1 : World} {g r n : Nat} {Q : List (Option Nat)} {V : Nat → Int} (h : Lq w g r n Q V) {i p : Nat} (hi : Q[i]? = some none) (hp : w.heap.size ≤ p) (hat : At w1 p (ints (List.replicate 16 (-1))).toArray 62) (hb : Below w.heap.size w w1) :
    Lq (w1.setCell ⟨r, i, none⟩ (.pointer (some ⟨p, 0, none⟩))) g r n (Q.set i (some p)) V := by
  have il : i < Q.length := by rw [List.getElem?_eq_some_iff] at hi; exact hi.1
  have h1 := h.below hb
  have rl := h.row.lt
  have hget : ∀ (j q : Nat), (Q.set i (some p))[j]? = some (some q) → (j = i ∧ q = p) ∨ (j ≠ i ∧ Q[j]? = some (some q)) := by
    intro j q hq
    rw [List.getElem?_set] at hq
    by_cases e : i = j
    · rw [if_pos e, if_pos il] at hq
      injection hq with hq
      injection hq with hq
      exact .inl ⟨e.symm, hq.symm⟩
    · rw [if_neg e] at hq
      exact .inr ⟨fun x => e x.symm, hq⟩
  refine ⟨?_, ?_, by rw [List.length_set]; exact h.len, h.few, ?_, ?_, ?_, h.off, h.low⟩
  · rw [List.length_set]
    exact h1.box.other (p := ⟨r, i, none⟩) (fun e => h.ne e.symm) _
  · have := h1.row.set i (.pointer (some ⟨p, 0, none⟩))
    rw [List.setIfInBounds_toArray] at this
    rw [List.map_set]
    exact this
  · intro j q hq
    rcases hget j q hq with ⟨rfl, rfl⟩ | ⟨_, hq⟩
    · rw [pg_blank (h.blank _ hi)]
      exact hat.other (p := ⟨r, j, none⟩) (fun e => by have e : r = q := e; omega) _
    · exact (h1.page j q hq).other (p := ⟨r, i, none⟩) (fun e => h.ner hq e.symm) _
  · intro j hj k hk
    rw [List.getElem?_set] at hj
    by_cases e : i = j
    · rw [if_pos e, if_pos il] at hj
      cases hj
    · rw [if_neg e] at hj
      exact h.blank j hj k hk
  · intro a b q ha hb
    have hlt : ∀ j, Q[j]? = some (some q) → q < w.heap.size := fun j hj => (h.page j q hj).lt
    rcases hget a q ha with ⟨e1, e2⟩ | ⟨_, ha2⟩
    · rcases hget b q hb with ⟨e3, _⟩ | ⟨_, hb2⟩
      · rw [e1, e3]
      · have := hlt b hb2; omega
    · rcases hget b q hb with ⟨e3, e4⟩ | ⟨_, hb2⟩
      · have := hlt a ha2; omega
      · exact h.apart a b q ha2 hb2

set_option maxHeartbeats 1600000 in
theorem pageOf_any {w : World} {g r n k : Nat} {Q : List (Option Nat)} {V : Nat → Int} (hk : k < n) (h : Lq w g r n Q V) : Calls Try.prog 21 #[.pointer (some ⟨g, 0, none⟩), .int .i64 (k : Int)] w fun e w' =>
    ∃ p Q', e = .returned (.pointer (some ⟨p, 0, none⟩)) ∧ Q'[k / 16]? = some (some p) ∧ Lq w' g r n Q' V ∧ But (fun b => b = r) w w' ∧ (Q' = Q ∨ (Q[k / 16]? = some none ∧ w.heap.size ≤ p ∧ Q' = Q.set (k / 16) (some p))) := by
  have H := Lib.hid h
  have c1 := h.box.cell 1
  have hl := h.few
  have hq := h.nth hk
  obtain ⟨q, hqq⟩ : ∃ q, Q[k / 16]? = some q := ⟨_, List.getElem?_eq_getElem hq⟩
  have d0 := h.cell hqq
  have K16 := Lib.hid (show (k : Int) / 16 = ((k / 16 : Nat) : Int) by omega)
  clear h
  cases q with
  | some p =>
    have d1 : w.cell? ⟨r, k / 16, none⟩ = some (.pointer (some ⟨p, 0, none⟩)) := d0
    clear d0
    have QQ := Lib.hid hqq
    clear hqq
    generalize hQL : Q.length = m at *
    go_enter Try.func21, Try.ntmps21
    go_wp2
    go_ret
    exact ⟨p, Q, rfl, QQ.out, H.out, But.refl _ _, .inl rfl⟩
  | none =>
    have d1 : w.cell? ⟨r, k / 16, none⟩ = some (.pointer none) := d0
    clear d0
    have QQ := Lib.hid hqq
    clear hqq
    generalize hQL : Q.length = m at *
    go_enter Try.func21, Try.ntmps21
    go_wp2_with fail
    refine wp_region_early (fun w' => w'.cell? ⟨g, 1, none⟩ = some (.slice (some ⟨r, 0, none⟩) m m)) (fun i => i != 7) rfl ?_
    simp only [List.size_toArray, List.length_cons, List.length_nil]
    have S0 : (fun w' : World => w'.cell? ⟨g, 1, none⟩ = some (.slice (some ⟨r, 0, none⟩) m m)) w := c1
    refine early_take (i := 0) 16 (.pointer (some ⟨g, 0, none⟩)) rfl rfl (by kernel_rfl) (by kernel_rfl) (by kernel_rfl) (by kernel_rfl) rfl (fun _ _ _ h => h) (fun w' hw' => by go_simp) S0 ?_
    simp only [Act.put, List.setIfInBounds_toArray, List.set_cons_zero, List.set_cons_succ]
    refine early_take (i := 1) 17 (.pointer (some ⟨g, 0, none⟩)) rfl rfl (by kernel_rfl) (by kernel_rfl) (by kernel_rfl) (by kernel_rfl) rfl (fun _ _ _ h => h) (fun w' hw' => by go_simp) S0 ?_
    simp only [Act.put, List.setIfInBounds_toArray, List.set_cons_zero, List.set_cons_succ]
    refine early_take (i := 2) 18 (.pointer (some ⟨g, 1, none⟩)) rfl rfl (by kernel_rfl) (by kernel_rfl) (by kernel_rfl) (by kernel_rfl) rfl (fun _ _ _ h => h) (fun w' hw' => by go_simp) S0 ?_
    simp only [Act.put, List.setIfInBounds_toArray, List.set_cons_zero, List.set_cons_succ]
    refine early_take (i := 3) 19 (.slice (some ⟨r, 0, none⟩) m m) rfl rfl (by kernel_rfl) (by kernel_rfl) (by kernel_rfl) (by kernel_rfl) rfl (fun _ _ _ h => h) (fun w' hw' => by go_simp) S0 ?_
    simp only [Act.put, List.setIfInBounds_toArray, List.set_cons_zero, List.set_cons_succ]
    refine early_take (i := 4) 20 (.int .i64 ((k : Int) / 16)) rfl rfl (by kernel_rfl) (by kernel_rfl) (by kernel_rfl) (by kernel_rfl) rfl (fun _ _ _ h => h) (fun w' hw' => by go_simp) S0 ?_
    simp only [Act.put, List.setIfInBounds_toArray, List.set_cons_zero, List.set_cons_succ]
    refine early_only (i := 5) (by kernel_rfl) rfl (fun K hK => ?_)
    simp only [opWp, List.getElem?_toArray, List.getElem?_cons_succ, List.getElem?_cons_zero]
    go_simp
    go_at_call 24
    refine (blank_any _).mono ?_
    rintro e w1 ⟨p, rfl, hp, hat, hb0⟩
    have hb : Below w.heap.size w w1 := ⟨hb0.os, hb0.tape, hb0.output, hb0.size, hb0.block⟩
    have PL := Lib.hid (show w.heap.size ≤ p from hp)
    have S1 : (fun w' : World => w'.cell? ⟨g, 1, none⟩ = some (.slice (some ⟨r, 0, none⟩) m m)) w1 := (hb.cell (p := ⟨g, 1, none⟩) H.out.box.lt).trans c1
    have e1 : w1.cell? ⟨r, k / 16, none⟩ = some (.pointer none) := (hb.cell (p := ⟨r, k / 16, none⟩) H.out.row.lt).trans d1
    have f1 : w1.frozen? ⟨r, k / 16, none⟩ = false := At.frozen (H.out.below hb).row (k / 16)
    have M := Lib.hid (H.out.more QQ.out hp hat hb)
    have HR := Lib.hid (show w.heap.size ≤ w1.heap.size from hb.size)
    have BB := Lib.hid (((But.of_below (S := fun b => b = r) hb).setCell (p := ⟨r, k / 16, none⟩) (fun _ => rfl) (.pointer (some ⟨p, 0, none⟩))))
    clear hp hat hb hb0 S0
    refine hK _ _ (fun _ => S1) ?_
    refine early_take (i := 6) 22 (.pointer (some ⟨r, k / 16, none⟩)) rfl rfl (by kernel_rfl) (by kernel_rfl) (by kernel_rfl) (by kernel_rfl) rfl (fun _ _ _ h => h) (fun w' hw' => by go_simp; rw [if_pos (by omega), show ((k : Int) / 16).toNat = k / 16 by omega]) S1 ?_
    simp only [Act.put, List.setIfInBounds_toArray, List.set_cons_zero, List.set_cons_succ]
    refine early_only (i := 7) (by kernel_rfl) rfl (fun K hK => ?_)
    simp only [opWp, List.getElem?_toArray, List.getElem?_cons_succ, List.getElem?_cons_zero]
    go_simp
    refine hK _ _ (fun h => by simp at h) ?_
    refine early_done (by kernel_rfl) ?_
    have g1 : (w1.setCell ⟨r, k / 16, none⟩ (.pointer (some ⟨p, 0, none⟩))).cell? ⟨g, 1, none⟩ = some (.slice (some ⟨r, 0, none⟩) m m) := by
      have := M.out.box.cell 1
      rw [List.length_set, hQL] at this
      exact this
    have QG : (Q.set (k / 16) (some p))[k / 16]? = some (some p) := by rw [List.getElem?_set, if_pos rfl, if_pos (by omega)]
    have g2 : (w1.setCell ⟨r, k / 16, none⟩ (.pointer (some ⟨p, 0, none⟩))).cell? ⟨r, k / 16, none⟩ = some (.pointer (some ⟨p, 0, none⟩)) := M.out.cell QG
    have QH := Lib.hid QG
    clear hK S1 c1 d1 e1 f1 QG
    generalize (w1.setCell ⟨r, k / 16, none⟩ (.pointer (some ⟨p, 0, none⟩))) = w2 at *
    go_wp2
    go_ret
    exact ⟨p, _, rfl, QH.out, M.out, BB.out, .inr ⟨QQ.out, PL.out, rfl⟩⟩
end Go.Proofs.Ytcekcbheajcfpaa
