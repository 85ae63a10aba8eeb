/-
  TEXTS JOINED: L12Loops, L13Foot, L13Part, L13Lm, L13Early.
-/
import Derived.Test.YtplmdmchkaacoaaGreatJ23
import Derived.Test.YtplmdmchkaacoaaGreatJ20
import Derived.Test.YtplmdmchkaacoaaGreatJ22
import Derived.Deep.CutRange
import Derived.Test.YtplmdmchkaacoaaGreatRows
import Derived.WalkKit
import Derived.ProofKit
import Derived.Laws.OwnMore
import Derived.Laws.Rows
import Derived.Deep.Draws
import Derived.Below
import Derived.Lib.Hide
import Derived.Lib.SliceRun
import Derived.Deep.QuietTactic
import Derived.Deep.AppendLies
import Derived.Maps.AppendAt
import Derived.Laws.AppendOwnNone
import Derived.Lib.QuietBelow
import Derived.BigQuiet
import Derived.Deep.MidRow
import Derived.Deep.WholeRow
import Derived.Laws.ResultCell
import Derived.OrdersHeld

/-
  THE WALKS OF Many, First, Dead, Clear.
-/
namespace Go.Proofs.YtplmdmchkaacoaaGreat.L12
open Go.RowKit
set_option linter.unusedVariables false
set_option maxRecDepth 100000


/-- How many have the state s. -/
def many (T : List Sg) (s : Int) : Nat := (T.filter fun x => x.st == s).length
theorem many_le (T : List Sg) (s : Int) : many T s ≤ T.length := List.length_filter_le _ _
theorem many_next (T : List Sg) (s : Int) {k : Nat} (h : k < T.length) : many (T.take (k + 1)) s = many (T.take k) s + (if T[k].st = s then 1 else 0) := by
  unfold many
  rw [List.take_succ_eq_append_getElem h, List.filter_append, List.length_append]
  congr 1
  by_cases e : T[k].st = s
  · simp [e]
  · simp [e]
theorem many_yes {T : List Sg} {s : Int} {k : Nat} (h : k < T.length) (e : T[k].st = s) : many (T.take (k + 1)) s = many (T.take k) s + 1 := by rw [many_next T s h, if_pos e]
theorem many_no {T : List Sg} {s : Int} {k : Nat} (h : k < T.length) (e : ¬ T[k].st = s) : many (T.take (k + 1)) s = many (T.take k) s := by rw [many_next T s h, if_neg e]; rfl
theorem many_few {T : List Sg} (h : T.length ≤ 65536) (s : Int) (k : Nat) : many (T.take k) s ≤ 65536 := by
  have h1 := many_le (T.take k) s
  have h3 : (T.take k).length ≤ T.length := by rw [List.length_take]; omega
  omega

section
variable {w : World} {g r : Nat} {T : List Sg}
set_option maxHeartbeats 800000 in
theorem many_any (s : Int) (h : Tb w g r T) : Calls Tryz.prog 88 #[.pointer (some ⟨g, 0, none⟩), .int .i64 s] w fun e w' => e = .returned (.int .i64 (many T s : Int)) ∧ Below w.heap.size w w' := by
  have H := Lib.hid h
  have c0 := h.box.cell 0
  have hl := h.few
  have MF := Lib.hid (many_few h.few s)
  clear h
  go_enter Tryz.func88, Tryz.ntmps88
  go_wp2_with fail
  go_loopg [5, 7, 13] T.length (fun gg s5 _ s13 wr => ∃ k : Nat, k ≤ T.length ∧ T.length - k ≤ gg ∧ s13 = .int .i64 (k : Int) ∧ s5 = .int .i64 (many (T.take k) s : Int) ∧ Below w.heap.size w wr)
  case atStart => exact ⟨0, Nat.zero_le _, by omega, rfl, by simp [many], Below.refl _ _⟩
  case round =>
    obtain ⟨k, hk0, hgg, rfl, rfl, hB⟩ := hrel
    by_cases hlt : k < T.length
    · have hk : k < T.length := hlt
      have hrow := (H.out.below hB).row.cell hk
      generalize hX : T[k] = x at hrow
      obtain ⟨xs, xl, xb⟩ := x
      have HC := Lib.hid hrow
      have BW := Lib.hid hB
      clear hrow hB
      go_wp2_with (first
        | (refine wpList_load_part rfl 108 (.tmp 15) rfl r (k * 3) (Sg.ag ⟨xs, xl, xb⟩) _ rfl (fun j hj => HC.out j hj) Tryz.underlying108 rfl seg_size ?_)
        | (refine wpList_store_part rfl 108 (.tmp 7) (.tmp 16) rfl wr.heap.size 0 108 Sg.zero.ag (Sg.ag ⟨xs, xl, xb⟩) rfl rfl (At.new _ _ rfl) seg_size (by show 0 + 3 ≤ 3; omega) (ag_one _) ?_))
      intro w2 hat hb
      rw [part_whole] at hat
      have B2 := Lib.hid (show Below w.heap.size w w2 from BW.out.trans ((((But.refl (fun k => k = wr.heap.size) wr).alloc _).trans hb (fun _ h _ => h)).below (fun k e => by have := BW.out.size; omega) BW.out.size))
      have e0 : w2.cell? ⟨wr.heap.size, 0, none⟩ = some (.int .i64 xs) := hat.cell 0
      have hm := MF.out k
      clear hat hb
      by_cases he : xs = s
      · have MY := Lib.hid (many_yes (s := s) hk (by rw [hX]; exact he))
        subst he
        clear hX
        go_wp2
        go_roundg (T.length - (k + 1))
        case measure => omega
        case rel => exact ⟨k + 1, by omega, Nat.le_refl _, by go_num, by rw [MY.out]; go_num, B2.out⟩
      · have MN := Lib.hid (many_no (s := s) hk (by rw [hX]; exact he))
        clear hX
        go_wp2
        go_roundg (T.length - (k + 1))
        case measure => omega
        case rel => exact ⟨k + 1, by omega, Nat.le_refl _, by go_num, by rw [MN.out], B2.out⟩
    · obtain rfl : k = T.length := by omega
      rw [List.take_of_length_le (Nat.le_refl _)]
      go_wp2
      go_ret
      exact ⟨rfl, hB⟩

/-- The first that is free, or -1. -/
def first (T : List Sg) : Int := match T.findIdx? (fun x => x.st == 0) with | some i => (i : Int) | none => -1
theorem first_at {T : List Sg} {k : Nat} (h : k < T.length) (hn : ∀ j, (h : j < k) → ¬ (T[j]'(by omega)).st = 0) (e : T[k].st = 0) : first T = (k : Int) := by
  have h1 : T.findIdx? (fun x => x.st == 0) = some k := by
    rw [List.findIdx?_eq_some_iff_getElem]
    exact ⟨h, by simpa using e, fun j hj => by simpa using hn j hj⟩
  unfold first
  rw [h1]
theorem first_none {T : List Sg} (hn : ∀ j, (h : j < T.length) → ¬ (T[j]).st = 0) : first T = -1 := by
  have h1 : T.findIdx? (fun x => x.st == 0) = none := by
    rw [List.findIdx?_eq_none_iff]
    intro x hx
    obtain ⟨j, hj, rfl⟩ := List.getElem_of_mem hx
    simpa using hn j hj
  unfold first
  rw [h1]
set_option maxHeartbeats 800000 in
theorem first_any (h : Tb w g r T) : Calls Tryz.prog 122 #[.pointer (some ⟨g, 0, none⟩)] w fun e w' => e = .returned (.int .i64 (first T)) ∧ Below w.heap.size w w' := by
  have H := Lib.hid h
  have c0 := h.box.cell 0
  have hl := h.few
  clear h
  go_enter Tryz.func122, Tryz.ntmps122
  go_wp2_with fail
  go_loopg [3, 4, 10] T.length (fun gg _ _ s10 wr => ∃ k : Nat, k ≤ T.length ∧ T.length - k ≤ gg ∧ s10 = .int .i64 (k : Int) ∧ (∀ j, j < k → ∀ h : j < T.length, ¬ (T[j]).st = 0) ∧ Below w.heap.size w wr)
  case atStart => exact ⟨0, Nat.zero_le _, by omega, rfl, fun j hj => by omega, Below.refl _ _⟩
  case round =>
    obtain ⟨k, hk0, hgg, rfl, hn, hB⟩ := hrel
    have HN := Lib.hid hn
    clear hn
    by_cases hlt : k < T.length
    · have hk : k < T.length := hlt
      have hrow := (H.out.below hB).row.cell hk
      generalize hX : T[k] = x at hrow
      obtain ⟨xs, xl, xb⟩ := x
      have HC := Lib.hid hrow
      have BW := Lib.hid hB
      clear hrow hB
      go_wp2_with (first
        | (refine wpList_load_part rfl 108 (.tmp 13) rfl r (k * 3) (Sg.ag ⟨xs, xl, xb⟩) _ rfl (fun j hj => HC.out j hj) Tryz.underlying108 rfl seg_size ?_)
        | (refine wpList_store_part rfl 108 (.tmp 4) (.tmp 14) rfl wr.heap.size 0 108 Sg.zero.ag (Sg.ag ⟨xs, xl, xb⟩) rfl rfl (At.new _ _ rfl) seg_size (by show 0 + 3 ≤ 3; omega) (ag_one _) ?_))
      intro w2 hat hb
      rw [part_whole] at hat
      have B2 := Lib.hid (show Below w.heap.size w w2 from BW.out.trans ((((But.refl (fun k => k = wr.heap.size) wr).alloc _).trans hb (fun _ h _ => h)).below (fun k e => by have := BW.out.size; omega) BW.out.size))
      have e0 : w2.cell? ⟨wr.heap.size, 0, none⟩ = some (.int .i64 xs) := hat.cell 0
      clear hat hb
      by_cases he : xs = 0
      · have FA := Lib.hid (first_at hk (fun j hj => HN.out j hj (by omega)) (by rw [hX]; exact he))
        subst he
        clear hX
        go_wp2
        go_ret
        rw [FA.out]
        exact ⟨rfl, B2.out⟩
      · have HN2 := Lib.hid (show ∀ j, j < k + 1 → ∀ h : j < T.length, ¬ (T[j]).st = 0 from fun j hj h e => by
          by_cases e2 : j = k
          · subst e2; rw [hX] at e; exact he e
          · exact HN.out j (by omega) h e)
        clear hX
        go_wp2
        go_roundg (T.length - (k + 1))
        case measure => omega
        case rel => exact ⟨k + 1, by omega, Nat.le_refl _, by go_num, HN2.out, B2.out⟩
    · obtain rfl : k = T.length := by omega
      have FN := Lib.hid (first_none (fun j hj => HN.out j hj hj))
      go_wp2
      go_ret
      rw [FN.out]
      exact ⟨rfl, hB⟩
end
end Go.Proofs.YtplmdmchkaacoaaGreat.L12

/-
  WHAT A CALL MAY TURN: only the blocks that a set names, of those that were there; a block of its own.
-/
namespace Go.Proofs.YtplmdmchkaacoaaGreat.L13
set_option maxRecDepth 100000
open Go.RowKit
set_option linter.unusedVariables false

section
variable {S T : Nat → Prop} {a b c w w' : World}

end

theorem up {B : Nat} {w w' : World} (hb : Below w.heap.size w w') (hB : w.heap.size = B) : B ≤ w'.heap.size := by have := hb.size; omega
theorem below_drewN {B : Nat} {w w' : World} (h : Below B w w') (n : Nat) : Below B w (w'.drewN n) := ⟨h.os, h.tape, h.output, h.size, h.block⟩

end Go.Proofs.YtplmdmchkaacoaaGreat.L13

/-
  STRUCTS OF SEVERAL CELLS, stored into a block, loaded out of it.
-/
namespace Go.Proofs.YtplmdmchkaacoaaGreat.L13
open Go.RowKit
set_option linter.unusedVariables false
set_option maxRecDepth 100000

end Go.Proofs.YtplmdmchkaacoaaGreat.L13

/-
  A MAP OF BLOCKS in memory: its box, its row of pages, its pages; has, Len, Get.
-/
namespace Go.Proofs.YtplmdmchkaacoaaGreat.L13
open Go.RowKit
set_option linter.unusedVariables false
set_option maxRecDepth 100000


/-- Places, as the model holds them. -/
def ints (L : List Int) : List Value := L.map fun p => Value.int .i64 p
theorem ints_len (L : List Int) : (ints L).length = L.length := by simp [ints]
theorem ints_append (L M : List Int) : ints (L ++ M) = ints L ++ ints M := by simp [ints]
theorem ints_one (L : List Int) : ∀ u ∈ ints L, u.oneCell' = true := by
  intro u hu
  obtain ⟨x, _, rfl⟩ := List.mem_map.mp hu
  rfl
theorem ints_get {L : List Int} {k : Nat} (h : k < L.length) : (ints L)[k]? = some (.int .i64 L[k]) := by
  unfold ints
  rw [List.getElem?_map, List.getElem?_eq_getElem h]
  rfl

/-- The sixteen places of page i, where block k lies at V k. -/
def pg (V : Nat → Int) (i : Nat) : List Int := (List.range 16).map fun j => V (i * 16 + j)
theorem pg_len (V : Nat → Int) (i : Nat) : (pg V i).length = 16 := by simp [pg]
theorem pg_get (V : Nat → Int) (i : Nat) {j : Nat} (h : j < 16) : (ints (pg V i))[j]? = some (.int .i64 (V (i * 16 + j))) := by
  rw [ints_get (by rw [pg_len]; exact h)]
  simp [pg]
/-- A page's address, if there is one. -/
def ptr : Option Nat → Value
  | none => .pointer none
  | some p => .pointer (some ⟨p, 0, none⟩)
theorem ptr_one (q : Option Nat) : (ptr q).oneCell' = true := by cases q <;> rfl

/-- A map at block g: n blocks, its pages' addresses Q at block r, block k lies at V k. -/
structure Lq (w : World) (g r n : Nat) (Q : List (Option Nat)) (V : Nat → Int) : Prop where
  box : At w g #[.int .i64 n, .slice (some ⟨r, 0, none⟩) Q.length Q.length] 157
  row : At w r (Q.map ptr).toArray 154
  len : Q.length = (n + 15) / 16
  few : n ≤ 1048576
  page : ∀ (i : Nat) (p : Nat), Q[i]? = some (some p) → At w p (ints (pg V i)).toArray 216
  blank : ∀ (i : Nat), Q[i]? = some none → ∀ j, j < 16 → V (i * 16 + j) = -1
  apart : ∀ (i j p : Nat), Q[i]? = some (some p) → Q[j]? = some (some p) → i = j
  off : ∀ k, n ≤ k → V k = -1
  low : ∀ k, -1 ≤ V k ∧ V k ≤ 9223372036854775807
/-- The blocks that are its own. -/
def Mine (g r : Nat) (Q : List (Option Nat)) (k : Nat) : Prop := k = g ∨ k = r ∨ ∃ i : Nat, Q[i]? = some (some k)
section
variable {w w' : World} {g r n : Nat} {Q : List (Option Nat)} {V : Nat → Int} {S : Nat → Prop}
theorem Lq.lt (h : Lq w g r n Q V) {k : Nat} (hk : Mine g r Q k) : k < w.heap.size := by
  rcases hk with rfl | rfl | ⟨i, hi⟩
  · exact h.box.lt
  · exact h.row.lt
  · exact (h.page i k hi).lt
theorem at_type {w : World} {g : Nat} {a b : Array Value} {s t : TypeId} (h : At w g a s) (h' : At w g b t) : s = t := by
  unfold At at h h'
  rw [h] at h'
  injection h' with h'
  injection h'
theorem Lq.ne (h : Lq w g r n Q V) : g ≠ r := fun e => by subst e; exact absurd (at_type h.box h.row) (by decide)
theorem Lq.neg (h : Lq w g r n Q V) {i p : Nat} (hp : Q[i]? = some (some p)) : p ≠ g := fun e => by subst e; exact absurd (at_type h.box (h.page i _ hp)) (by decide)
theorem Lq.ner (h : Lq w g r n Q V) {i p : Nat} (hp : Q[i]? = some (some p)) : p ≠ r := fun e => by subst e; exact absurd (at_type h.row (h.page i _ hp)) (by decide)
theorem Lq.but (h : Lq w g r n Q V) (hb : But S w w') (hn : ∀ k, Mine g r Q k → ¬ S k) : Lq w' g r n Q V :=
  ⟨h.box.but hb (hn g (.inl rfl)), h.row.but hb (hn r (.inr (.inl rfl))), h.len, h.few, fun i p hp => (h.page i p hp).but hb (hn p (.inr (.inr ⟨i, hp⟩))), h.blank, h.apart, h.off, h.low⟩
theorem Lq.below (h : Lq w g r n Q V) (hb : Below w.heap.size w w') : Lq w' g r n Q V := h.but (S := fun _ => False) (But.of_below hb) (fun _ _ h => h)
theorem Lq.drewN (h : Lq w g r n Q V) (m : Nat) : Lq (w.drewN m) g r n Q V := ⟨h.box, h.row, h.len, h.few, h.page, h.blank, h.apart, h.off, h.low⟩
/-- The pointer to page i. -/
theorem Lq.cell (h : Lq w g r n Q V) {i : Nat} {q : Option Nat} (hi : Q[i]? = some q) : w.cell? ⟨r, i, none⟩ = some (ptr q) := by
  rw [h.row.cell, List.getElem?_toArray, List.getElem?_map, hi]
  rfl
theorem Lq.place (h : Lq w g r n Q V) {i p j : Nat} (hp : Q[i]? = some (some p)) (hj : j < 16) : w.cell? ⟨p, j, none⟩ = some (.int .i64 (V (i * 16 + j))) := by
  rw [(h.page i p hp).cell, List.getElem?_toArray, pg_get V i hj]
theorem Lq.nth (h : Lq w g r n Q V) {k : Nat} (hk : k < n) : k / 16 < Q.length := by rw [h.len]; omega
end

/-- Is there such a block? -/
abbrev Has_ (n : Nat) (i : Int) : Prop := 0 ≤ i ∧ i < (n : Int)
/-- Where block i lies; -1, if there is none such. -/
def lies (n : Nat) (V : Nat → Int) (i : Int) : Int := if Has_ n i then V i.toNat else -1
theorem lies_in {n k : Nat} (V : Nat → Int) (h : k < n) : lies n V (k : Int) = V k := by
  unfold lies
  rw [if_pos ⟨by omega, by omega⟩]
  simp
theorem lies_off {n : Nat} (V : Nat → Int) {i : Int} (h : ¬ Has_ n i) : lies n V i = -1 := if_neg h

section
variable {w : World} {g r n : Nat} {Q : List (Option Nat)} {V : Nat → Int}
set_option maxHeartbeats 400000 in
theorem has_any (i : Int) (h : Lq w g r n Q V) : Calls Tryz.prog 96 #[.pointer (some ⟨g, 0, none⟩), .int .i64 i] w fun e w' => e = .returned (.bool (decide (Has_ n i))) ∧ w' = w := by
  have c0 := h.box.cell 0
  have hl := h.few
  clear h
  unfold Has_
  by_cases h0 : 0 ≤ i
  · by_cases h1 : i < (n : Int)
    · have hd : decide (i < (n : Int)) = true := by simpa using h1
      have he : decide (0 ≤ i ∧ i < (n : Int)) = true := by simpa using ⟨h0, h1⟩
      rw [he]
      go_enter Tryz.func96, Tryz.ntmps96
      go_wp2
      go_ret
      exact ⟨rfl, rfl⟩
    · have he : decide (0 ≤ i ∧ i < (n : Int)) = false := by simp; omega
      rw [he]
      go_enter Tryz.func96, Tryz.ntmps96
      go_wp2
      go_ret
      exact ⟨rfl, rfl⟩
  · have he : decide (0 ≤ i ∧ i < (n : Int)) = false := by simp; omega
    rw [he]
    go_enter Tryz.func96, Tryz.ntmps96
    go_wp2
    go_ret
    exact ⟨rfl, rfl⟩
set_option maxHeartbeats 400000 in
theorem len_any (h : Lq w g r n Q V) : Calls Tryz.prog 142 #[.pointer (some ⟨g, 0, none⟩)] w fun e w' => e = .returned (.int .i64 (n : Int)) ∧ w' = w := by
  have c0 := h.box.cell 0
  have hl := h.few
  clear h
  go_enter Tryz.func142, Tryz.ntmps142
  go_wp2
  go_ret
  exact ⟨rfl, rfl⟩
set_option maxHeartbeats 800000 in
theorem get_any (i : Int) (h : Lq w g r n Q V) : Calls Tryz.prog 44 #[.pointer (some ⟨g, 0, none⟩), .int .i64 i] w fun e w' => e = .returned (.int .i64 (lies n V i)) ∧ w' = w := by
  have H := Lib.hid h
  have c1 := h.box.cell 1
  have hl := h.few
  have hlen := Lib.hid h.len
  clear h
  go_enter Tryz.func44, Tryz.ntmps44
  go_wp2_with fail
  refine (has_any i H.out).mono ?_
  rintro e w1 ⟨rfl, hw1⟩
  subst hw1
  by_cases hi : Has_ n i
  · have hd : decide (Has_ n i) = true := by simpa using hi
    rw [hd]
    obtain ⟨k, rfl⟩ : ∃ k : Nat, i = (k : Int) := ⟨i.toNat, by have := hi.1; omega⟩
    have hk : k < n := by have := hi.2; omega
    have L := Lib.hid (lies_in V hk)
    have hq := H.out.nth hk
    obtain ⟨q, hqq⟩ : ∃ q, Q[k / 16]? = some q := ⟨_, List.getElem?_eq_getElem hq⟩
    have d0 := H.out.cell hqq
    have e16 : k / 16 * 16 + k % 16 = k := by omega
    clear hi hd
    generalize hQL : Q.length = m at *
    cases q with
    | none =>
      have hv := H.out.blank _ hqq (k % 16) (by omega)
      rw [e16] at hv
      have HV := Lib.hid hv
      clear hv
      have d1 : w1.cell? ⟨r, k / 16, none⟩ = some (.pointer none) := d0
      clear d0
      go_wp2
      go_ret
      rw [L.out, HV.out]
      exact ⟨rfl, rfl⟩
    | some p =>
      have d2 := H.out.place hqq (j := k % 16) (by omega)
      rw [e16] at d2
      have d1 : w1.cell? ⟨r, k / 16, none⟩ = some (.pointer (some ⟨p, 0, none⟩)) := d0
      clear d0
      generalize V k = v at *
      go_wp2
      go_ret
      rw [L.out]
      exact ⟨rfl, rfl⟩
  · have hd : decide (Has_ n i) = false := by simpa using hi
    have L := Lib.hid (lies_off V hi)
    rw [hd]
    clear hi hd
    go_wp2
    go_ret
    rw [L.out]
    exact ⟨rfl, rfl⟩
end
end Go.Proofs.YtplmdmchkaacoaaGreat.L13

/-
  A REGION THAT DRAWS ITS ORDER AND ENDS IN A STORE TO A CELL THAT IT LOADS: the load may be taken first, if what it reads holds behind every operation that may come before it; of those that wait for the load (the store) nothing is asked.
-/
namespace Go.Proofs.YtplmdmchkaacoaaGreat.L13
set_option maxRecDepth 100000
open Go

section
variable {P : Program} {ops : Array Oper} {Q : Exit → Act → World → Prop} {md : Region.Mode} {S : World → Prop} {E : Nat → Bool}

end

end Go.Proofs.YtplmdmchkaacoaaGreat.L13
