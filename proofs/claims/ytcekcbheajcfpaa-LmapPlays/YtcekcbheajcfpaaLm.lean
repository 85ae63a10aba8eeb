/-
  A MAP OF BLOCKS in memory: its box, its row of pages, its pages; has, Len, Get.
-/
import Derived.Test.YtcekcbheajcfpaaPart
import Derived.Deep.CutRange
namespace Go.Proofs.Ytcekcbheajcfpaa
open Go.RowKit
set_option linter.unusedVariables false
set_option maxRecDepth 100000


/-- Places, as the model holds them. -/
def ints (L : List Int) : List Value := L.map fun p => Value.int .i64 p
theorem ints_len (L : List Int) : (ints L).length = L.length := by simp [ints]
theorem ints_append (L M : List Int) : ints (L ++ M) = ints L ++ ints M := by simp [ints]
theorem ints_one (L : List Int) : ∀ u ∈ ints L, u.oneCell' = true := by
  intro u hu
  obtain ⟨x, _, rfl⟩ := List.mem_map.mp hu
  rfl
theorem ints_get {L : List Int} {k : Nat} (h : k < L.length) : (ints L)[k]? = some (.int .i64 L[k]) := by
  unfold ints
  rw [List.getElem?_map, List.getElem?_eq_getElem h]
  rfl

/-- The sixteen places of page i, where block k lies at V k. -/
def pg (V : Nat → Int) (i : Nat) : List Int := (List.range 16).map fun j => V (i * 16 + j)
theorem pg_len (V : Nat → Int) (i : Nat) : (pg V i).length = 16 := by simp [pg]
theorem pg_get (V : Nat → Int) (i : Nat) {j : Nat} (h : j < 16) : (ints (pg V i))[j]? = some (.int .i64 (V (i * 16 + j))) := by
  rw [ints_get (by rw [pg_len]; exact h)]
  simp [pg]
/-- A page's address, if there is one. -/
def ptr : Option Nat → Value
  | none => .pointer none
  | some p => .pointer (some ⟨p, 0, none⟩)
theorem ptr_one (q : Option Nat) : (ptr q).oneCell' = true := by cases q <;> rfl

/-- A map at block g: n blocks, its pages' addresses Q at block r, block k lies at V k. -/
structure Lq (w : World) (g r n : Nat) (Q : List (Option Nat)) (V : Nat → Int) : Prop where
  box : At w g #[.int .i64 n, .slice (some ⟨r, 0, none⟩) Q.length Q.length] 47
  row : At w r (Q.map ptr).toArray 52
  len : Q.length = (n + 15) / 16
  few : n ≤ 1048576
  page : ∀ (i : Nat) (p : Nat), Q[i]? = some (some p) → At w p (ints (pg V i)).toArray 62
  blank : ∀ (i : Nat), Q[i]? = some none → ∀ j, j < 16 → V (i * 16 + j) = -1
  apart : ∀ (i j p : Nat), Q[i]? = some (some p) → Q[j]? = some (some p) → i = j
  off : ∀ k, n ≤ k → V k = -1
  low : ∀ k, -1 ≤ V k ∧ V k ≤ 9223372036854775807
/-- The blocks that are its own. -/
def Mine (g r : Nat) (Q : List (Option Nat)) (k : Nat) : Prop := k = g ∨ k = r ∨ ∃ i : Nat, Q[i]? = some (some k)
section
variable {w w' : World} {g r n : Nat} {Q : List (Option Nat)} {V : Nat → Int} {S : Nat → Prop}
theorem Lq.lt (h : Lq w g r n Q V) {k : Nat} (hk : Mine g r Q k) : k < w.heap.size := by
  rcases hk with rfl | rfl | ⟨i, hi⟩
  · exact h.box.lt
  · exact h.row.lt
  · exact (h.page i k hi).lt
theorem at_type {w : World} {g : Nat} {a b : Array Value} {s t : TypeId} (h : At w g a s) (h' : At w g b t) : s = t := by
  unfold At at h h'
  rw [h] at h'
  injection h' with h'
  injection h'
theorem Lq.ne (h : Lq w g r n Q V) : g ≠ r := fun e => by subst e; exact absurd (at_type h.box h.row) (by decide)
theorem Lq.neg (h : Lq w g r n Q V) {i p : Nat} (hp : Q[i]? = some (some p)) : p ≠ g := fun e => by subst e; exact absurd (at_type h.box (h.page i _ hp)) (by decide)
theorem Lq.ner (h : Lq w g r n Q V) {i p : Nat} (hp : Q[i]? = some (some p)) : p ≠ r := fun e => by subst e; exact absurd (at_type h.row (h.page i _ hp)) (by decide)
theorem Lq.but (h : Lq w g r n Q V) (hb : But S w w') (hn : ∀ k, Mine g r Q k → ¬ S k) : Lq w' g r n Q V :=
  ⟨h.box.but hb (hn g (.inl rfl)), h.row.but hb (hn r (.inr (.inl rfl))), h.len, h.few, fun i p hp => (h.page i p hp).but hb (hn p (.inr (.inr ⟨i, hp⟩))), h.blank, h.apart, h.off, h.low⟩
theorem Lq.below (h : Lq w g r n Q V) (hb : Below w.heap.size w w') : Lq w' g r n Q V := h.but (S := fun _ => False) (But.of_below hb) (fun _ _ h => h)
theorem Lq.drewN (h : Lq w g r n Q V) (m : Nat) : Lq (w.drewN m) g r n Q V := ⟨h.box, h.row, h.len, h.few, h.page, h.blank, h.apart, h.off, h.low⟩
/-- The pointer to page i. -/
theorem Lq.cell (h : Lq w g r n Q V) {i : Nat} {q : Option Nat} (hi : Q[i]? = some q) : w.cell? ⟨r, i, none⟩ = some (ptr q) := by
  rw [h.row.cell, List.getElem?_toArray, List.getElem?_map, hi]
  rfl
theorem Lq.place (h : Lq w g r n Q V) {i p j : Nat} (hp : Q[i]? = some (some p)) (hj : j < 16) : w.cell? ⟨p, j, none⟩ = some (.int .i64 (V (i * 16 + j))) := by
  rw [(h.page i p hp).cell, List.getElem?_toArray, pg_get V i hj]
theorem Lq.nth (h : Lq w g r n Q V) {k : Nat} (hk : k < n) : k / 16 < Q.length := by rw [h.len]; omega
end

/-- Is there such a block? -/
abbrev Has_ (n : Nat) (i : Int) : Prop := 0 ≤ i ∧ i < (n : Int)
/-- Where block i lies; -1, if there is none such. -/
def lies (n : Nat) (V : Nat → Int) (i : Int) : Int := if Has_ n i then V i.toNat else -1
theorem lies_in {n k : Nat} (V : Nat → Int) (h : k < n) : lies n V (k : Int) = V k := by
  unfold lies
  rw [if_pos ⟨by omega, by omega⟩]
  simp
theorem lies_off {n : Nat} (V : Nat → Int) {i : Int} (h : ¬ Has_ n i) : lies n V i = -1 := if_neg h

section
variable {w : World} {g r n : Nat} {Q : List (Option Nat)} {V : Nat → Int}
set_option maxHeartbeats 400000 in
theorem has_any (i : Int) (h : Lq w g r n Q V) : Calls Try.prog 20 #[.pointer (some ⟨g, 0, none⟩), .int .i64 i] w fun e w' => e = .returned (.bool (decide (Has_ n i))) ∧ w' = w := by
  have c0 := h.box.cell 0
  have hl := h.few
  clear h
  unfold Has_
  by_cases h0 : 0 ≤ i
  · by_cases h1 : i < (n : Int)
    · have hd : decide (i < (n : Int)) = true := by simpa using h1
      have he : decide (0 ≤ i ∧ i < (n : Int)) = true := by simpa using ⟨h0, h1⟩
      rw [he]
      go_enter Try.func20, Try.ntmps20
      go_wp2
      go_ret
      exact ⟨rfl, rfl⟩
    · have he : decide (0 ≤ i ∧ i < (n : Int)) = false := by simp; omega
      rw [he]
      go_enter Try.func20, Try.ntmps20
      go_wp2
      go_ret
      exact ⟨rfl, rfl⟩
  · have he : decide (0 ≤ i ∧ i < (n : Int)) = false := by simp; omega
    rw [he]
    go_enter Try.func20, Try.ntmps20
    go_wp2
    go_ret
    exact ⟨rfl, rfl⟩
set_option maxHeartbeats 400000 in
theorem len_any (h : Lq w g r n Q V) : Calls Try.prog 14 #[.pointer (some ⟨g, 0, none⟩)] w fun e w' => e = .returned (.int .i64 (n : Int)) ∧ w' = w := by
  have c0 := h.box.cell 0
  have hl := h.few
  clear h
  go_enter Try.func14, Try.ntmps14
  go_wp2
  go_ret
  exact ⟨rfl, rfl⟩
set_option maxHeartbeats 800000 in
theorem get_any (i : Int) (h : Lq w g r n Q V) : Calls Try.prog 12 #[.pointer (some ⟨g, 0, none⟩), .int .i64 i] w fun e w' => e = .returned (.int .i64 (lies n V i)) ∧ w' = w := by
  have H := Lib.hid h
  have c1 := h.box.cell 1
  have hl := h.few
  have hlen := Lib.hid h.len
  clear h
  go_enter Try.func12, Try.ntmps12
  go_wp2_with fail
  refine (has_any i H.out).mono ?_
  rintro e w1 ⟨rfl, hw1⟩
  subst hw1
  by_cases hi : Has_ n i
  · have hd : decide (Has_ n i) = true := by simpa using hi
    rw [hd]
    obtain ⟨k, rfl⟩ : ∃ k : Nat, i = (k : Int) := ⟨i.toNat, by have := hi.1; omega⟩
    have hk : k < n := by have := hi.2; omega
    have L := Lib.hid (lies_in V hk)
    have hq := H.out.nth hk
    obtain ⟨q, hqq⟩ : ∃ q, Q[k / 16]? = some q := ⟨_, List.getElem?_eq_getElem hq⟩
    have d0 := H.out.cell hqq
    have e16 : k / 16 * 16 + k % 16 = k := by omega
    clear hi hd
    generalize hQL : Q.length = m at *
    cases q with
    | none =>
      have hv := H.out.blank _ hqq (k % 16) (by omega)
      rw [e16] at hv
      have HV := Lib.hid hv
      clear hv
      have d1 : w1.cell? ⟨r, k / 16, none⟩ = some (.pointer none) := d0
      clear d0
      go_wp2
      go_ret
      rw [L.out, HV.out]
      exact ⟨rfl, rfl⟩
    | some p =>
      have d2 := H.out.place hqq (j := k % 16) (by omega)
      rw [e16] at d2
      have d1 : w1.cell? ⟨r, k / 16, none⟩ = some (.pointer (some ⟨p, 0, none⟩)) := d0
      clear d0
      generalize V k = v at *
      go_wp2
      go_ret
      rw [L.out]
      exact ⟨rfl, rfl⟩
  · have hd : decide (Has_ n i) = false := by simpa using hi
    have L := Lib.hid (lies_off V hi)
    rw [hd]
    clear hi hd
    go_wp2
    go_ret
    rw [L.out]
    exact ⟨rfl, rfl⟩
end
end Go.Proofs.Ytcekcbheajcfpaa
