/-
  THE WALKS OF slices.Equal over entries, enough, wrong, IndexFunc and ContainsFunc over entries.
-/
import Derived.Test.YtmdgnglefikpjaaErs
import Derived.Test.YtmdgnglefikpjaaZeros
namespace Go.Proofs.Ytmdgnglefikpjaa
open Go.RowKit
set_option linter.unusedVariables false
set_option maxRecDepth 100000


def Alike (p : Prop) (w : World) (e : Ending) (w' : World) : Prop := ∃ d : Bool, e = .returned (.bool d) ∧ (d = true ↔ p) ∧ ∃ m, w' = w.drewN m

theorem en_next {l k : List En} {j : Nat} (hl : j < l.length) (hk : j < k.length) (h : l[j] = k[j]) (e : l.take j = k.take j) : l.take (j + 1) = k.take (j + 1) := by
  rw [List.take_succ_eq_append_getElem hl, List.take_succ_eq_append_getElem hk, e, h]
theorem en_differ {l k : List En} {j : Nat} (hl : j < l.length) (hk : j < k.length) (h : ¬ l[j] = k[j]) : ¬ l = k := by
  rintro rfl
  exact h rfl
theorem en_all {l k : List En} {j : Nat} (hl : l.length = j) (hk : k.length = j) (e : l.take j = k.take j) : l = k := by
  rwa [List.take_of_length_le (by omega), List.take_of_length_le (by omega)] at e

set_option maxHeartbeats 800000 in
theorem eequal_any (A B : Option Addr) (n m c d : Nat) (l k : List En) (w : World) (hn : n ≤ 1000000) (hm : m ≤ 1000000) (h : Ers w A n l) (g : Ers w B m k) :
    Calls Try.prog 27 #[.slice A n c, .slice B m d] w (Alike (l = k) w) := by
  by_cases hnm : n = m
  · subst hnm
    have H := Lib.hid h
    have G := Lib.hid g
    clear h g
    go_enter Try.func27, Try.ntmps27
    go_wp2
    go_loopw [13] (fun i wr => ∃ j q : Nat, j ≤ n ∧ i = .int .i64 j ∧ wr = w.drewN q ∧ l.take j = k.take j) (fun i _ => n - (intOf i).toNat)
    case atStart => exact ⟨0, 0, Nat.zero_le _, rfl, rfl, rfl⟩
    case round =>
      obtain ⟨j, q, hj, rfl, rfl, hlk⟩ := hrel
      have HK := Lib.hid hlk
      clear hlk
      by_cases hlt : j < n
      · obtain ⟨b, off, rfl⟩ := H.out.some_ (by omega)
        obtain ⟨b2, off2, rfl⟩ := G.out.some_ (by omega)
        have hjl : j < l.length := by rw [H.out.1]; omega
        have hjk : j < k.length := by rw [G.out.1]; omega
        obtain ⟨hc, hc'⟩ := H.out.cell j (by omega)
        obtain ⟨hd, hd'⟩ := G.out.cell j (by omega)
        by_cases he : l[j] = k[j]
        · have hq := fun w => ent_neq_no (k[j].k : Int) (k[j].b : Int) w
          rw [he] at hc hc'
          have HE := Lib.hid he
          clear he
          go_wp2
          go_quiet (fail)
          go_wp2
          go_roundw
          case rel => exact ⟨j + 1, _, by omega, by go_num, rfl, en_next hjl hjk HE.out HK.out⟩
          case measure => simp [intOf]; omega
        · have hq := fun w => ent_neq_yes (k := (l[j].k : Int)) (b := (l[j].b : Int)) (k' := (k[j].k : Int)) (b' := (k[j].b : Int)) (fun h => he (En.ext2 (by omega) (by omega))) w
          have HE := Lib.hid he
          clear he
          go_wp2
          go_quiet (fail)
          go_wp2
          go_ret
          exact ⟨_, rfl, ⟨fun h => (by cases h), fun h => (en_differ hjl hjk HE.out h).elim⟩, _, World.drewN_drewN _ _ _⟩
      · have e : j = n := by omega
        subst e
        go_wp2
        go_ret
        exact ⟨_, rfl, ⟨fun _ => en_all H.out.1 G.out.1 HK.out, fun _ => rfl⟩, _, rfl⟩
  · have hd : ¬ l = k := by
      rintro rfl
      exact hnm (h.1.symm.trans g.1)
    have HD := Lib.hid hd
    clear hd h g
    go_enter Try.func27, Try.ntmps27
    go_wp2
    go_ret
    exact ⟨_, rfl, ⟨fun h => (by cases h), fun h => (HD.out h).elim⟩, 0, rfl⟩

def Said (p : Prop) (w : World) (e : Ending) (w' : World) : Prop := ∃ d : Bool, e = .returned (.bool d) ∧ (d = true ↔ p) ∧ Below w.heap.size w w'
def SaidStill (p : Prop) (w : World) (e : Ending) (w' : World) : Prop := ∃ d : Bool, e = .returned (.bool d) ∧ (d = true ↔ p) ∧ w = w'
theorem enough_any (n : Nat) (s : Int) (w : World) (hn : n ≤ 1000000) : Calls Try.prog 20 #[.int .i64 n, .int .i64 s] w (SaidStill (0 ≤ s ∧ 15 + 5 * s ≤ (n : Int)) w) := by
  go_enter Try.func20, Try.ntmps20
  go_wp2
  all_goals
    go_ret
    refine ⟨_, rfl, ?_, rfl⟩
    simp
    omega
theorem wrong_any (x : En) (w : World) : Calls Try.prog 24 #[.agg #[.int .i64 (x.k : Int), .int .i64 (x.b : Int)]] w (Said (¬ x.ok) w) := by
  obtain ⟨k, b⟩ := x
  unfold En.ok
  go_enter Try.func24, Try.ntmps24
  go_wp2
  all_goals
    go_ret
    refine ⟨_, rfl, ?_, (Below.refl _ _).alloc (Nat.le_refl _) _⟩
    simp
    omega

/-- The first entry that is none: -1, or some number. -/
def FirstE (es : List En) (i : Int) : Prop := (i = -1 ∧ Fine es) ∨ (0 ≤ i ∧ i ≤ 1000000 ∧ ¬ Fine es)
set_option maxHeartbeats 400000 in
theorem eindex_any (A : Option Addr) (n c : Nat) (es : List En) (w : World) (hn : n ≤ 1000000) (h : Ers w A n es) :
    Calls Try.prog 35 #[.slice A n c, .func (.func 24) #[] #[]] w fun e w' => ∃ i, e = .returned (.int .i64 i) ∧ FirstE es i ∧ Below w.heap.size w w' := by
  have H := Lib.hid h
  clear h
  go_enter Try.func35, Try.ntmps35
  go_wp2
  go_loopw [8] (fun i wr => ∃ k : Nat, k ≤ n ∧ i = .int .i64 k ∧ Fine (es.take k) ∧ Below w.heap.size w wr) (fun i _ => n - (intOf i).toNat)
  case atStart => exact ⟨0, Nat.zero_le _, rfl, fun x hx => (by simp at hx), Below.refl _ _⟩
  case round =>
    obtain ⟨k, hk, rfl, hall, hb⟩ := hrel
    have AL := Lib.hid hall
    have HL := Lib.hid H.out.1
    have HB := Lib.hid hb
    have HH := Lib.hid (H.out.below hb)
    clear hall hb
    by_cases hlt : k < n
    · obtain ⟨b, off, rfl⟩ := H.out.some_ (by omega)
      have hkl : k < es.length := by rw [HL.out]; exact hlt
      obtain ⟨hc, hc'⟩ := HH.out.cell k hlt
      obtain ⟨x, hx⟩ : ∃ x, es[k] = x := ⟨_, rfl⟩
      rw [hx] at hc hc'
      have HX := Lib.hid hx
      clear hx
      go_wp2_with fail
      refine (wrong_any x wr).mono ?_
      rintro e w2 ⟨d, rfl, hd, hb2⟩
      have HD := Lib.hid hd
      have HB := Lib.hid (HB.out.trans (hb2.mono HB.out.size))
      clear hd hb2 hc hc'
      cases d with
      | false =>
        go_wp2
        go_roundw
        case rel =>
          refine ⟨k + 1, by omega, by go_num, fun y hy => ?_, HB.out⟩
          rw [List.take_succ_eq_append_getElem hkl, HX.out] at hy
          rcases List.mem_append.1 hy with hy | hy
          · exact AL.out y hy
          · simp at hy
            subst hy
            exact Classical.byContradiction fun hn => by have := HD.out.2 hn; cases this
        case measure => simp [intOf]; omega
      | true =>
        go_wp2
        go_ret
        exact ⟨_, rfl, .inr ⟨by omega, by omega, fun ha => HD.out.1 (by first | rfl | trivial) (ha x (HX.out ▸ List.getElem_mem hkl))⟩, HB.out⟩
    · obtain rfl : k = n := by omega
      go_wp2
      go_ret
      exact ⟨_, rfl, .inl ⟨rfl, fun x hx => AL.out x (by rw [List.take_of_length_le (by rw [HL.out]; omega)]; exact hx)⟩, HB.out⟩
theorem econtains_any (A : Option Addr) (n c : Nat) (es : List En) (w : World) (hn : n ≤ 1000000) (h : Ers w A n es) :
    Calls Try.prog 23 #[.slice A n c, .func (.func 24) #[] #[]] w (Said (¬ Fine es) w) := by
  go_enter Try.func23, Try.ntmps23
  go_wp2_with fail
  refine (eindex_any A n c es w hn h).mono ?_
  rintro e w2 ⟨i, rfl, hi, hb⟩
  have HI := Lib.hid hi
  have HB := Lib.hid hb
  clear h hi hb
  go_wp2
  go_ret
  refine ⟨_, rfl, ?_, HB.out⟩
  rcases HI.out with ⟨rfl, h0⟩ | ⟨h1, h2, h0⟩
  · exact ⟨fun h => (by simp at h), fun h => (h h0).elim⟩
  · exact ⟨fun _ => h0, fun _ => by simpa using h1⟩
end Go.Proofs.Ytmdgnglefikpjaa
