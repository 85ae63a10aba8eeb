/-
  THE WALKS OF Same, at two images that are the same, and of Awake.
-/
import Derived.Test.YtlmponcoghfghaaDecode
namespace Go.Proofs.Ytlmponcoghfghaa
open Go.RowKit
set_option linter.unusedVariables false
set_option maxRecDepth 100000


theorem Sgs.drewN {w : World} {A : Option Addr} {n : Nat} {L : List Sg} (h : Sgs w A n L) (k : Nat) : Sgs (w.drewN k) A n L := h
theorem Row.drewN {w : World} {A : Option Addr} {n : Nat} {L : List Value} (h : Row w A n L) (k : Nat) : Row (w.drewN k) A n L := h
set_option maxHeartbeats 400000 in
theorem equalS_yes (A B : Option Addr) (n c d : Nat) (L : List Sg) (w : World) (hn : n ≤ 1000000) (h : Sgs w A n L) (g : Sgs w B n L) :
    Calls Try.prog 37 #[.slice A n c, .slice B n d] w (Quiet (.bool true) w) := by
  have H := Lib.hid h
  have G := Lib.hid g
  clear h g
  go_enter Try.func37, Try.ntmps37
  go_wp2
  go_loopw [13] (fun i wr => ∃ j q : Nat, j ≤ n ∧ i = .int .i64 j ∧ wr = w.drewN q) (fun i _ => n - (intOf i).toNat)
  case atStart => exact ⟨0, 0, Nat.zero_le _, rfl, rfl⟩
  case round =>
    obtain ⟨j, q, hj, rfl, rfl⟩ := hrel
    by_cases hlt : j < n
    · obtain ⟨b, off, rfl⟩ := H.out.some_ (by omega)
      obtain ⟨b2, off2, rfl⟩ := G.out.some_ (by omega)
      obtain ⟨hc, hc'⟩ := H.out.cell j hlt
      obtain ⟨hd, hd'⟩ := G.out.cell j hlt
      have hjl : j < L.length := by rw [H.out.1]; exact hlt
      generalize L[j] = x at hc hc' hd hd'
      obtain ⟨xs, xb⟩ := x
      simp only at hc hc' hd hd'
      have hq := fun w => seg_neq_no (xs : Int) (xb : Int) w
      go_wp2
      go_quiet (fail)
      go_wp2
      go_roundw
      case rel => exact ⟨j + 1, _, by omega, by go_num, rfl⟩
      case measure => simp [intOf]; omega
    · have e : j = n := by omega
      subst e
      go_wp2
      go_ret
      exact ⟨rfl, _, rfl⟩
set_option maxHeartbeats 400000 in
theorem equalI_yes (A B : Option Addr) (n c d : Nat) (L : List Nat) (w : World) (hn : n ≤ 1000000) (h : Row w A n (ints L)) (g : Row w B n (ints L)) :
    Calls Try.prog 38 #[.slice A n c, .slice B n d] w (Quiet (.bool true) w) := by
  have H := Lib.hid h
  have G := Lib.hid g
  have HL := Lib.hid (show L.length = n by have := h.1; rw [ints_len] at this; exact this)
  clear h g
  go_enter Try.func38, Try.ntmps38
  go_wp2
  go_loopw [13] (fun i wr => ∃ j q : Nat, j ≤ n ∧ i = .int .i64 j ∧ wr = w.drewN q) (fun i _ => n - (intOf i).toNat)
  case atStart => exact ⟨0, 0, Nat.zero_le _, rfl, rfl⟩
  case round =>
    obtain ⟨j, q, hj, rfl, rfl⟩ := hrel
    by_cases hlt : j < n
    · obtain ⟨b, off, rfl⟩ := H.out.some_ (by omega)
      obtain ⟨b2, off2, rfl⟩ := G.out.some_ (by omega)
      have hjl : j < L.length := by rw [HL.out]; exact hlt
      have hc : w.cell? ⟨b, off + j, none⟩ = some (.int .i64 ((L[j] : Int) - 1)) := by rw [H.out.cell j hlt]; exact congrArg some (ints_get L j hjl)
      have hd : w.cell? ⟨b2, off2 + j, none⟩ = some (.int .i64 ((L[j] : Int) - 1)) := by rw [G.out.cell j hlt]; exact congrArg some (ints_get L j hjl)
      generalize (L[j] : Int) - 1 = x at hc hd
      go_wp2
      go_quiet (fail)
      go_wp2
      go_roundw
      case rel => exact ⟨j + 1, _, by omega, by go_num, rfl⟩
      case measure => simp [intOf]; omega
    · have e : j = n := by omega
      subst e
      go_wp2
      go_ret
      exact ⟨rfl, _, rfl⟩
set_option maxHeartbeats 800000 in
theorem same_yes (x : Im) (A : Option Addr) (n c : Nat) (B : Option Addr) (m d : Nat) (A' : Option Addr) (c' : Nat) (B' : Option Addr) (d' : Nat) (w : World) (hn : n ≤ 1000000) (hm : m ≤ 1000000) (h : Img w A n B m x) (k : Img w A' n B' m x) :
    Calls Try.prog 14 #[.agg (ics x.q x.s x.i A n c B m d), .agg (ics x.q x.s x.i A' n c' B' m d')] w (Said true w) := by
  have H := Lib.hid (h.below (BB2 w (.cells (ics x.q x.s x.i A n c B m d) 37) (.cells (ics x.q x.s x.i A' n c' B' m d') 37)))
  have G := Lib.hid (k.below (BB2 w (.cells (ics x.q x.s x.i A n c B m d) 37) (.cells (ics x.q x.s x.i A' n c' B' m d') 37)))
  have BB := Lib.hid (BB2 w (.cells (ics x.q x.s x.i A n c B m d) 37) (.cells (ics x.q x.s x.i A' n c' B' m d') 37))
  have a1 := (At.new (w := w) (g := w.heap.size) (ics x.q x.s x.i A n c B m d) 37 rfl).alloc (.cells (ics x.q x.s x.i A' n c' B' m d') 37)
  have a2 := At.new (w := w.alloc (.cells (ics x.q x.s x.i A n c B m d) 37)) (g := w.heap.size + 1) (ics x.q x.s x.i A' n c' B' m d') 37 (by simp)
  obtain ⟨q, sg, ix, gs, mp⟩ := x
  simp only at *
  have AA := Lib.hid (And.intro a1 a2)
  clear h k a1 a2
  go_enter Try.func14, Try.ntmps14
  go_wp2_with fail
  refine (equalS_yes A A' n c c' gs _ hn H.out.gs G.out.gs).mono ?_
  rintro e w1 ⟨rfl, k1, hw1⟩
  have BB := Lib.hid (show Below w.heap.size w w1 by rw [hw1]; exact below_drewN BB.out k1)
  have HM := Lib.hid (show Row w1 B m (ints mp) by rw [hw1]; exact H.out.mp.drewN k1)
  have GM := Lib.hid (show Row w1 B' m (ints mp) by rw [hw1]; exact G.out.mp.drewN k1)
  have c4 : w1.cell? ⟨w.heap.size, 4, none⟩ = some (.slice B m d) := by rw [hw1]; exact AA.out.1.cell 4
  have e4 : w1.cell? ⟨w.heap.size + 1, 4, none⟩ = some (.slice B' m d') := by rw [hw1]; exact AA.out.2.cell 4
  clear hw1 H G AA
  go_wp2_with fail
  clear c4 e4
  refine (equalI_yes B B' m d d' mp _ hm HM.out GM.out).mono ?_
  rintro e w2 ⟨rfl, k2, hw2⟩
  have BB := Lib.hid (show Below w.heap.size w w2 by rw [hw2]; exact below_drewN BB.out k2)
  clear hw2
  go_wp2
  go_ret
  exact ⟨rfl, BB.out⟩
end Go.Proofs.Ytlmponcoghfghaa
