/-
  THE WALKS OF THE LAW's CLOSURE, slices.IndexFunc AND slices.ContainsFunc OF RECORDS.
-/
import Derived.Test.YtclbiidgggdniaaStageFindsWalk
import Derived.Deep.CutRange
namespace Go.Proofs.Ytclbiidgggdniaa
open Go.RowKit
set_option linter.unusedVariables false
set_option maxRecDepth 100000

theorem pred_yes (s : Rc) (seq : Nat) (kind lba : Int) (A : Option Addr) (n c : Nat) (bx : Nat) (w : World) (h : At w bx (lit seq kind lba A n c) 35) (hs :  s.seq = seq) :
    Calls Try.prog 16 #[.agg (lit s.seq s.kind s.lba s.A s.n s.c), .pointer (some ⟨bx, 0, none⟩)] w fun e w' => e = .returned (.bool true) ∧ Below w.heap.size w w' := by
  have hc : (w.alloc (.cells (lit s.seq s.kind s.lba s.A s.n s.c) 35)).cell? ⟨bx, 0, none⟩ = some (.int .u64 (seq : Int)) := (h.alloc _).cell 0
  have BB := Lib.hid (below_new w (.cells (lit s.seq s.kind s.lba s.A s.n s.c) 35))
  have hi : ((s.seq : Int) == (seq : Int)) = true := by simp [hs]
  clear h hs
  unfold lit at hc BB ⊢
  go_enter Try.func16, Try.ntmps16
  go_wp2
  go_ret
  exact ⟨by simp_all, BB.out⟩
theorem pred_no (s : Rc) (seq : Nat) (kind lba : Int) (A : Option Addr) (n c : Nat) (bx : Nat) (w : World) (h : At w bx (lit seq kind lba A n c) 35) (hs : ¬ s.seq = seq) :
    Calls Try.prog 16 #[.agg (lit s.seq s.kind s.lba s.A s.n s.c), .pointer (some ⟨bx, 0, none⟩)] w fun e w' => e = .returned (.bool false) ∧ Below w.heap.size w w' := by
  have hc : (w.alloc (.cells (lit s.seq s.kind s.lba s.A s.n s.c) 35)).cell? ⟨bx, 0, none⟩ = some (.int .u64 (seq : Int)) := (h.alloc _).cell 0
  have BB := Lib.hid (below_new w (.cells (lit s.seq s.kind s.lba s.A s.n s.c) 35))
  have hi : ((s.seq : Int) == (seq : Int)) = false := by rw [beq_eq_false_iff_ne]; omega
  clear h hs
  unfold lit at hc BB ⊢
  go_enter Try.func16, Try.ntmps16
  go_wp2
  go_ret
  exact ⟨by simp_all, BB.out⟩
/-- Where the first record lies that has this number; -1: nowhere. -/
def First (seq : Nat) (G : List Rc) (i : Int) : Prop := (i = -1 ∧ ¬ ∃ s ∈ G, s.seq = seq) ∨ (0 ≤ i ∧ i ≤ 1000 ∧ ∃ s ∈ G, s.seq = seq)
set_option maxHeartbeats 800000 in
theorem index_any (seq : Nat) (kind lba : Int) (A : Option Addr) (n c : Nat) (bx : Nat) (Ag : Option Addr) (m cg : Nat) (G : List Rc) (w : World) (hm : m ≤ 1000) (h : Rs w Ag m G) (hb : At w bx (lit seq kind lba A n c) 35) :
    Calls Try.prog 20 #[.slice Ag m cg, .func (.func 16) #[] #[.pointer (some ⟨bx, 0, none⟩)]] w fun e w' => ∃ i, e = .returned (.int .i64 i) ∧ First seq G i ∧ Below w.heap.size w w' := by
  have H := Lib.hid h
  have HB := Lib.hid hb
  clear h hb
  go_enter Try.func20, Try.ntmps20
  go_wp2
  go_loopw [8] (fun i wr => ∃ k : Nat, k ≤ m ∧ i = .int .i64 k ∧ (∀ s ∈ G.take k, ¬ s.seq = seq) ∧ Below w.heap.size w wr) (fun i _ => m - (intOf i).toNat)
  case atStart => exact ⟨0, Nat.zero_le _, rfl, fun x hx => (by simp at hx), Below.refl _ _⟩
  case round =>
    obtain ⟨k, hk, rfl, hall, hbw⟩ := hrel
    have AL := Lib.hid hall
    have BW := Lib.hid hbw
    by_cases hlt : k < m
    · obtain ⟨g2, o2, rfl, hgl2, hl2, x, hx, ox, r0, r1, r2, r3⟩ := (H.out.below hbw).one hlt
      have HX := Lib.hid hx
      have XB := Lib.hid (HB.out.below hbw HB.out.lt)
      obtain ⟨xs, xk, xl, xA, xn, xc, xd⟩ := x
      simp only at r0 r1 r2 r3
      clear hall hbw hx ox
      by_cases hs : xs = seq
      · have SE := Lib.hid hs
        clear hs
        go_wp2_with fail
        refine (pred_yes ⟨xs, xk, xl, xA, xn, xc, xd⟩ seq kind lba A n c bx wr XB.out SE.out).mono ?_
        rintro e w2 ⟨rfl, hb⟩
        have B2 := Lib.hid (BW.out.trans (hb.mono BW.out.size))
        clear hb
        go_wp2
        go_ret
        exact ⟨_, rfl, .inr ⟨by omega, by omega, ⟨_, HX.out ▸ List.getElem_mem hl2, SE.out⟩⟩, B2.out⟩
      · have SE := Lib.hid hs
        clear hs
        go_wp2_with fail
        refine (pred_no ⟨xs, xk, xl, xA, xn, xc, xd⟩ seq kind lba A n c bx wr XB.out SE.out).mono ?_
        rintro e w2 ⟨rfl, hb⟩
        have B2 := Lib.hid (BW.out.trans (hb.mono BW.out.size))
        clear hb
        go_wp2
        go_roundw
        case rel =>
          refine ⟨k + 1, by omega, by go_num, fun y hy => ?_, B2.out⟩
          rw [List.take_succ_eq_append_getElem hl2, HX.out] at hy
          rcases List.mem_append.1 hy with hy | hy
          · exact AL.out y hy
          · simp at hy; subst hy; exact SE.out
        case measure => simp [intOf]; omega
    · have e0 : k = m := by omega
      subst e0
      clear hall hbw
      go_wp2
      go_ret
      refine ⟨_, rfl, .inl ⟨rfl, ?_⟩, BW.out⟩
      rintro ⟨s, hs, e⟩
      exact AL.out s (by rw [List.take_of_length_le (Nat.le_of_eq H.out.len)]; exact hs) e
theorem contains_any (seq : Nat) (kind lba : Int) (A : Option Addr) (n c : Nat) (bx : Nat) (Ag : Option Addr) (m cg : Nat) (G : List Rc) (w : World) (hm : m ≤ 1000) (h : Rs w Ag m G) (hb : At w bx (lit seq kind lba A n c) 35) :
    Calls Try.prog 15 #[.slice Ag m cg, .func (.func 16) #[] #[.pointer (some ⟨bx, 0, none⟩)]] w fun e w' => ∃ b, e = .returned (.bool b) ∧ (b = true ↔ ∃ s ∈ G, s.seq = seq) ∧ Below w.heap.size w w' := by
  go_enter Try.func15, Try.ntmps15
  go_wp2_with fail
  refine (index_any seq kind lba A n c bx Ag m cg G w hm h hb).mono ?_
  rintro e w2 ⟨i, rfl, hi, hbw⟩
  have BW := Lib.hid hbw
  clear h hb hbw
  rcases hi with ⟨rfl, hno⟩ | ⟨h0, h1, hyes⟩
  · have NO := Lib.hid hno
    clear hno
    go_wp2
    go_ret
    exact ⟨false, rfl, ⟨fun h => (by cases h), fun h => (NO.out h).elim⟩, BW.out⟩
  · have YES := Lib.hid hyes
    have hd : decide (0 ≤ i) = true := decide_eq_true h0
    clear hyes
    go_wp2
    go_ret
    exact ⟨true, by simp_all, ⟨fun _ => YES.out, fun _ => rfl⟩, BW.out⟩
end Go.Proofs.Ytclbiidgggdniaa
