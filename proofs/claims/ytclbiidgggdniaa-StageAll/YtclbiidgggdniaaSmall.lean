/-
  THE WALKS OF clone AND OF Same, for records that say the same.
-/
import Derived.Test.YtclbiidgggdniaaRecs
import Derived.BigQuiet
namespace Go.Proofs.Ytclbiidgggdniaa
open Go.RowKit
set_option linter.unusedVariables false
set_option maxRecDepth 100000

/-- What a block holds: a record's cells. -/
abbrev lit (seq : Nat) (kind lba : Int) (A : Option Addr) (n c : Nat) : Array Value := #[.int .u64 (seq : Int), .int .i64 kind, .int .i64 lba, .slice A n c]
theorem two_new (w : World) (o o2 : Obj) : Below w.heap.size w ((w.alloc o).alloc o2) := ((Below.refl _ _).alloc (Nat.le_refl _) o).alloc (by simp) o2
theorem But.own (w : World) (g j : Nat) (v : Value) : But (fun k => k = g) w (w.setCell ⟨g, j, none⟩ v) := (But.refl (fun k => k = g) w).setCell (p := ⟨g, j, none⟩) (fun _ => rfl) v
set_option maxHeartbeats 400000 in
theorem rclone_any (x : Rc) (w : World) (h : Ok w x) :
    Calls Try.prog 19 #[.agg (lit x.seq x.kind x.lba x.A x.n x.c)] w fun e w' => ∃ A c, e = .returned (.agg (lit x.seq x.kind x.lba A x.n c)) ∧ Ok w' ⟨x.seq, x.kind, x.lba, A, x.n, c, x.l⟩ ∧ (0 < x.n → ∀ a, A = some a → w.heap.size ≤ a.block) ∧ Below w.heap.size w w' := by
  obtain ⟨seq, kind, lba, A, n, c, l⟩ := x
  obtain ⟨h1, h2, h3, h4⟩ := h
  simp only at h1 h2 h3 h4 ⊢
  have H := Lib.hid h1
  have B1 := Lib.hid (two_new w (.cells (lit seq kind lba A n c) 35) (.cells #[.int .u64 0, .int .i64 0, .int .i64 0, .slice none 0 0] 35))
  have D1 := Lib.hid (show At ((w.alloc (.cells (lit seq kind lba A n c) 35)).alloc (.cells #[.int .u64 0, .int .i64 0, .int .i64 0, .slice none 0 0] 35)) w.heap.size (lit seq kind lba A n c) 35 from (At.new _ 35 rfl).alloc _)
  have E1 := Lib.hid (show At ((w.alloc (.cells (lit seq kind lba A n c) 35)).alloc (.cells #[.int .u64 0, .int .i64 0, .int .i64 0, .slice none 0 0] 35)) (w.heap.size + 1) #[.int .u64 0, .int .i64 0, .int .i64 0, .slice none 0 0] 35 from At.new _ 35 (by simp))
  have S1 := Lib.hid (show w.heap.size + 2 = ((w.alloc (.cells (lit seq kind lba A n c) 35)).alloc (.cells #[.int .u64 0, .int .i64 0, .int .i64 0, .slice none 0 0] 35)).heap.size by simp)
  have c3 : ((w.alloc (.cells (lit seq kind lba A n c) 35)).alloc (.cells #[.int .u64 0, .int .i64 0, .int .i64 0, .slice none 0 0] 35)).cell? ⟨w.heap.size, 3, none⟩ = some (.slice A n c) := D1.out.cell 3
  clear h1
  unfold lit at *
  go_enter Try.func19, Try.ntmps19
  go_wp2_with fail
  generalize ((w.alloc (.cells #[.int .u64 (seq : Int), .int .i64 kind, .int .i64 lba, .slice A n c] 35)).alloc (.cells #[.int .u64 0, .int .i64 0, .int .i64 0, .slice none 0 0] 35)) = w1 at *
  refine (bclone_any A n c l w1 (by omega) (H.out.below B1.out)).mono ?_
  rintro e w2 ⟨v2, rfl, hown2, hb2⟩
  obtain ⟨A2, c2, rfl, _, _, hd2, hA2⟩ := Has.of_own hown2
  have D2 := Lib.hid (D1.out.below hb2 D1.out.lt)
  have E2 := Lib.hid (E1.out.below hb2 E1.out.lt)
  have d3 : w2.cell? ⟨w.heap.size, 3, none⟩ = some (.slice A n c) := D2.out.cell 3
  have f3 := D2.out.frozen 3
  have OWN := Lib.hid hown2
  have HD := Lib.hid hd2
  have HA := Lib.hid hA2
  have B2 := Lib.hid (B1.out.trans (hb2.mono B1.out.size))
  have D3 := Lib.hid (show At (w2.setCell ⟨w.heap.size, 3, none⟩ (.slice A2 n c2)) w.heap.size #[.int .u64 (seq : Int), .int .i64 kind, .int .i64 lba, .slice A2 n c2] 35 from D2.out.set 3 _)
  have E3 := Lib.hid (show At (w2.setCell ⟨w.heap.size, 3, none⟩ (.slice A2 n c2)) (w.heap.size + 1) #[.int .u64 0, .int .i64 0, .int .i64 0, .slice none 0 0] 35 from E2.out.other (by simp) _)
  have F3 := Lib.hid (But.own w2 w.heap.size 3 (.slice A2 n c2))
  have e0 : (w2.setCell ⟨w.heap.size, 3, none⟩ (.slice A2 n c2)).cell? ⟨w.heap.size, 0, none⟩ = some (.int .u64 (seq : Int)) := D3.out.cell 0
  have e1 : (w2.setCell ⟨w.heap.size, 3, none⟩ (.slice A2 n c2)).cell? ⟨w.heap.size, 1, none⟩ = some (.int .i64 kind) := D3.out.cell 1
  have e2 : (w2.setCell ⟨w.heap.size, 3, none⟩ (.slice A2 n c2)).cell? ⟨w.heap.size, 2, none⟩ = some (.int .i64 lba) := D3.out.cell 2
  have e3 : (w2.setCell ⟨w.heap.size, 3, none⟩ (.slice A2 n c2)).cell? ⟨w.heap.size, 3, none⟩ = some (.slice A2 n c2) := D3.out.cell 3
  clear c3 hown2 hd2 hA2 hb2
  go_wp2_with (refine wpList_store_part rfl 35 (.tmp 2) (.tmp 7) rfl (w.heap.size + 1) 0 35 _ (lit seq kind lba A2 n c2) rfl rfl E3.out rec_size (by simp) (by simp [Value.oneCell']) ?_; intro w4 hat4 hb4; have R := Lib.hid (show At w4 (w.heap.size + 1) (lit seq kind lba A2 n c2) 35 from hat4); have B4 := Lib.hid hb4; clear hat4 hb4)
  refine bodyPost_ret (results_cell_row (p := 2) (ty := 35) rfl _ w4 (w.heap.size + 1) 35 (lit seq kind lba A2 n c2) (0, 0) _ rfl R.out Try.underlying35 rfl rec_size) rfl ?_
  have H3 := HD.out.apart F3.out (fun h0 a ha e => by obtain ⟨i, rfl, hi⟩ := HA.out a ha; have := S1.out; show False; simp at e; omega)
  have H4 := H3.apart B4.out (fun h0 a ha e => by obtain ⟨i, rfl, hi⟩ := HA.out a ha; have := S1.out; simp at e; omega)
  refine ⟨A2, c2, rfl, ⟨H4, h2, h3, h4⟩, fun h0 a ha => ?_, ?_⟩
  · obtain ⟨i, rfl, hi⟩ := HA.out a ha
    have := B1.out.size
    show w.heap.size ≤ i
    omega
  · have b3 := B2.out.trans (F3.out.below (B := w.heap.size) (fun k e => by omega) B2.out.size)
    exact b3.trans (B4.out.below (B := w.heap.size) (fun k e => by omega) b3.size)

theorem quiet_mine {P : Program} {f : FuncId} {args : Array Value} {w : World} {n : Nat} {v : Value} (h : Calls P f args (w.drewN n) (Quiet v (w.drewN n))) : Calls P f args (w.drewN n) fun e w'' => e = .returned v ∧ ∃ m, w'' = w.drewN m :=
  h.mono fun _ _ ⟨he, m, hm⟩ => ⟨he, _, hm.trans (World.drewN_drewN _ _ _)⟩
theorem equal_same (A B : Option Addr) (n m c d : Nat) (l : List (BitVec 8)) (w : World) (hn : n ≤ 1000000) (hm : m ≤ 1000000) (h : Has w A n l) (g : Has w B m l) : Calls Try.prog 17 #[.slice A n c, .slice B m d] w (Quiet (.bool true) w) := by
  have := equal_any A B n m c d l l w hn hm h g
  simpa using this

set_option maxHeartbeats 3200000 in
theorem same_yes (A1 A2 : Option Addr) (n c1 c2 : Nat) (L1 L2 : List Rc) (w : World) (hn : n ≤ 1000) (h1 : Rs w A1 n L1) (h2 : Rs w A2 n L2) (he : L1.map Rc.abs = L2.map Rc.abs) :
    Calls Try.prog 10 #[.slice A1 n c1, .slice A2 n c2] w (Quiet (.bool true) w) := by
  have H1 := Lib.hid h1
  have H2 := Lib.hid h2
  have HE := Lib.hid he
  clear h1 h2 he
  go_enter Try.func10, Try.ntmps10
  go_wp2
  go_loopw [13] (fun i wr => ∃ j q : Nat, j ≤ n ∧ i = .int .i64 j ∧ wr = w.drewN q) (fun i _ => n - (intOf i).toNat)
  case atStart => exact ⟨0, 0, Nat.zero_le _, rfl, rfl⟩
  case round =>
    obtain ⟨j, q, hj, rfl, hwr⟩ := hrel
    have HW := Lib.hid hwr
    by_cases hlt : j < n
    · obtain ⟨g1, o1, rfl, _, l1, x, hx, ox, q0, q1, q2, q3⟩ := (show Rs wr A1 n L1 by rw [hwr]; exact H1.out.drewN q).one hlt
      obtain ⟨g2, o2, rfl, _, l2, y, hy, oy, r0, r1, r2, r3⟩ := (show Rs wr A2 n L2 by rw [hwr]; exact H2.out.drewN q).one hlt
      have hab : x.abs = y.abs := by
        have h := congrArg (fun l => l[j]?) HE.out
        simp only [List.getElem?_map, List.getElem?_eq_getElem l1, List.getElem?_eq_getElem l2, Option.map_some] at h
        injection h with h
        rw [← hx, ← hy]
        exact h
      clear hwr hx hy
      obtain ⟨xs, xk, xl, xA, xn, xc, xd⟩ := x
      obtain ⟨ys, yk, yl, yA, yn, yc, yd⟩ := y
      simp only [Rc.abs, Rr.mk.injEq] at hab
      obtain ⟨rfl, rfl, rfl, rfl⟩ := hab
      obtain ⟨hx1, hn1, _, _⟩ := ox
      obtain ⟨hx2, hn2, _, _⟩ := oy
      simp only at q0 q1 q2 q3 r0 r1 r2 r3 hx1 hx2 hn1 hn2
      have X1 := Lib.hid hx1
      have X2 := Lib.hid hx2
      clear hx1 hx2
      go_wp2_with fail
      go_quiet ((first
        | (go_at_call 17; exact quiet_mine (equal_same xA yA xn yn xc yc xd _ (by omega) (by omega) (X1.out.drewN _) (X2.out.drewN _)))))
      go_wp2
      go_roundw
      case rel => exact ⟨j + 1, q + nq, by omega, by go_num, by rw [HW.out, World.drewN_drewN]⟩
      case measure => simp [intOf]; omega
    · have e : j = n := by omega
      subst e
      clear hwr
      go_wp2
      go_ret
      exact ⟨rfl, _, HW.out⟩
end Go.Proofs.Ytclbiidgggdniaa
