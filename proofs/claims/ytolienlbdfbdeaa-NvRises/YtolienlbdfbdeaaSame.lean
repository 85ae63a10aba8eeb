/-
  THE WALK OF same, for records that say the same.
-/
import Derived.Test.YtolienlbdfbdeaaRecords
namespace Go.Proofs.Ytolienlbdfbdeaa
open Go.RowKit
set_option linter.unusedVariables false
set_option maxRecDepth 100000

theorem quiet_mine {P : Program} {f : FuncId} {args : Array Value} {w : World} {n : Nat} {v : Value} (h : Calls P f args (w.drewN n) (Quiet v (w.drewN n))) : Calls P f args (w.drewN n) fun e w'' => e = .returned v ∧ ∃ m, w'' = w.drewN m :=
  h.mono fun _ _ ⟨he, m, hm⟩ => ⟨he, _, hm.trans (World.drewN_drewN _ _ _)⟩
theorem equal_same (A B : Option Addr) (n m c d : Nat) (l : List (BitVec 8)) (w : World) (hn : n ≤ 1000000) (hm : m ≤ 1000000) (h : Has w A n l) (g : Has w B m l) : Calls Try.prog 22 #[.slice A n c, .slice B m d] w (Quiet (.bool true) w) := by
  have := equal_any A B n m c d l l w hn hm h g
  simpa using this

theorem Rw.drewN {w : World} {B : Nat} {v : Value} {L : List Rc} (h : Rw w B v L) (n : Nat) : Rw (w.drewN n) B v L := ⟨h.own, h.has, h.len, h.off⟩
theorem cell4' {w : World} {g i : Nat} {x : Rc} (hcell : ∀ j, j < 4 → w.cell? ⟨g, i * 4 + j, none⟩ = x.cs[j]?) : w.cell? ⟨g, i * 4, none⟩ = some (.int .u64 (x.seq : Int)) ∧ w.cell? ⟨g, i * 4 + 1, none⟩ = some (.int .i64 x.kind) ∧ w.cell? ⟨g, i * 4 + 2, none⟩ = some (.int .i64 x.lba) ∧ w.cell? ⟨g, i * 4 + 3, none⟩ = some (.slice x.A x.n x.c) :=
  ⟨hcell 0 (by omega), hcell 1 (by omega), hcell 2 (by omega), hcell 3 (by omega)⟩

set_option maxHeartbeats 3200000 in
theorem same_yes (v1 v2 : Value) (B1 B2 : Nat) (L1 L2 : List Rc) (w : World) (hn : L1.length ≤ 1000) (h1 : Rw w B1 v1 L1) (h2 : Rw w B2 v2 L2) (he : L1.map Rc.abs = L2.map Rc.abs) :
    Calls Try.prog 16 #[v1, v2] w (Quiet (.bool true) w) := by
  obtain ⟨A1, c1, rfl⟩ := h1.slice
  obtain ⟨A2, c2, rfl⟩ := h2.slice
  have hl : L2.length = L1.length := by have := congrArg List.length he; simpa using this.symm
  have H1 := Lib.hid h1
  have H2 := Lib.hid h2
  have HE := Lib.hid he
  have HL := Lib.hid hl
  rw [hl]
  clear h1 h2 he hl
  go_enter Try.func16, Try.ntmps16
  go_wp2
  go_loopw [13] (fun i wr => ∃ j q : Nat, j ≤ L1.length ∧ i = .int .i64 j ∧ wr = w.drewN q) (fun i _ => L1.length - (intOf i).toNat)
  case atStart => exact ⟨0, 0, Nat.zero_le _, rfl, rfl⟩
  case round =>
    obtain ⟨j, q, hj, rfl, hwr⟩ := hrel
    have HW := Lib.hid hwr
    by_cases hlt : j < L1.length
    · have hr1 : Rw wr B1 (.slice A1 L1.length c1) L1 := by rw [hwr]; exact H1.out.drewN q
      have hr2 : Rw wr B2 (.slice A2 L2.length c2) L2 := by rw [hwr]; exact H2.out.drewN q
      clear hwr
      obtain ⟨g1, cap1, tail1, e1, _, hat1, _⟩ := hr1.form (by omega)
      obtain ⟨g2, cap2, tail2, e2, _, hat2, _⟩ := hr2.form (by have := HL.out; omega)
      injection e1 with e1 _ e1'
      injection e2 with e2 _ e2'
      subst e1 e1' e2 e2'
      have hlt2 : j < L2.length := by have := HL.out; omega
      obtain ⟨q0, q1, q2, q3⟩ := cell4' (row_cells hat1 hlt)
      obtain ⟨r0, r1, r2, r3⟩ := cell4' (row_cells hat2 hlt2)
      have hx1 := hr1.has _ (List.getElem_mem hlt)
      have hx2 := hr2.has _ (List.getElem_mem hlt2)
      have hn1 := hr1.len _ (List.getElem_mem hlt)
      have hn2 := hr2.len _ (List.getElem_mem hlt2)
      have hab : L1[j].abs = L2[j].abs := by
        have h := congrArg (fun l => l[j]?) HE.out
        simp only [List.getElem?_map, List.getElem?_eq_getElem hlt, List.getElem?_eq_getElem hlt2, Option.map_some] at h
        injection h
      clear hat1 hat2 hr1 hr2
      generalize L1[j] = x at *
      generalize L2[j] = y at *
      obtain ⟨xs, xk, xl, xA, xn, xc, xd⟩ := x
      obtain ⟨ys, yk, yl, yA, yn, yc, yd⟩ := y
      simp only [Rc.abs, Rr.mk.injEq] at hab
      obtain ⟨rfl, rfl, rfl, rfl⟩ := hab
      simp only at q0 q1 q2 q3 r0 r1 r2 r3 hx1 hx2 hn1 hn2
      have X1 := Lib.hid hx1
      have X2 := Lib.hid hx2
      clear hx1 hx2
      go_wp2_with fail
      go_quiet ((first
        | (go_at_call 22; exact quiet_mine (equal_same xA yA xn yn xc yc xd _ (by omega) (by omega) (X1.out.drewN _) (X2.out.drewN _)))))
      go_wp2
      go_roundw
      case rel => exact ⟨j + 1, q + nq, by omega, by go_num, by rw [HW.out, World.drewN_drewN]⟩
      case measure => simp [intOf]; omega
    · have e : j = L1.length := by omega
      subst e
      clear hwr
      go_wp2
      go_ret
      exact ⟨rfl, _, HW.out⟩

end Go.Proofs.Ytolienlbdfbdeaa
