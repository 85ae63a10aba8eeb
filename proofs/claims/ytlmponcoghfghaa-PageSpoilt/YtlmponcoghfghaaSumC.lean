/-
  THE WALKS OF sum.Open AND sum.Seal.
-/
import Derived.Test.YtlmponcoghfghaaSumB
namespace Go.Proofs.Ytlmponcoghfghaa
open Go.RowKit
set_option linter.unusedVariables false
set_option maxRecDepth 100000

theorem quiet_left {P : Program} {f : FuncId} {args : Array Value} {w : World} {n : Nat} {v : Value}
    (h : Calls P f args (w.drewN n) fun e w' => e = .returned v ∧ w.drewN n = w') : Calls P f args (w.drewN n) fun e w'' => e = .returned v ∧ ∃ m, w'' = w.drewN m :=
  h.mono fun _ _ hh => ⟨hh.1, n, hh.2.symm⟩

set_option maxHeartbeats 400000 in
theorem open_short (A : Option Addr) (n cap : Nat) (w : World) (hn : n < 4) :
    Calls Try.prog 51 #[.slice A n cap] w fun e w' => e = .returned (.tuple #[.slice none 0 0, .int .i64 6]) ∧ w = w' := by
  go_enter Try.func51, Try.ntmps51
  go_wp2
  go_ret2
  exact ⟨rfl, rfl⟩

set_option maxHeartbeats 400000 in
theorem open_wrong (A : Option Addr) (m cap : Nat) (l : List (BitVec 8)) (w : World) (hc : m + 4 ≤ cap) (hm : cap ≤ maxLen) (h : Has w A (m + 4) l)
    (hs : Crc.held (l.drop m) 4 ≠ Crc.sum (l.take m)) :
    Calls Try.prog 51 #[.slice A (m + 4) cap] w (Quiet (.tuple #[.slice none 0 0, .int .i64 5]) w) := by
  unfold maxLen at hm
  obtain ⟨b, off, rfl⟩ := h.some_ (by omega)
  have H1 := Lib.hid (h.take m (by omega))
  have h4 := h.drop m (by omega)
  rw [show m + 4 - m = 4 by omega] at h4
  have H2 := Lib.hid h4
  have ht : (((Crc.held (l.drop m) 4).toNat : Int) != ((Crc.sum (l.take m)).toNat : Int)) = true := by
    simp only [bne_iff_ne, ne_eq]
    intro e
    exact hs (BitVec.eq_of_toNat_eq (by omega))
  clear h h4 hs
  go_enter Try.func51, Try.ntmps51
  go_wp2
  go_quiet ((first | (go_at_call 62; exact quiet_left (stored_any _ _ _ (l.drop m) _ (by omega) (H2.out.drewN _))) | (go_at_call 50; exact quiet_left (of_any _ _ _ (l.take m) _ (by unfold maxLen; omega) (H1.out.drewN _)))))
  go_wp2
  go_ret2
  exact ⟨rfl, _, rfl⟩

def Opened (w : World) (n : Nat) (l : List (BitVec 8)) (e : Ending) (w' : World) : Prop := ∃ v, e = .returned (.tuple #[v, .int .i64 0]) ∧ Fresh w n l v w'

theorem below_drewN {B : Nat} {a w : World} (h : Below B a w) (n : Nat) : Below B a (w.drewN n) := ⟨h.os, h.tape, h.output, h.size, h.block⟩

set_option maxHeartbeats 400000 in
theorem open_right (A : Option Addr) (m cap : Nat) (l : List (BitVec 8)) (w : World) (hc : m + 4 ≤ cap) (hm : cap ≤ maxLen) (h6 : m ≤ 1000000) (h : Has w A (m + 4) l)
    (hs : Crc.held (l.drop m) 4 = Crc.sum (l.take m)) :
    Calls Try.prog 51 #[.slice A (m + 4) cap] w (Opened w m (l.take m)) := by
  unfold maxLen at hm
  obtain ⟨b, off, rfl⟩ := h.some_ (by omega)
  have H1 := Lib.hid (h.take m (by omega))
  have h4 := h.drop m (by omega)
  rw [show m + 4 - m = 4 by omega] at h4
  have H2 := Lib.hid h4
  have ht : (((Crc.held (l.drop m) 4).toNat : Int) != ((Crc.sum (l.take m)).toNat : Int)) = false := by
    rw [hs]
    simp
  clear h h4 hs
  go_enter Try.func51, Try.ntmps51
  go_wp2
  go_quiet ((first | (go_at_call 62; exact quiet_left (stored_any _ _ _ (l.drop m) _ (by omega) (H2.out.drewN _))) | (go_at_call 50; exact quiet_left (of_any _ _ _ (l.take m) _ (by unfold maxLen; omega) (H1.out.drewN _)))))
  go_wp2_with fail
  refine (clone_any _ _ _ (l.take m) _ h6 (H1.out.drewN _)).mono ?_
  rintro e w' ⟨v, rfl, hf⟩
  go_wp2
  go_ret2
  exact ⟨v, rfl, hf.1, (below_drewN (Below.refl _ _) _).trans hf.2⟩

end Go.Proofs.Ytlmponcoghfghaa
