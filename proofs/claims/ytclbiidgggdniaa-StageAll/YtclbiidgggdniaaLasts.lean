/-
  THE WALK OF lasts.
-/
import Derived.Test.YtclbiidgggdniaaMapI
import Derived.Deep.CutRange
namespace Go.Proofs.Ytclbiidgggdniaa
open Go.RowKit
set_option linter.unusedVariables false
set_option maxRecDepth 100000

theorem below_new (w : World) (o : Obj) : Below w.heap.size w (w.alloc o) := (Below.refl _ _).alloc (Nat.le_refl _) o
set_option maxHeartbeats 800000 in
theorem lasts_any (A : Option Addr) (n c : Nat) (L : List Rc) (w : World) (hn : n ≤ 1000) (h : Rs w A n L) :
    Calls Try.prog 18 #[.slice A n c] w fun e w' => ∃ b F m, e = .returned (.map (some b)) ∧ w.heap.size ≤ b ∧ Mu w' b F m ∧ Lx (L.map Rc.lba) n F ∧ Below w.heap.size w w' := by
  have H := Lib.hid h
  have hmm := @run_makeMap Try.prog
  have M0 := Lib.hid (Mu.made w)
  have B0 := Lib.hid (below_new w (.map #[] 0))
  clear h
  go_enter Try.func18, Try.ntmps18
  go_wp2_with fail
  generalize w.alloc (.map #[] 0) = w1 at *
  generalize hb : w.heap.size = b at *
  have HB := Lib.hid hb
  clear hb
  go_loopw [9] (fun i wr => ∃ (k : Nat) (F : Int → Option Int), k ≤ n ∧ i = .int .i64 k ∧ Mu wr b F k ∧ Lx (L.map Rc.lba) k F ∧ Below b w wr) (fun i _ => n - (intOf i).toNat)
  case atStart => exact ⟨0, _, Nat.zero_le _, rfl, M0.out, Lx.start _, B0.out⟩
  case round =>
    obtain ⟨k, F, hk, rfl, hM, hF, hB⟩ := hrel
    have FF := Lib.hid hF
    have BB := Lib.hid hB
    have MM := Lib.hid hM
    by_cases hlt : k < n
    · obtain ⟨g, off, rfl, hgl, hl, x, hx, ox, q0, q1, q2, q3⟩ := (H.out.below (by rw [HB.out]; exact hB)).one hlt
      have hat : (L.map Rc.lba)[k]? = some x.lba := by rw [List.getElem?_map, List.getElem?_eq_getElem hl, hx]; rfl
      have NX := Lib.hid (hF.next hat)
      obtain ⟨xs, xk, xl, xA, xn, xc, xd⟩ := x
      have hlba := ox.lba
      simp only at q0 q1 q2 q3 hlba NX
      have M4 := MM.out.but (S := fun _ => False) ((But.refl _ _).alloc (.cells (lit xs xk xl xA xn xc) 35)) (fun h => h)
      obtain ⟨w3, hrun, hM3, hb3⟩ := M4.store (by omega) hlba (k : Int)
      have M3 := Lib.hid hM3
      have B3 := Lib.hid (show Below b w w3 from (BB.out.trans ((below_new wr (.cells (lit xs xk xl xA xn xc) 35)).mono (by have := hB.size; have := HB.out; omega))).trans (hb3.below (fun j e => Nat.le_of_eq e.symm) (by have := hB.size; have := HB.out; simp; omega)))
      clear hM hF hB hx ox hat M4 hM3 hb3
      unfold lit at hrun
      go_wp2
      go_roundw
      case rel => exact ⟨k + 1, _, by omega, by go_num, M3.out, NX.out, B3.out⟩
      case measure => simp [intOf]; omega
    · obtain rfl : k = n := by omega
      clear hM hF hB
      go_wp2
      go_ret
      exact ⟨b, F, k, rfl, Nat.le_of_eq HB.out, MM.out, FF.out, by rw [HB.out]; exact BB.out⟩
end Go.Proofs.Ytclbiidgggdniaa
