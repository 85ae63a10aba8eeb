/-
  THE WALK OF TableOwn.
-/
import Derived.Test.YtpijapnidnkknaaAwake
import Derived.Deep.CutRange
namespace Go.Proofs.Ytpijapnidnkknaa
open Go.RowKit
set_option linter.unusedVariables false
set_option maxRecDepth 100000


set_option maxHeartbeats 1600000 in
theorem tableOwn_walk (x : Int) (w : World) (hx : 0 ≤ x ∧ x ≤ 255) : Calls Try.prog 4 #[.int .u8 x] w fun e w' => e = .returned (.bool true) ∧ Below w.heap.size w w' := by
  obtain ⟨m, hm, hm8⟩ : ∃ m : Nat, x % 9 = (m : Int) ∧ m ≤ 8 := ⟨(x % 9).toNat, by omega, by omega⟩
  have HM := Lib.hid hm
  go_enter Try.func4, Try.ntmps4
  go_wp2_with fail
  refine (awake_any w).mono ?_
  rintro e w0 ⟨rfl, hb0⟩
  have B0 := Lib.hid hb0
  clear hb0
  go_wp2_with fail
  rw [show (1 : Int) + (m : Int) = ((m + 1 : Nat) : Int) by omega]
  refine (new_any (m + 1) w0 (by omega)).mono ?_
  rintro e w1 ⟨g, r, rfl, hT, hg, hr, hb⟩
  have T1 := Lib.hid hT
  have B1 := Lib.hid (B0.out.trans (hb.mono B0.out.size))
  have LG := Lib.hid (show w.heap.size ≤ w0.heap.size from B0.out.size)
  clear hT hb
  go_wp2_with fail
  refine (all_any T1.out).mono ?_
  rw [List.length_replicate]
  rintro e w2 ⟨A, c, rfl, ho, hb⟩
  obtain ⟨q, cap, cur, hv, hq, hh, hnc, hcm, hcs, htk⟩ : ∃ q cap cur, Value.slice A (m + 1) c = .slice (some ⟨q, 0, none⟩) (m + 1) cap ∧ w1.heap.size ≤ q ∧ At w2 q cur 33 ∧ m + 1 ≤ cap ∧ cap ≤ maxLen ∧ cur.size = cap * 3 ∧ True := by
    rcases ho.2 with ⟨_, e⟩ | ⟨q, cap, cur, e, hq, hh, h1, h2, h3, h4⟩
    · omega
    · exact ⟨q, cap, cur, e, hq, hh, h1, h2, h3, trivial⟩
  rw [hv]
  have B2 := Lib.hid (B1.out.trans (hb.mono B1.out.size))
  have T2 := Lib.hid (T1.out.below hb)
  have Q2 := Lib.hid hh
  have lt1 := T1.out.lt
  have NG := Lib.hid (show g ≠ q ∧ r ≠ q by omega)
  have QL := Lib.hid (show w.heap.size ≤ q by have := B1.out.size; omega)
  clear hh hb hv ho htk lt1
  go_wp2_with fail
  go_loopg [5, 17] (m + 1) (fun gg _ s17 wr => ∃ (k : Nat) (cs : Array Value), k ≤ m + 1 ∧ m + 1 - k ≤ gg ∧ s17 = .int .i64 (k : Int) ∧ At wr q cs 33 ∧ cs.size = cap * 3 ∧ But (fun k => k = q) w2 wr)
  case atStart => exact ⟨0, cur, Nat.zero_le _, by omega, rfl, Q2.out, hcs, But.refl _ _⟩
  case round =>
    obtain ⟨k, cs, hk0, hgg, rfl, hat, hsz, hb⟩ := hrel
    have AT := Lib.hid hat
    have BB := Lib.hid hb
    have SZ := Lib.hid hsz
    clear hb
    by_cases hlt : k < m + 1
    · obtain ⟨u, hu⟩ : ∃ u, cs[k * 3 + 1]? = some u := ⟨_, Array.getElem?_eq_getElem (by omega)⟩
      have c1 := (hat.cell (k * 3 + 1)).trans hu
      clear hu
      have f1 := hat.frozen (k * 3 + 1)
      have ha2 := Lib.hid (hat.set (k * 3 + 1) (.int .i64 5))
      clear hat hsz
      go_wp2
      go_roundg (m + 1 - (k + 1))
      case measure => omega
      case rel => exact ⟨k + 1, _, by omega, Nat.le_refl _, by go_num, ha2.out, by rw [Array.size_setIfInBounds]; exact SZ.out, BB.out.setCell (p := ⟨q, k * 3 + 1, none⟩) (fun _ => rfl) _⟩
    · obtain rfl : k = m + 1 := by omega
      have T3 := Lib.hid (T2.out.but BB.out NG.out.1 NG.out.2)
      have B3 := Lib.hid (B2.out.trans (BB.out.below (fun k e => by have := QL.out; omega) B2.out.size))
      clear hat hsz
      go_wp2_with fail
      refine (at_any 0 T3.out).mono ?_
      rintro e w4 ⟨rfl, hb⟩
      have SE := Lib.hid (show seg (List.replicate (m + 1) Sg.zero) 0 = Sg.zero by have := seg_in (T := List.replicate (m + 1) Sg.zero) (k := 0) (by simp); simpa using this)
      rw [SE.out]
      have B4 := Lib.hid (B3.out.trans (hb.mono B3.out.size))
      have hq := fun w => seg_eql_yes 0 0 0 w
      clear hb
      have HE : (((m : Int) + 1) == 1 + (m : Int)) = true := by rw [Int.add_comm]; simp
      go_wp2
      go_ret
      exact ⟨rfl, B4.out⟩
end Go.Proofs.Ytpijapnidnkknaa
