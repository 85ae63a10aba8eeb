/-
  THE WALKS OF Same AND Awake.
-/
import Derived.Test.YtmdgnglefikpjaaDecode
import Derived.Test.YtmdgnglefikpjaaTells
namespace Go.Proofs.Ytmdgnglefikpjaa
open Go.RowKit
set_option linter.unusedVariables false
set_option maxRecDepth 100000


set_option maxHeartbeats 800000 in
theorem same_any (q q' : Nat) (z z' : Int) (A B : Option Addr) (n m c d : Nat) (es fs : List En) (w : World) (hn : n ≤ 1000000) (hm : m ≤ 1000000) (h : Ers w A n es) (g : Ers w B m fs) :
    Calls Try.prog 13 #[.agg #[.int .u64 (q : Int), .int .i64 z, .slice A n c], .agg #[.int .u64 (q' : Int), .int .i64 z', .slice B m d]] w (Said ((⟨q, z, es⟩ : Nt) = ⟨q', z', fs⟩) w) := by
  have H := Lib.hid ((h.alloc (.cells #[.int .u64 (q : Int), .int .i64 z, .slice A n c] 28)).alloc (.cells #[.int .u64 (q' : Int), .int .i64 z', .slice B m d] 28))
  have G := Lib.hid ((g.alloc (.cells #[.int .u64 (q : Int), .int .i64 z, .slice A n c] 28)).alloc (.cells #[.int .u64 (q' : Int), .int .i64 z', .slice B m d] 28))
  have BB := Lib.hid (((Below.refl w.heap.size w).alloc (Nat.le_refl _) (.cells #[.int .u64 (q : Int), .int .i64 z, .slice A n c] 28)).alloc (by simp) (.cells #[.int .u64 (q' : Int), .int .i64 z', .slice B m d] 28))
  clear h g
  by_cases hq : q = q'
  · subst hq
    by_cases hz : z = z'
    · subst hz
      go_enter Try.func13, Try.ntmps13
      go_wp2_with fail
      refine (eequal_any A B n m c d es fs _ hn hm H.out G.out).mono ?_
      rintro e w1 ⟨b, rfl, hb, k, hw⟩
      have HB := Lib.hid hb
      have BB := Lib.hid (show Below w.heap.size w w1 by rw [hw]; exact below_drewN BB.out k)
      clear hb hw
      go_wp2
      go_ret
      refine ⟨b, rfl, ⟨fun e => by rw [HB.out.1 e], fun e => HB.out.2 (by injection e)⟩, BB.out⟩
    · have hd : (z == z') = false := by simpa using hz
      have HZ := Lib.hid hz
      clear hz
      go_enter Try.func13, Try.ntmps13
      go_wp2
      go_ret
      exact ⟨false, by simp_all, ⟨fun e => (by cases e), fun e => (HZ.out (by injection e)).elim⟩, BB.out⟩
  · have hd : ((q : Int) == (q' : Int)) = false := by simpa using (fun e : (q : Int) = (q' : Int) => hq (by omega))
    have HQ := Lib.hid hq
    clear hq
    go_enter Try.func13, Try.ntmps13
    go_wp2
    go_ret
    exact ⟨false, by simp_all, ⟨fun e => (by cases e), fun e => (HQ.out (by injection e)).elim⟩, BB.out⟩

set_option maxHeartbeats 800000 in
theorem awake_any (w : World) : Calls Try.prog 7 #[] w fun e w' => e = .returned (.bool true) ∧ Below w.heap.size w w' := by
  have TL := Lib.hid (told_len 5 0 [] 15 (by simp))
  have DD := Lib.hid (dec_told 5 0 [] 15 (by omega) (by omega) (fun x hx => (by cases hx)) (fun x hx => (by cases hx)) (by simp))
  go_enter Try.func7, Try.ntmps7
  go_wp2_with fail
  refine (encode_any 5 0 (-1) none 0 0 [] 0 15 w (by omega) (by omega) (by omega) (by omega) (by omega) rfl (fun x hx => (by cases hx)) (Ers.nil _ _)).mono ?_
  rintro e w1 ⟨v1, rfl, hf1⟩
  obtain ⟨A1, c1, rfl, hc1, hm1, _, hh1, _⟩ := own_slice hf1.1
  have H1 := Lib.hid hh1
  have C1 := Lib.hid (And.intro hc1 hm1)
  have BB := Lib.hid hf1.2
  clear hf1 hh1 hc1 hm1
  go_wp2_with fail
  refine (decode_any A1 15 c1 (told 5 0 [] 15) 0 w1 (by omega) C1.out.1 C1.out.2 H1.out).mono ?_
  rintro e w2 ⟨A2, c2, rfl, hE, hb2⟩
  have BB := Lib.hid (BB.out.trans (hb2.mono (up BB.out rfl)))
  have US := Lib.hid (up BB.out rfl)
  have e0 : dec (told 5 0 [] 15) 0 = _ := DD.out
  rw [e0]
  clear hE hb2 e0
  go_wp2
  go_ret
  exact ⟨rfl, BB.out.alloc US.out _⟩
end Go.Proofs.Ytmdgnglefikpjaa
