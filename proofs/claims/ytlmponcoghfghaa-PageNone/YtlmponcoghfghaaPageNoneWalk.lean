/-
  THE WALK OF PageNone.
-/
import Derived.Test.YtlmponcoghfghaaAwake
namespace Go.Proofs.Ytlmponcoghfghaa
open Go.RowKit
set_option linter.unusedVariables false
set_option maxRecDepth 100000


theorem all3 (q : Nat) (sg ix : Int) : (#[.int .u64 (q : Int), .int .i64 sg, .int .i64 ix] : Array Value).all (·.oneCell') = true := by simp [Value.oneCell']
/-- The shape's box and the image's. -/
structure Non (w0 w : World) (sc ic : Array Value) : Prop where
  shp : At w w0.heap.size sc 32
  im : At w (w0.heap.size + 1) ic 37
  bel : Below w0.heap.size w0 w
theorem Non.up {w0 w w' : World} {sc ic : Array Value} (h : Non w0 w sc ic) (hb : Below w.heap.size w w') : Non w0 w' sc ic := ⟨h.shp.below hb h.shp.lt, h.im.below hb h.im.lt, h.bel.trans (hb.mono h.bel.size)⟩
set_option maxHeartbeats 2000000 in
theorem none_walk (m b g s n l : Int) (gen : Int) (q : Nat) (sg ix : Int) (A : Option Addr) (na c : Nat) (B : Option Addr) (nb e : Nat) (A2 : Option Addr) (n2 c2 : Nat) (w : World) :
    Calls Try.prog 5 #[sv m b g s n l, .int .u64 gen, .agg #[.int .u64 (q : Int), .int .i64 sg, .int .i64 ix, .slice A na c, .slice B nb e], .slice A2 n2 c2] w fun e w' => e = .returned (.bool true) ∧ Below w.heap.size w w' := by
  unfold sv
  have K := Lib.hid (show Non w ((w.alloc (.cells #[.int .i64 m, .int .i64 b, .int .i64 g, .int .i64 s, .int .i64 n, .int .i64 l] 32)).alloc (.cells #[.int .u64 (q : Int), .int .i64 sg, .int .i64 ix, .slice A na c, .slice B nb e] 37)) #[.int .i64 m, .int .i64 b, .int .i64 g, .int .i64 s, .int .i64 n, .int .i64 l] #[.int .u64 (q : Int), .int .i64 sg, .int .i64 ix, .slice A na c, .slice B nb e] from ⟨(At.new _ _ rfl).alloc _, At.new _ _ (by simp), BB2 _ _ _⟩)
  go_enter Try.func5, Try.ntmps5
  go_wp2_with fail
  refine (awake_any _).mono ?_
  rintro e w1 ⟨rfl, hb1⟩
  have K := Lib.hid (K.out.up hb1)
  clear hb1
  have j3 := K.out.im.cell 3; have j4 := K.out.im.cell 4
  by_cases h1 : 80 < na
  · have q1 : decide ((80 : Int) < (na : Int)) = true := decide_eq_true (by omega)
    go_wp2
    go_ret
    exact ⟨rfl, K.out.bel⟩
  have q1 : decide ((80 : Int) < (na : Int)) = false := decide_eq_false (by omega)
  by_cases h2 : 300 < nb
  · have q2 : decide ((300 : Int) < (nb : Int)) = true := decide_eq_true (by omega)
    go_wp2
    go_ret
    exact ⟨rfl, K.out.bel⟩
  have q2 : decide ((300 : Int) < (nb : Int)) = false := decide_eq_false (by omega)
  by_cases h3 : 40 < n2
  · have q3 : decide ((40 : Int) < (n2 : Int)) = true := decide_eq_true (by omega)
    go_wp2
    go_ret
    exact ⟨rfl, K.out.bel⟩
  have q3 : decide ((40 : Int) < (n2 : Int)) = false := decide_eq_false (by omega)
  have k0 := K.out.shp.cell 0; have k1 := K.out.shp.cell 1; have k2 := K.out.shp.cell 2; have k3 := K.out.shp.cell 3; have k4 := K.out.shp.cell 4; have k5 := K.out.shp.cell 5
  go_wp2_with fail
  clear k0 k1 k2 k3 k4 k5 j3 j4 q1 q2 q3
  by_cases ok : Ok m b g s n l
  · refine (check_ok m b g s n l ok _).mono ?_
    rintro e w2 ⟨rfl, hb2⟩
    have K := Lib.hid (K.out.up hb2)
    have OK := Lib.hid ok
    clear hb2 ok
    have j0 := K.out.im.cell 0; have j1 := K.out.im.cell 1; have j2 := K.out.im.cell 2; have j3 := K.out.im.cell 3; have j4 := K.out.im.cell 4
    have k0 := K.out.shp.cell 0; have k1 := K.out.shp.cell 1; have k2 := K.out.shp.cell 2; have k3 := K.out.shp.cell 3; have k4 := K.out.shp.cell 4; have k5 := K.out.shp.cell 5
    by_cases e1 : (na : Int) = g
    · by_cases e2 : (nb : Int) = l
      · subst e1 e2
        go_wp2
        go_ret
        exact ⟨rfl, K.out.bel⟩
      · have q2 : ((nb : Int) == l) = false := by simpa using e2
        subst e1
        go_wp2_with fail
        refine (encode_off m b (na : Int) s n l gen _ _ _ A na c B nb e _ (all3 q sg ix) OK.out (fun h => e2 h.2)).mono ?_
        rintro e w3 ⟨rfl, hb3⟩
        have K := Lib.hid (K.out.up hb3)
        clear hb3
        go_wp2
        go_ret
        exact ⟨rfl, K.out.bel⟩
    · have q1 : ((na : Int) == g) = false := by simpa using e1
      go_wp2_with fail
      refine (encode_off m b g s n l gen _ _ _ A na c B nb e _ (all3 q sg ix) OK.out (fun h => e1 h.1)).mono ?_
      rintro e w3 ⟨rfl, hb3⟩
      have K := Lib.hid (K.out.up hb3)
      clear hb3
      go_wp2
      go_ret
      exact ⟨rfl, K.out.bel⟩
  · refine (check_bad m b g s n l ok _).mono ?_
    rintro e w2 ⟨rfl, hb2⟩
    have K := Lib.hid (K.out.up hb2)
    have OK := Lib.hid ok
    clear hb2 ok
    have k0 := K.out.shp.cell 0; have k1 := K.out.shp.cell 1; have k2 := K.out.shp.cell 2; have k3 := K.out.shp.cell 3; have k4 := K.out.shp.cell 4; have k5 := K.out.shp.cell 5
    go_wp2_with fail
    clear k0 k1 k2 k3 k4 k5
    refine (decode_bad m b g s n l gen A2 n2 c2 _ OK.out).mono ?_
    rintro e w3 ⟨rfl, hb3⟩
    have K := Lib.hid (K.out.up hb3)
    have K := Lib.hid (K.out.up (BB1 w3 (.cells zcs 37)))
    clear hb3
    have j0 := K.out.im.cell 0; have j1 := K.out.im.cell 1; have j2 := K.out.im.cell 2; have j3 := K.out.im.cell 3; have j4 := K.out.im.cell 4
    have k0 := K.out.shp.cell 0; have k1 := K.out.shp.cell 1; have k2 := K.out.shp.cell 2; have k3 := K.out.shp.cell 3; have k4 := K.out.shp.cell 4; have k5 := K.out.shp.cell 5
    go_wp2_with fail
    clear j0 j1 j2 j3 j4 k0 k1 k2 k3 k4 k5
    refine (encode_bad m b g s n l gen _ _ _ A na c B nb e _ (all3 q sg ix) OK.out).mono ?_
    rintro e w4 ⟨rfl, hb4⟩
    have K := Lib.hid (K.out.up hb4)
    clear hb4
    go_wp2
    go_ret
    exact ⟨rfl, K.out.bel⟩
end Go.Proofs.Ytlmponcoghfghaa
