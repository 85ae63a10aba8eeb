/-
  THE WALK OF SuperApart: two labels of small shapes have the same sector just if they are the same.
-/
import Derived.Test.YtkhjeaabhjfkgaaAwake
import Derived.Deep.CutRange
import Derived.Deep.CutBlock
import Derived.Deep.DeepCutAuto
namespace Go.Proofs.Ytkhjeaabhjfkgaa
open Go.RowKit
set_option linter.unusedVariables false
set_option maxRecDepth 100000

/-- Two structs that came in lie in the first two blocks; nothing that was there has turned. -/
structure Apt (w0 w : World) (xs ys : Array Value) : Prop where
  x : At w w0.heap.size xs 23
  y : At w (w0.heap.size + 1) ys 23
  bel : Below w0.heap.size w0 w
theorem Apt.up {w0 w w' : World} {xs ys : Array Value} (h : Apt w0 w xs ys) (hb : Below w.heap.size w w') : Apt w0 w' xs ys :=
  ⟨h.x.below hb h.x.lt, h.y.below hb h.y.lt, h.bel.trans (hb.mono (Nat.le_of_lt h.x.lt))⟩
theorem Apt.alloc {w0 w : World} {xs ys : Array Value} (h : Apt w0 w xs ys) (o : Obj) : Apt w0 (w.alloc o) xs ys := h.up ((Below.refl _ _).alloc (Nat.le_refl _) o)
theorem Apt.but {w0 w w' : World} {xs ys : Array Value} {a : Nat} (h : Apt w0 w xs ys) (hb : But (fun k => k = a) w w') (ha : w0.heap.size + 1 < a) : Apt w0 w' xs ys :=
  ⟨h.x.but hb (by omega), h.y.but hb (by omega), h.bel.trans (hb.below (fun k e => by omega) (Nat.le_of_lt h.x.lt))⟩
theorem Apt.drew {w0 w : World} {xs ys : Array Value} (h : Apt w0 w xs ys) : Apt w0 w.drew xs ys := ⟨h.x, h.y, below_drewN h.bel 1⟩
/-- Two labels, each in a block of its own. -/
structure Two (w0 w : World) (a c : Nat) (x y : Lab) : Prop where
  x : At w a x.cs 29
  y : At w c y.cs 29
  ge : w0.heap.size ≤ a ∧ w0.heap.size ≤ c
  bel : Below w0.heap.size w0 w
theorem Two.up {w0 w w' : World} {a c : Nat} {x y : Lab} (h : Two w0 w a c x y) (hb : Below w.heap.size w w') : Two w0 w' a c x y :=
  ⟨h.x.below hb h.x.lt, h.y.below hb h.y.lt, h.ge, h.bel.trans (hb.mono h.bel.size)⟩

set_option maxHeartbeats 4000000 in
theorem apart_of (x0 x1 x2 x3 x4 x5 y0 y1 y2 y3 y4 y5 : Int) (p q : Nat) (hp : p < 256) (hq : q < 256) (m b g s n l m' b' g' s' n' l' : Nat) (ok : Hid (Ok (m : Int) b g s n l)) (ok' : Hid (Ok (m' : Int) b' g' s' n' l')) (SHP : Hid (Shaped x0 x1 x2 x3 x4 x5 m b g s n l)) (SHP' : Hid (Shaped y0 y1 y2 y3 y4 y5 m' b' g' s' n' l')) (w : World) :
    Calls Try.prog 6 #[.agg #[.int .u8 x0, .int .u8 x1, .int .u8 x2, .int .u8 x3, .int .u8 x4, .int .u8 x5], .agg #[.int .u8 y0, .int .u8 y1, .int .u8 y2, .int .u8 y3, .int .u8 y4, .int .u8 y5], .int .u8 (p : Int), .int .u8 (q : Int)] w fun e w' => e = .returned (.bool true) ∧ Below w.heap.size w w' := by
  have T := Lib.hid (show Apt w ((w.alloc (.cells #[.int .u8 x0, .int .u8 x1, .int .u8 x2, .int .u8 x3, .int .u8 x4, .int .u8 x5] 23)).alloc (.cells #[.int .u8 y0, .int .u8 y1, .int .u8 y2, .int .u8 y3, .int .u8 y4, .int .u8 y5] 23)) #[.int .u8 x0, .int .u8 x1, .int .u8 x2, .int .u8 x3, .int .u8 x4, .int .u8 x5] #[.int .u8 y0, .int .u8 y1, .int .u8 y2, .int .u8 y3, .int .u8 y4, .int .u8 y5] from ⟨(At.new _ _ rfl).alloc _, At.new _ _ (by simp), ((Below.refl _ _).alloc (Nat.le_refl _) _).alloc (by simp) _⟩)
  go_enter Try.func6, Try.ntmps6
  go_wp2_with fail
  refine (awake_any _).mono ?_
  rintro e w1 ⟨rfl, hb'⟩
  have T := Lib.hid (T.out.up hb')
  clear hb'
  go_upto_region 3 with (fail)
  go_cut [9, 10] (fun s9 s10 wc => ∃ a c : Nat, s9 = .pointer (some ⟨a, 0, none⟩) ∧ s10 = .pointer (some ⟨c, 0, none⟩) ∧ Two w wc a c (Lab.mk m b g s n l p) (Lab.mk m' b' g' s' n' l' q))
  case first =>
    have T := Lib.hid (show Apt w w1.drew #[.int .u8 x0, .int .u8 x1, .int .u8 x2, .int .u8 x3, .int .u8 x4, .int .u8 x5] #[.int .u8 y0, .int .u8 y1, .int .u8 y2, .int .u8 y3, .int .u8 y4, .int .u8 y5] from T.out.drew)
    refine wp_region_early (fun w' => Apt w w' #[.int .u8 x0, .int .u8 x1, .int .u8 x2, .int .u8 x3, .int .u8 x4, .int .u8 x5] #[.int .u8 y0, .int .u8 y1, .int .u8 y2, .int .u8 y3, .int .u8 y4, .int .u8 y5]) (fun _ => true) (by kernel_rfl) ?_
    change wpEarly _ _ _ _ _ _ 14 (Array.replicate 14 false) _ w1.drew
    obtain ⟨u1, hu1⟩ : ∃ u, u = w1.drew := ⟨_, rfl⟩
    rw [← hu1] at T ⊢
    clear hu1
    refine early_take (i := 0) 13 (.agg #[.int .u8 x0, .int .u8 x1, .int .u8 x2, .int .u8 x3, .int .u8 x4, .int .u8 x5]) rfl rfl (by kernel_rfl) (by kernel_rfl) (by kernel_rfl) (by kernel_rfl) rfl (fun _ _ _ h => h) (fun w' hw' => exec_load_whole (x := .tmp 4) rfl rfl hw'.x Try.underlying23 size23) T.out ?_
    simp only [Act.put, List.setIfInBounds_toArray, List.set_cons_zero, List.set_cons_succ]
    refine early_take (i := 2) 15 (.int .u8 (p : Int)) rfl rfl (by kernel_rfl) (by kernel_rfl) (by kernel_rfl) (by kernel_rfl) rfl (fun _ _ _ h => h) (fun w' hw' => by go_simp) T.out ?_
    simp only [Act.put, List.setIfInBounds_toArray, List.set_cons_zero, List.set_cons_succ]
    refine early_take (i := 3) 16 (.int .i64 (p : Int)) rfl rfl (by kernel_rfl) (by kernel_rfl) (by kernel_rfl) (by kernel_rfl) rfl (fun _ _ _ h => h) (fun w' hw' => by go_simp; exact wrap_of (by omega) (by omega)) T.out ?_
    simp only [Act.put, List.setIfInBounds_toArray, List.set_cons_zero, List.set_cons_succ]
    refine early_take (i := 5) 18 (.agg #[.int .u8 y0, .int .u8 y1, .int .u8 y2, .int .u8 y3, .int .u8 y4, .int .u8 y5]) rfl rfl (by kernel_rfl) (by kernel_rfl) (by kernel_rfl) (by kernel_rfl) rfl (fun _ _ _ h => h) (fun w' hw' => exec_load_whole (x := .tmp 5) rfl rfl hw'.y Try.underlying23 size23) T.out ?_
    simp only [Act.put, List.setIfInBounds_toArray, List.set_cons_zero, List.set_cons_succ]
    refine early_take (i := 7) 20 (.int .u8 (q : Int)) rfl rfl (by kernel_rfl) (by kernel_rfl) (by kernel_rfl) (by kernel_rfl) rfl (fun _ _ _ h => h) (fun w' hw' => by go_simp) T.out ?_
    simp only [Act.put, List.setIfInBounds_toArray, List.set_cons_zero, List.set_cons_succ]
    refine early_take (i := 8) 21 (.int .i64 (q : Int)) rfl rfl (by kernel_rfl) (by kernel_rfl) (by kernel_rfl) (by kernel_rfl) rfl (fun _ _ _ h => h) (fun w' hw' => by go_simp; exact wrap_of (by omega) (by omega)) T.out ?_
    simp only [Act.put, List.setIfInBounds_toArray, List.set_cons_zero, List.set_cons_succ]
    refine early_three (i := 1) (j := 10) (k := 11) (by kernel_rfl) ⟨rfl, fun K hK => ?_⟩ ⟨rfl, fun K hK => ?_⟩ ⟨rfl, fun K hK => ?_⟩
    · simp only [opWp, List.getElem?_toArray, List.getElem?_cons_succ, List.getElem?_cons_zero]
      go_simp
      go_at_call 8
      refine (SHP.out _).mono ?_
      rintro e u2 ⟨rfl, hb⟩
      have T := Lib.hid (T.out.up hb)
      clear hb
      refine hK _ _ (fun _ => T.out) ?_
      refine early_take (i := 4) 17 (.agg (Lab.mk m b g s n l p).cs) rfl rfl (by kernel_rfl) (by kernel_rfl) (by kernel_rfl) (by kernel_rfl) rfl (fun _ _ _ h => h) (fun w' hw' => by go_simp; rfl) T.out ?_
      simp only [Act.put, List.setIfInBounds_toArray, List.set_cons_zero, List.set_cons_succ]
      refine early_three (i := 6) (j := 10) (k := 11) (by kernel_rfl) ⟨rfl, fun K hK => ?_⟩ ⟨rfl, fun K hK => ?_⟩ ⟨rfl, fun K hK => ?_⟩
      · simp only [opWp, List.getElem?_toArray, List.getElem?_cons_succ, List.getElem?_cons_zero]
        go_simp
        go_at_call 8
        refine (SHP'.out _).mono ?_
        rintro e u3 ⟨rfl, hb⟩
        have T := Lib.hid (T.out.up hb)
        clear hb
        refine hK _ _ (fun _ => T.out) ?_
        refine early_take (i := 9) 22 (.agg (Lab.mk m' b' g' s' n' l' q).cs) rfl rfl (by kernel_rfl) (by kernel_rfl) (by kernel_rfl) (by kernel_rfl) rfl (fun _ _ _ h => h) (fun w' hw' => by go_simp; rfl) T.out ?_
        simp only [Act.put, List.setIfInBounds_toArray, List.set_cons_zero, List.set_cons_succ]
        refine early_two (i := 10) (j := 11) (by kernel_rfl) ⟨rfl, fun K hK => ?_⟩ ⟨rfl, fun K hK => ?_⟩
        · simp only [opWp, List.getElem?_toArray, List.getElem?_cons_succ, List.getElem?_cons_zero]
          go_simp
          have NBZ9 := Lib.hid (show w.heap.size + 1 < u3.heap.size from T.out.y.lt)
          have T := Lib.hid (T.out.alloc (.cells #[.int .i64 0, .int .i64 0, .int .i64 0, .int .i64 0, .int .i64 0, .int .i64 0, .int .i64 0] 29))
          have Z9 := Lib.hid (At.new (w := u3) (g := u3.heap.size) #[.int .i64 0, .int .i64 0, .int .i64 0, .int .i64 0, .int .i64 0, .int .i64 0, .int .i64 0] 29 rfl)
          generalize u3.alloc (.cells #[.int .i64 0, .int .i64 0, .int .i64 0, .int .i64 0, .int .i64 0, .int .i64 0, .int .i64 0] 29) = u4 at *
          generalize u3.heap.size = a4 at *
          refine hK _ _ (fun _ => T.out) ?_
          refine early_only (i := 11) (by kernel_rfl) rfl (fun K hK => ?_)
          simp only [opWp, List.getElem?_toArray, List.getElem?_cons_succ, List.getElem?_cons_zero]
          go_simp
          have NBZ10 := Lib.hid (show w.heap.size + 1 < u4.heap.size from T.out.y.lt)
          have NE := Lib.hid (show a4 < u4.heap.size from Z9.out.lt)
          have T := Lib.hid (T.out.alloc (.cells #[.int .i64 0, .int .i64 0, .int .i64 0, .int .i64 0, .int .i64 0, .int .i64 0, .int .i64 0] 29))
          have Z9 := Lib.hid (Z9.out.alloc (.cells #[.int .i64 0, .int .i64 0, .int .i64 0, .int .i64 0, .int .i64 0, .int .i64 0, .int .i64 0] 29))
          have Z10 := Lib.hid (At.new (w := u4) (g := u4.heap.size) #[.int .i64 0, .int .i64 0, .int .i64 0, .int .i64 0, .int .i64 0, .int .i64 0, .int .i64 0] 29 rfl)
          generalize u4.alloc (.cells #[.int .i64 0, .int .i64 0, .int .i64 0, .int .i64 0, .int .i64 0, .int .i64 0, .int .i64 0] 29) = u5 at *
          generalize u4.heap.size = a5 at *
          refine hK _ _ (fun _ => T.out) ?_
          refine early_only (i := 12) (by kernel_rfl) rfl (fun K hK => ?_)
          simp only [opWp, List.getElem?_toArray, List.getElem?_cons_succ, List.getElem?_cons_zero]
          refine wp_store_part 29 (.tmp 9) (.tmp 17) rfl a4 0 29 #[.int .i64 0, .int .i64 0, .int .i64 0, .int .i64 0, .int .i64 0, .int .i64 0, .int .i64 0] (Lab.mk m b g s n l p).cs rfl rfl Z9.out size29 (by simp [cs_size]) (cs_all _) ?_
          intro u6 hat hb
          rw [show part #[.int .i64 0, .int .i64 0, .int .i64 0, .int .i64 0, .int .i64 0, .int .i64 0, .int .i64 0] 0 (Lab.mk m b g s n l p).cs = (Lab.mk m b g s n l p).cs from rfl] at hat
          have T := Lib.hid (T.out.but hb NBZ9.out)
          have Z10 := Lib.hid (Z10.out.but hb (by have := NE.out; omega))
          have Z9 := Lib.hid hat
          clear hat hb
          refine hK _ _ (fun _ => T.out) ?_
          refine early_only (i := 13) (by kernel_rfl) rfl (fun K hK => ?_)
          simp only [opWp, List.getElem?_toArray, List.getElem?_cons_succ, List.getElem?_cons_zero]
          refine wp_store_part 29 (.tmp 10) (.tmp 22) rfl a5 0 29 #[.int .i64 0, .int .i64 0, .int .i64 0, .int .i64 0, .int .i64 0, .int .i64 0, .int .i64 0] (Lab.mk m' b' g' s' n' l' q).cs rfl rfl Z10.out size29 (by simp [cs_size]) (cs_all _) ?_
          intro u7 hat hb
          rw [show part #[.int .i64 0, .int .i64 0, .int .i64 0, .int .i64 0, .int .i64 0, .int .i64 0, .int .i64 0] 0 (Lab.mk m' b' g' s' n' l' q).cs = (Lab.mk m' b' g' s' n' l' q).cs from rfl] at hat
          have T := Lib.hid (T.out.but hb NBZ10.out)
          have Z9 := Lib.hid (Z9.out.but hb (by have := NE.out; omega))
          have Z10 := Lib.hid hat
          clear hat hb
          refine hK _ _ (fun _ => T.out) ?_
          refine early_done (by kernel_rfl) ?_
          go_wp2_with fail
          go_meet
          exact ⟨_, _, rfl, rfl, Z9.out, Z10.out, ⟨by have := NBZ9.out; omega, by have := NBZ10.out; omega⟩, T.out.bel⟩
        · simp only [opWp, List.getElem?_toArray, List.getElem?_cons_succ, List.getElem?_cons_zero]
          go_simp
          have NBZ10 := Lib.hid (show w.heap.size + 1 < u3.heap.size from T.out.y.lt)
          have T := Lib.hid (T.out.alloc (.cells #[.int .i64 0, .int .i64 0, .int .i64 0, .int .i64 0, .int .i64 0, .int .i64 0, .int .i64 0] 29))
          have Z10 := Lib.hid (At.new (w := u3) (g := u3.heap.size) #[.int .i64 0, .int .i64 0, .int .i64 0, .int .i64 0, .int .i64 0, .int .i64 0, .int .i64 0] 29 rfl)
          generalize u3.alloc (.cells #[.int .i64 0, .int .i64 0, .int .i64 0, .int .i64 0, .int .i64 0, .int .i64 0, .int .i64 0] 29) = u8 at *
          generalize u3.heap.size = a8 at *
          refine hK _ _ (fun _ => T.out) ?_
          refine early_only (i := 10) (by kernel_rfl) rfl (fun K hK => ?_)
          simp only [opWp, List.getElem?_toArray, List.getElem?_cons_succ, List.getElem?_cons_zero]
          go_simp
          have NBZ9 := Lib.hid (show w.heap.size + 1 < u8.heap.size from T.out.y.lt)
          have NE := Lib.hid (show a8 < u8.heap.size from Z10.out.lt)
          have T := Lib.hid (T.out.alloc (.cells #[.int .i64 0, .int .i64 0, .int .i64 0, .int .i64 0, .int .i64 0, .int .i64 0, .int .i64 0] 29))
          have Z10 := Lib.hid (Z10.out.alloc (.cells #[.int .i64 0, .int .i64 0, .int .i64 0, .int .i64 0, .int .i64 0, .int .i64 0, .int .i64 0] 29))
          have Z9 := Lib.hid (At.new (w := u8) (g := u8.heap.size) #[.int .i64 0, .int .i64 0, .int .i64 0, .int .i64 0, .int .i64 0, .int .i64 0, .int .i64 0] 29 rfl)
          generalize u8.alloc (.cells #[.int .i64 0, .int .i64 0, .int .i64 0, .int .i64 0, .int .i64 0, .int .i64 0, .int .i64 0] 29) = u9 at *
          generalize u8.heap.size = a9 at *
          refine hK _ _ (fun _ => T.out) ?_
          refine early_only (i := 12) (by kernel_rfl) rfl (fun K hK => ?_)
          simp only [opWp, List.getElem?_toArray, List.getElem?_cons_succ, List.getElem?_cons_zero]
          refine wp_store_part 29 (.tmp 9) (.tmp 17) rfl a9 0 29 #[.int .i64 0, .int .i64 0, .int .i64 0, .int .i64 0, .int .i64 0, .int .i64 0, .int .i64 0] (Lab.mk m b g s n l p).cs rfl rfl Z9.out size29 (by simp [cs_size]) (cs_all _) ?_
          intro u10 hat hb
          rw [show part #[.int .i64 0, .int .i64 0, .int .i64 0, .int .i64 0, .int .i64 0, .int .i64 0, .int .i64 0] 0 (Lab.mk m b g s n l p).cs = (Lab.mk m b g s n l p).cs from rfl] at hat
          have T := Lib.hid (T.out.but hb NBZ9.out)
          have Z10 := Lib.hid (Z10.out.but hb (by have := NE.out; omega))
          have Z9 := Lib.hid hat
          clear hat hb
          refine hK _ _ (fun _ => T.out) ?_
          refine early_only (i := 13) (by kernel_rfl) rfl (fun K hK => ?_)
          simp only [opWp, List.getElem?_toArray, List.getElem?_cons_succ, List.getElem?_cons_zero]
          refine wp_store_part 29 (.tmp 10) (.tmp 22) rfl a8 0 29 #[.int .i64 0, .int .i64 0, .int .i64 0, .int .i64 0, .int .i64 0, .int .i64 0, .int .i64 0] (Lab.mk m' b' g' s' n' l' q).cs rfl rfl Z10.out size29 (by simp [cs_size]) (cs_all _) ?_
          intro u11 hat hb
          rw [show part #[.int .i64 0, .int .i64 0, .int .i64 0, .int .i64 0, .int .i64 0, .int .i64 0, .int .i64 0] 0 (Lab.mk m' b' g' s' n' l' q).cs = (Lab.mk m' b' g' s' n' l' q).cs from rfl] at hat
          have T := Lib.hid (T.out.but hb NBZ10.out)
          have Z9 := Lib.hid (Z9.out.but hb (by have := NE.out; omega))
          have Z10 := Lib.hid hat
          clear hat hb
          refine hK _ _ (fun _ => T.out) ?_
          refine early_done (by kernel_rfl) ?_
          go_wp2_with fail
          go_meet
          exact ⟨_, _, rfl, rfl, Z9.out, Z10.out, ⟨by have := NBZ9.out; omega, by have := NBZ10.out; omega⟩, T.out.bel⟩
      · simp only [opWp, List.getElem?_toArray, List.getElem?_cons_succ, List.getElem?_cons_zero]
        go_simp
        have NBZ9 := Lib.hid (show w.heap.size + 1 < u2.heap.size from T.out.y.lt)
        have T := Lib.hid (T.out.alloc (.cells #[.int .i64 0, .int .i64 0, .int .i64 0, .int .i64 0, .int .i64 0, .int .i64 0, .int .i64 0] 29))
        have Z9 := Lib.hid (At.new (w := u2) (g := u2.heap.size) #[.int .i64 0, .int .i64 0, .int .i64 0, .int .i64 0, .int .i64 0, .int .i64 0, .int .i64 0] 29 rfl)
        generalize u2.alloc (.cells #[.int .i64 0, .int .i64 0, .int .i64 0, .int .i64 0, .int .i64 0, .int .i64 0, .int .i64 0] 29) = u12 at *
        generalize u2.heap.size = a12 at *
        refine hK _ _ (fun _ => T.out) ?_
        refine early_two (i := 6) (j := 11) (by kernel_rfl) ⟨rfl, fun K hK => ?_⟩ ⟨rfl, fun K hK => ?_⟩
        · simp only [opWp, List.getElem?_toArray, List.getElem?_cons_succ, List.getElem?_cons_zero]
          go_simp
          go_at_call 8
          refine (SHP'.out _).mono ?_
          rintro e u13 ⟨rfl, hb⟩
          have T := Lib.hid (T.out.up hb)
          have Z9 := Lib.hid (Z9.out.below hb Z9.out.lt)
          clear hb
          refine hK _ _ (fun _ => T.out) ?_
          refine early_take (i := 9) 22 (.agg (Lab.mk m' b' g' s' n' l' q).cs) rfl rfl (by kernel_rfl) (by kernel_rfl) (by kernel_rfl) (by kernel_rfl) rfl (fun _ _ _ h => h) (fun w' hw' => by go_simp; rfl) T.out ?_
          simp only [Act.put, List.setIfInBounds_toArray, List.set_cons_zero, List.set_cons_succ]
          refine early_only (i := 11) (by kernel_rfl) rfl (fun K hK => ?_)
          simp only [opWp, List.getElem?_toArray, List.getElem?_cons_succ, List.getElem?_cons_zero]
          go_simp
          have NBZ10 := Lib.hid (show w.heap.size + 1 < u13.heap.size from T.out.y.lt)
          have NE := Lib.hid (show a12 < u13.heap.size from Z9.out.lt)
          have T := Lib.hid (T.out.alloc (.cells #[.int .i64 0, .int .i64 0, .int .i64 0, .int .i64 0, .int .i64 0, .int .i64 0, .int .i64 0] 29))
          have Z9 := Lib.hid (Z9.out.alloc (.cells #[.int .i64 0, .int .i64 0, .int .i64 0, .int .i64 0, .int .i64 0, .int .i64 0, .int .i64 0] 29))
          have Z10 := Lib.hid (At.new (w := u13) (g := u13.heap.size) #[.int .i64 0, .int .i64 0, .int .i64 0, .int .i64 0, .int .i64 0, .int .i64 0, .int .i64 0] 29 rfl)
          generalize u13.alloc (.cells #[.int .i64 0, .int .i64 0, .int .i64 0, .int .i64 0, .int .i64 0, .int .i64 0, .int .i64 0] 29) = u14 at *
          generalize u13.heap.size = a14 at *
          refine hK _ _ (fun _ => T.out) ?_
          refine early_only (i := 12) (by kernel_rfl) rfl (fun K hK => ?_)
          simp only [opWp, List.getElem?_toArray, List.getElem?_cons_succ, List.getElem?_cons_zero]
          refine wp_store_part 29 (.tmp 9) (.tmp 17) rfl a12 0 29 #[.int .i64 0, .int .i64 0, .int .i64 0, .int .i64 0, .int .i64 0, .int .i64 0, .int .i64 0] (Lab.mk m b g s n l p).cs rfl rfl Z9.out size29 (by simp [cs_size]) (cs_all _) ?_
          intro u15 hat hb
          rw [show part #[.int .i64 0, .int .i64 0, .int .i64 0, .int .i64 0, .int .i64 0, .int .i64 0, .int .i64 0] 0 (Lab.mk m b g s n l p).cs = (Lab.mk m b g s n l p).cs from rfl] at hat
          have T := Lib.hid (T.out.but hb NBZ9.out)
          have Z10 := Lib.hid (Z10.out.but hb (by have := NE.out; omega))
          have Z9 := Lib.hid hat
          clear hat hb
          refine hK _ _ (fun _ => T.out) ?_
          refine early_only (i := 13) (by kernel_rfl) rfl (fun K hK => ?_)
          simp only [opWp, List.getElem?_toArray, List.getElem?_cons_succ, List.getElem?_cons_zero]
          refine wp_store_part 29 (.tmp 10) (.tmp 22) rfl a14 0 29 #[.int .i64 0, .int .i64 0, .int .i64 0, .int .i64 0, .int .i64 0, .int .i64 0, .int .i64 0] (Lab.mk m' b' g' s' n' l' q).cs rfl rfl Z10.out size29 (by simp [cs_size]) (cs_all _) ?_
          intro u16 hat hb
          rw [show part #[.int .i64 0, .int .i64 0, .int .i64 0, .int .i64 0, .int .i64 0, .int .i64 0, .int .i64 0] 0 (Lab.mk m' b' g' s' n' l' q).cs = (Lab.mk m' b' g' s' n' l' q).cs from rfl] at hat
          have T := Lib.hid (T.out.but hb NBZ10.out)
          have Z9 := Lib.hid (Z9.out.but hb (by have := NE.out; omega))
          have Z10 := Lib.hid hat
          clear hat hb
          refine hK _ _ (fun _ => T.out) ?_
          refine early_done (by kernel_rfl) ?_
          go_wp2_with fail
          go_meet
          exact ⟨_, _, rfl, rfl, Z9.out, Z10.out, ⟨by have := NBZ9.out; omega, by have := NBZ10.out; omega⟩, T.out.bel⟩
        · simp only [opWp, List.getElem?_toArray, List.getElem?_cons_succ, List.getElem?_cons_zero]
          go_simp
          have NBZ10 := Lib.hid (show w.heap.size + 1 < u12.heap.size from T.out.y.lt)
          have NE := Lib.hid (show a12 < u12.heap.size from Z9.out.lt)
          have T := Lib.hid (T.out.alloc (.cells #[.int .i64 0, .int .i64 0, .int .i64 0, .int .i64 0, .int .i64 0, .int .i64 0, .int .i64 0] 29))
          have Z9 := Lib.hid (Z9.out.alloc (.cells #[.int .i64 0, .int .i64 0, .int .i64 0, .int .i64 0, .int .i64 0, .int .i64 0, .int .i64 0] 29))
          have Z10 := Lib.hid (At.new (w := u12) (g := u12.heap.size) #[.int .i64 0, .int .i64 0, .int .i64 0, .int .i64 0, .int .i64 0, .int .i64 0, .int .i64 0] 29 rfl)
          generalize u12.alloc (.cells #[.int .i64 0, .int .i64 0, .int .i64 0, .int .i64 0, .int .i64 0, .int .i64 0, .int .i64 0] 29) = u17 at *
          generalize u12.heap.size = a17 at *
          refine hK _ _ (fun _ => T.out) ?_
          refine early_only (i := 6) (by kernel_rfl) rfl (fun K hK => ?_)
          simp only [opWp, List.getElem?_toArray, List.getElem?_cons_succ, List.getElem?_cons_zero]
          go_simp
          go_at_call 8
          refine (SHP'.out _).mono ?_
          rintro e u18 ⟨rfl, hb⟩
          have T := Lib.hid (T.out.up hb)
          have Z9 := Lib.hid (Z9.out.below hb Z9.out.lt)
          have Z10 := Lib.hid (Z10.out.below hb Z10.out.lt)
          clear hb
          refine hK _ _ (fun _ => T.out) ?_
          refine early_take (i := 9) 22 (.agg (Lab.mk m' b' g' s' n' l' q).cs) rfl rfl (by kernel_rfl) (by kernel_rfl) (by kernel_rfl) (by kernel_rfl) rfl (fun _ _ _ h => h) (fun w' hw' => by go_simp; rfl) T.out ?_
          simp only [Act.put, List.setIfInBounds_toArray, List.set_cons_zero, List.set_cons_succ]
          refine early_only (i := 12) (by kernel_rfl) rfl (fun K hK => ?_)
          simp only [opWp, List.getElem?_toArray, List.getElem?_cons_succ, List.getElem?_cons_zero]
          refine wp_store_part 29 (.tmp 9) (.tmp 17) rfl a12 0 29 #[.int .i64 0, .int .i64 0, .int .i64 0, .int .i64 0, .int .i64 0, .int .i64 0, .int .i64 0] (Lab.mk m b g s n l p).cs rfl rfl Z9.out size29 (by simp [cs_size]) (cs_all _) ?_
          intro u19 hat hb
          rw [show part #[.int .i64 0, .int .i64 0, .int .i64 0, .int .i64 0, .int .i64 0, .int .i64 0, .int .i64 0] 0 (Lab.mk m b g s n l p).cs = (Lab.mk m b g s n l p).cs from rfl] at hat
          have T := Lib.hid (T.out.but hb NBZ9.out)
          have Z10 := Lib.hid (Z10.out.but hb (by have := NE.out; omega))
          have Z9 := Lib.hid hat
          clear hat hb
          refine hK _ _ (fun _ => T.out) ?_
          refine early_only (i := 13) (by kernel_rfl) rfl (fun K hK => ?_)
          simp only [opWp, List.getElem?_toArray, List.getElem?_cons_succ, List.getElem?_cons_zero]
          refine wp_store_part 29 (.tmp 10) (.tmp 22) rfl a17 0 29 #[.int .i64 0, .int .i64 0, .int .i64 0, .int .i64 0, .int .i64 0, .int .i64 0, .int .i64 0] (Lab.mk m' b' g' s' n' l' q).cs rfl rfl Z10.out size29 (by simp [cs_size]) (cs_all _) ?_
          intro u20 hat hb
          rw [show part #[.int .i64 0, .int .i64 0, .int .i64 0, .int .i64 0, .int .i64 0, .int .i64 0, .int .i64 0] 0 (Lab.mk m' b' g' s' n' l' q).cs = (Lab.mk m' b' g' s' n' l' q).cs from rfl] at hat
          have T := Lib.hid (T.out.but hb NBZ10.out)
          have Z9 := Lib.hid (Z9.out.but hb (by have := NE.out; omega))
          have Z10 := Lib.hid hat
          clear hat hb
          refine hK _ _ (fun _ => T.out) ?_
          refine early_done (by kernel_rfl) ?_
          go_wp2_with fail
          go_meet
          exact ⟨_, _, rfl, rfl, Z9.out, Z10.out, ⟨by have := NBZ9.out; omega, by have := NBZ10.out; omega⟩, T.out.bel⟩
      · simp only [opWp, List.getElem?_toArray, List.getElem?_cons_succ, List.getElem?_cons_zero]
        go_simp
        have NBZ10 := Lib.hid (show w.heap.size + 1 < u2.heap.size from T.out.y.lt)
        have T := Lib.hid (T.out.alloc (.cells #[.int .i64 0, .int .i64 0, .int .i64 0, .int .i64 0, .int .i64 0, .int .i64 0, .int .i64 0] 29))
        have Z10 := Lib.hid (At.new (w := u2) (g := u2.heap.size) #[.int .i64 0, .int .i64 0, .int .i64 0, .int .i64 0, .int .i64 0, .int .i64 0, .int .i64 0] 29 rfl)
        generalize u2.alloc (.cells #[.int .i64 0, .int .i64 0, .int .i64 0, .int .i64 0, .int .i64 0, .int .i64 0, .int .i64 0] 29) = u21 at *
        generalize u2.heap.size = a21 at *
        refine hK _ _ (fun _ => T.out) ?_
        refine early_two (i := 6) (j := 10) (by kernel_rfl) ⟨rfl, fun K hK => ?_⟩ ⟨rfl, fun K hK => ?_⟩
        · simp only [opWp, List.getElem?_toArray, List.getElem?_cons_succ, List.getElem?_cons_zero]
          go_simp
          go_at_call 8
          refine (SHP'.out _).mono ?_
          rintro e u22 ⟨rfl, hb⟩
          have T := Lib.hid (T.out.up hb)
          have Z10 := Lib.hid (Z10.out.below hb Z10.out.lt)
          clear hb
          refine hK _ _ (fun _ => T.out) ?_
          refine early_take (i := 9) 22 (.agg (Lab.mk m' b' g' s' n' l' q).cs) rfl rfl (by kernel_rfl) (by kernel_rfl) (by kernel_rfl) (by kernel_rfl) rfl (fun _ _ _ h => h) (fun w' hw' => by go_simp; rfl) T.out ?_
          simp only [Act.put, List.setIfInBounds_toArray, List.set_cons_zero, List.set_cons_succ]
          refine early_only (i := 10) (by kernel_rfl) rfl (fun K hK => ?_)
          simp only [opWp, List.getElem?_toArray, List.getElem?_cons_succ, List.getElem?_cons_zero]
          go_simp
          have NBZ9 := Lib.hid (show w.heap.size + 1 < u22.heap.size from T.out.y.lt)
          have NE := Lib.hid (show a21 < u22.heap.size from Z10.out.lt)
          have T := Lib.hid (T.out.alloc (.cells #[.int .i64 0, .int .i64 0, .int .i64 0, .int .i64 0, .int .i64 0, .int .i64 0, .int .i64 0] 29))
          have Z10 := Lib.hid (Z10.out.alloc (.cells #[.int .i64 0, .int .i64 0, .int .i64 0, .int .i64 0, .int .i64 0, .int .i64 0, .int .i64 0] 29))
          have Z9 := Lib.hid (At.new (w := u22) (g := u22.heap.size) #[.int .i64 0, .int .i64 0, .int .i64 0, .int .i64 0, .int .i64 0, .int .i64 0, .int .i64 0] 29 rfl)
          generalize u22.alloc (.cells #[.int .i64 0, .int .i64 0, .int .i64 0, .int .i64 0, .int .i64 0, .int .i64 0, .int .i64 0] 29) = u23 at *
          generalize u22.heap.size = a23 at *
          refine hK _ _ (fun _ => T.out) ?_
          refine early_only (i := 12) (by kernel_rfl) rfl (fun K hK => ?_)
          simp only [opWp, List.getElem?_toArray, List.getElem?_cons_succ, List.getElem?_cons_zero]
          refine wp_store_part 29 (.tmp 9) (.tmp 17) rfl a23 0 29 #[.int .i64 0, .int .i64 0, .int .i64 0, .int .i64 0, .int .i64 0, .int .i64 0, .int .i64 0] (Lab.mk m b g s n l p).cs rfl rfl Z9.out size29 (by simp [cs_size]) (cs_all _) ?_
          intro u24 hat hb
          rw [show part #[.int .i64 0, .int .i64 0, .int .i64 0, .int .i64 0, .int .i64 0, .int .i64 0, .int .i64 0] 0 (Lab.mk m b g s n l p).cs = (Lab.mk m b g s n l p).cs from rfl] at hat
          have T := Lib.hid (T.out.but hb NBZ9.out)
          have Z10 := Lib.hid (Z10.out.but hb (by have := NE.out; omega))
          have Z9 := Lib.hid hat
          clear hat hb
          refine hK _ _ (fun _ => T.out) ?_
          refine early_only (i := 13) (by kernel_rfl) rfl (fun K hK => ?_)
          simp only [opWp, List.getElem?_toArray, List.getElem?_cons_succ, List.getElem?_cons_zero]
          refine wp_store_part 29 (.tmp 10) (.tmp 22) rfl a21 0 29 #[.int .i64 0, .int .i64 0, .int .i64 0, .int .i64 0, .int .i64 0, .int .i64 0, .int .i64 0] (Lab.mk m' b' g' s' n' l' q).cs rfl rfl Z10.out size29 (by simp [cs_size]) (cs_all _) ?_
          intro u25 hat hb
          rw [show part #[.int .i64 0, .int .i64 0, .int .i64 0, .int .i64 0, .int .i64 0, .int .i64 0, .int .i64 0] 0 (Lab.mk m' b' g' s' n' l' q).cs = (Lab.mk m' b' g' s' n' l' q).cs from rfl] at hat
          have T := Lib.hid (T.out.but hb NBZ10.out)
          have Z9 := Lib.hid (Z9.out.but hb (by have := NE.out; omega))
          have Z10 := Lib.hid hat
          clear hat hb
          refine hK _ _ (fun _ => T.out) ?_
          refine early_done (by kernel_rfl) ?_
          go_wp2_with fail
          go_meet
          exact ⟨_, _, rfl, rfl, Z9.out, Z10.out, ⟨by have := NBZ9.out; omega, by have := NBZ10.out; omega⟩, T.out.bel⟩
        · simp only [opWp, List.getElem?_toArray, List.getElem?_cons_succ, List.getElem?_cons_zero]
          go_simp
          have NBZ9 := Lib.hid (show w.heap.size + 1 < u21.heap.size from T.out.y.lt)
          have NE := Lib.hid (show a21 < u21.heap.size from Z10.out.lt)
          have T := Lib.hid (T.out.alloc (.cells #[.int .i64 0, .int .i64 0, .int .i64 0, .int .i64 0, .int .i64 0, .int .i64 0, .int .i64 0] 29))
          have Z10 := Lib.hid (Z10.out.alloc (.cells #[.int .i64 0, .int .i64 0, .int .i64 0, .int .i64 0, .int .i64 0, .int .i64 0, .int .i64 0] 29))
          have Z9 := Lib.hid (At.new (w := u21) (g := u21.heap.size) #[.int .i64 0, .int .i64 0, .int .i64 0, .int .i64 0, .int .i64 0, .int .i64 0, .int .i64 0] 29 rfl)
          generalize u21.alloc (.cells #[.int .i64 0, .int .i64 0, .int .i64 0, .int .i64 0, .int .i64 0, .int .i64 0, .int .i64 0] 29) = u26 at *
          generalize u21.heap.size = a26 at *
          refine hK _ _ (fun _ => T.out) ?_
          refine early_only (i := 6) (by kernel_rfl) rfl (fun K hK => ?_)
          simp only [opWp, List.getElem?_toArray, List.getElem?_cons_succ, List.getElem?_cons_zero]
          go_simp
          go_at_call 8
          refine (SHP'.out _).mono ?_
          rintro e u27 ⟨rfl, hb⟩
          have T := Lib.hid (T.out.up hb)
          have Z9 := Lib.hid (Z9.out.below hb Z9.out.lt)
          have Z10 := Lib.hid (Z10.out.below hb Z10.out.lt)
          clear hb
          refine hK _ _ (fun _ => T.out) ?_
          refine early_take (i := 9) 22 (.agg (Lab.mk m' b' g' s' n' l' q).cs) rfl rfl (by kernel_rfl) (by kernel_rfl) (by kernel_rfl) (by kernel_rfl) rfl (fun _ _ _ h => h) (fun w' hw' => by go_simp; rfl) T.out ?_
          simp only [Act.put, List.setIfInBounds_toArray, List.set_cons_zero, List.set_cons_succ]
          refine early_only (i := 12) (by kernel_rfl) rfl (fun K hK => ?_)
          simp only [opWp, List.getElem?_toArray, List.getElem?_cons_succ, List.getElem?_cons_zero]
          refine wp_store_part 29 (.tmp 9) (.tmp 17) rfl a26 0 29 #[.int .i64 0, .int .i64 0, .int .i64 0, .int .i64 0, .int .i64 0, .int .i64 0, .int .i64 0] (Lab.mk m b g s n l p).cs rfl rfl Z9.out size29 (by simp [cs_size]) (cs_all _) ?_
          intro u28 hat hb
          rw [show part #[.int .i64 0, .int .i64 0, .int .i64 0, .int .i64 0, .int .i64 0, .int .i64 0, .int .i64 0] 0 (Lab.mk m b g s n l p).cs = (Lab.mk m b g s n l p).cs from rfl] at hat
          have T := Lib.hid (T.out.but hb NBZ9.out)
          have Z10 := Lib.hid (Z10.out.but hb (by have := NE.out; omega))
          have Z9 := Lib.hid hat
          clear hat hb
          refine hK _ _ (fun _ => T.out) ?_
          refine early_only (i := 13) (by kernel_rfl) rfl (fun K hK => ?_)
          simp only [opWp, List.getElem?_toArray, List.getElem?_cons_succ, List.getElem?_cons_zero]
          refine wp_store_part 29 (.tmp 10) (.tmp 22) rfl a21 0 29 #[.int .i64 0, .int .i64 0, .int .i64 0, .int .i64 0, .int .i64 0, .int .i64 0, .int .i64 0] (Lab.mk m' b' g' s' n' l' q).cs rfl rfl Z10.out size29 (by simp [cs_size]) (cs_all _) ?_
          intro u29 hat hb
          rw [show part #[.int .i64 0, .int .i64 0, .int .i64 0, .int .i64 0, .int .i64 0, .int .i64 0, .int .i64 0] 0 (Lab.mk m' b' g' s' n' l' q).cs = (Lab.mk m' b' g' s' n' l' q).cs from rfl] at hat
          have T := Lib.hid (T.out.but hb NBZ10.out)
          have Z9 := Lib.hid (Z9.out.but hb (by have := NE.out; omega))
          have Z10 := Lib.hid hat
          clear hat hb
          refine hK _ _ (fun _ => T.out) ?_
          refine early_done (by kernel_rfl) ?_
          go_wp2_with fail
          go_meet
          exact ⟨_, _, rfl, rfl, Z9.out, Z10.out, ⟨by have := NBZ9.out; omega, by have := NBZ10.out; omega⟩, T.out.bel⟩
    · simp only [opWp, List.getElem?_toArray, List.getElem?_cons_succ, List.getElem?_cons_zero]
      go_simp
      have NBZ9 := Lib.hid (show w.heap.size + 1 < u1.heap.size from T.out.y.lt)
      have T := Lib.hid (T.out.alloc (.cells #[.int .i64 0, .int .i64 0, .int .i64 0, .int .i64 0, .int .i64 0, .int .i64 0, .int .i64 0] 29))
      have Z9 := Lib.hid (At.new (w := u1) (g := u1.heap.size) #[.int .i64 0, .int .i64 0, .int .i64 0, .int .i64 0, .int .i64 0, .int .i64 0, .int .i64 0] 29 rfl)
      generalize u1.alloc (.cells #[.int .i64 0, .int .i64 0, .int .i64 0, .int .i64 0, .int .i64 0, .int .i64 0, .int .i64 0] 29) = u30 at *
      generalize u1.heap.size = a30 at *
      refine hK _ _ (fun _ => T.out) ?_
      refine early_two (i := 1) (j := 11) (by kernel_rfl) ⟨rfl, fun K hK => ?_⟩ ⟨rfl, fun K hK => ?_⟩
      · simp only [opWp, List.getElem?_toArray, List.getElem?_cons_succ, List.getElem?_cons_zero]
        go_simp
        go_at_call 8
        refine (SHP.out _).mono ?_
        rintro e u31 ⟨rfl, hb⟩
        have T := Lib.hid (T.out.up hb)
        have Z9 := Lib.hid (Z9.out.below hb Z9.out.lt)
        clear hb
        refine hK _ _ (fun _ => T.out) ?_
        refine early_take (i := 4) 17 (.agg (Lab.mk m b g s n l p).cs) rfl rfl (by kernel_rfl) (by kernel_rfl) (by kernel_rfl) (by kernel_rfl) rfl (fun _ _ _ h => h) (fun w' hw' => by go_simp; rfl) T.out ?_
        simp only [Act.put, List.setIfInBounds_toArray, List.set_cons_zero, List.set_cons_succ]
        refine early_two (i := 6) (j := 11) (by kernel_rfl) ⟨rfl, fun K hK => ?_⟩ ⟨rfl, fun K hK => ?_⟩
        · simp only [opWp, List.getElem?_toArray, List.getElem?_cons_succ, List.getElem?_cons_zero]
          go_simp
          go_at_call 8
          refine (SHP'.out _).mono ?_
          rintro e u32 ⟨rfl, hb⟩
          have T := Lib.hid (T.out.up hb)
          have Z9 := Lib.hid (Z9.out.below hb Z9.out.lt)
          clear hb
          refine hK _ _ (fun _ => T.out) ?_
          refine early_take (i := 9) 22 (.agg (Lab.mk m' b' g' s' n' l' q).cs) rfl rfl (by kernel_rfl) (by kernel_rfl) (by kernel_rfl) (by kernel_rfl) rfl (fun _ _ _ h => h) (fun w' hw' => by go_simp; rfl) T.out ?_
          simp only [Act.put, List.setIfInBounds_toArray, List.set_cons_zero, List.set_cons_succ]
          refine early_only (i := 11) (by kernel_rfl) rfl (fun K hK => ?_)
          simp only [opWp, List.getElem?_toArray, List.getElem?_cons_succ, List.getElem?_cons_zero]
          go_simp
          have NBZ10 := Lib.hid (show w.heap.size + 1 < u32.heap.size from T.out.y.lt)
          have NE := Lib.hid (show a30 < u32.heap.size from Z9.out.lt)
          have T := Lib.hid (T.out.alloc (.cells #[.int .i64 0, .int .i64 0, .int .i64 0, .int .i64 0, .int .i64 0, .int .i64 0, .int .i64 0] 29))
          have Z9 := Lib.hid (Z9.out.alloc (.cells #[.int .i64 0, .int .i64 0, .int .i64 0, .int .i64 0, .int .i64 0, .int .i64 0, .int .i64 0] 29))
          have Z10 := Lib.hid (At.new (w := u32) (g := u32.heap.size) #[.int .i64 0, .int .i64 0, .int .i64 0, .int .i64 0, .int .i64 0, .int .i64 0, .int .i64 0] 29 rfl)
          generalize u32.alloc (.cells #[.int .i64 0, .int .i64 0, .int .i64 0, .int .i64 0, .int .i64 0, .int .i64 0, .int .i64 0] 29) = u33 at *
          generalize u32.heap.size = a33 at *
          refine hK _ _ (fun _ => T.out) ?_
          refine early_only (i := 12) (by kernel_rfl) rfl (fun K hK => ?_)
          simp only [opWp, List.getElem?_toArray, List.getElem?_cons_succ, List.getElem?_cons_zero]
          refine wp_store_part 29 (.tmp 9) (.tmp 17) rfl a30 0 29 #[.int .i64 0, .int .i64 0, .int .i64 0, .int .i64 0, .int .i64 0, .int .i64 0, .int .i64 0] (Lab.mk m b g s n l p).cs rfl rfl Z9.out size29 (by simp [cs_size]) (cs_all _) ?_
          intro u34 hat hb
          rw [show part #[.int .i64 0, .int .i64 0, .int .i64 0, .int .i64 0, .int .i64 0, .int .i64 0, .int .i64 0] 0 (Lab.mk m b g s n l p).cs = (Lab.mk m b g s n l p).cs from rfl] at hat
          have T := Lib.hid (T.out.but hb NBZ9.out)
          have Z10 := Lib.hid (Z10.out.but hb (by have := NE.out; omega))
          have Z9 := Lib.hid hat
          clear hat hb
          refine hK _ _ (fun _ => T.out) ?_
          refine early_only (i := 13) (by kernel_rfl) rfl (fun K hK => ?_)
          simp only [opWp, List.getElem?_toArray, List.getElem?_cons_succ, List.getElem?_cons_zero]
          refine wp_store_part 29 (.tmp 10) (.tmp 22) rfl a33 0 29 #[.int .i64 0, .int .i64 0, .int .i64 0, .int .i64 0, .int .i64 0, .int .i64 0, .int .i64 0] (Lab.mk m' b' g' s' n' l' q).cs rfl rfl Z10.out size29 (by simp [cs_size]) (cs_all _) ?_
          intro u35 hat hb
          rw [show part #[.int .i64 0, .int .i64 0, .int .i64 0, .int .i64 0, .int .i64 0, .int .i64 0, .int .i64 0] 0 (Lab.mk m' b' g' s' n' l' q).cs = (Lab.mk m' b' g' s' n' l' q).cs from rfl] at hat
          have T := Lib.hid (T.out.but hb NBZ10.out)
          have Z9 := Lib.hid (Z9.out.but hb (by have := NE.out; omega))
          have Z10 := Lib.hid hat
          clear hat hb
          refine hK _ _ (fun _ => T.out) ?_
          refine early_done (by kernel_rfl) ?_
          go_wp2_with fail
          go_meet
          exact ⟨_, _, rfl, rfl, Z9.out, Z10.out, ⟨by have := NBZ9.out; omega, by have := NBZ10.out; omega⟩, T.out.bel⟩
        · simp only [opWp, List.getElem?_toArray, List.getElem?_cons_succ, List.getElem?_cons_zero]
          go_simp
          have NBZ10 := Lib.hid (show w.heap.size + 1 < u31.heap.size from T.out.y.lt)
          have NE := Lib.hid (show a30 < u31.heap.size from Z9.out.lt)
          have T := Lib.hid (T.out.alloc (.cells #[.int .i64 0, .int .i64 0, .int .i64 0, .int .i64 0, .int .i64 0, .int .i64 0, .int .i64 0] 29))
          have Z9 := Lib.hid (Z9.out.alloc (.cells #[.int .i64 0, .int .i64 0, .int .i64 0, .int .i64 0, .int .i64 0, .int .i64 0, .int .i64 0] 29))
          have Z10 := Lib.hid (At.new (w := u31) (g := u31.heap.size) #[.int .i64 0, .int .i64 0, .int .i64 0, .int .i64 0, .int .i64 0, .int .i64 0, .int .i64 0] 29 rfl)
          generalize u31.alloc (.cells #[.int .i64 0, .int .i64 0, .int .i64 0, .int .i64 0, .int .i64 0, .int .i64 0, .int .i64 0] 29) = u36 at *
          generalize u31.heap.size = a36 at *
          refine hK _ _ (fun _ => T.out) ?_
          refine early_only (i := 6) (by kernel_rfl) rfl (fun K hK => ?_)
          simp only [opWp, List.getElem?_toArray, List.getElem?_cons_succ, List.getElem?_cons_zero]
          go_simp
          go_at_call 8
          refine (SHP'.out _).mono ?_
          rintro e u37 ⟨rfl, hb⟩
          have T := Lib.hid (T.out.up hb)
          have Z9 := Lib.hid (Z9.out.below hb Z9.out.lt)
          have Z10 := Lib.hid (Z10.out.below hb Z10.out.lt)
          clear hb
          refine hK _ _ (fun _ => T.out) ?_
          refine early_take (i := 9) 22 (.agg (Lab.mk m' b' g' s' n' l' q).cs) rfl rfl (by kernel_rfl) (by kernel_rfl) (by kernel_rfl) (by kernel_rfl) rfl (fun _ _ _ h => h) (fun w' hw' => by go_simp; rfl) T.out ?_
          simp only [Act.put, List.setIfInBounds_toArray, List.set_cons_zero, List.set_cons_succ]
          refine early_only (i := 12) (by kernel_rfl) rfl (fun K hK => ?_)
          simp only [opWp, List.getElem?_toArray, List.getElem?_cons_succ, List.getElem?_cons_zero]
          refine wp_store_part 29 (.tmp 9) (.tmp 17) rfl a30 0 29 #[.int .i64 0, .int .i64 0, .int .i64 0, .int .i64 0, .int .i64 0, .int .i64 0, .int .i64 0] (Lab.mk m b g s n l p).cs rfl rfl Z9.out size29 (by simp [cs_size]) (cs_all _) ?_
          intro u38 hat hb
          rw [show part #[.int .i64 0, .int .i64 0, .int .i64 0, .int .i64 0, .int .i64 0, .int .i64 0, .int .i64 0] 0 (Lab.mk m b g s n l p).cs = (Lab.mk m b g s n l p).cs from rfl] at hat
          have T := Lib.hid (T.out.but hb NBZ9.out)
          have Z10 := Lib.hid (Z10.out.but hb (by have := NE.out; omega))
          have Z9 := Lib.hid hat
          clear hat hb
          refine hK _ _ (fun _ => T.out) ?_
          refine early_only (i := 13) (by kernel_rfl) rfl (fun K hK => ?_)
          simp only [opWp, List.getElem?_toArray, List.getElem?_cons_succ, List.getElem?_cons_zero]
          refine wp_store_part 29 (.tmp 10) (.tmp 22) rfl a36 0 29 #[.int .i64 0, .int .i64 0, .int .i64 0, .int .i64 0, .int .i64 0, .int .i64 0, .int .i64 0] (Lab.mk m' b' g' s' n' l' q).cs rfl rfl Z10.out size29 (by simp [cs_size]) (cs_all _) ?_
          intro u39 hat hb
          rw [show part #[.int .i64 0, .int .i64 0, .int .i64 0, .int .i64 0, .int .i64 0, .int .i64 0, .int .i64 0] 0 (Lab.mk m' b' g' s' n' l' q).cs = (Lab.mk m' b' g' s' n' l' q).cs from rfl] at hat
          have T := Lib.hid (T.out.but hb NBZ10.out)
          have Z9 := Lib.hid (Z9.out.but hb (by have := NE.out; omega))
          have Z10 := Lib.hid hat
          clear hat hb
          refine hK _ _ (fun _ => T.out) ?_
          refine early_done (by kernel_rfl) ?_
          go_wp2_with fail
          go_meet
          exact ⟨_, _, rfl, rfl, Z9.out, Z10.out, ⟨by have := NBZ9.out; omega, by have := NBZ10.out; omega⟩, T.out.bel⟩
      · simp only [opWp, List.getElem?_toArray, List.getElem?_cons_succ, List.getElem?_cons_zero]
        go_simp
        have NBZ10 := Lib.hid (show w.heap.size + 1 < u30.heap.size from T.out.y.lt)
        have NE := Lib.hid (show a30 < u30.heap.size from Z9.out.lt)
        have T := Lib.hid (T.out.alloc (.cells #[.int .i64 0, .int .i64 0, .int .i64 0, .int .i64 0, .int .i64 0, .int .i64 0, .int .i64 0] 29))
        have Z9 := Lib.hid (Z9.out.alloc (.cells #[.int .i64 0, .int .i64 0, .int .i64 0, .int .i64 0, .int .i64 0, .int .i64 0, .int .i64 0] 29))
        have Z10 := Lib.hid (At.new (w := u30) (g := u30.heap.size) #[.int .i64 0, .int .i64 0, .int .i64 0, .int .i64 0, .int .i64 0, .int .i64 0, .int .i64 0] 29 rfl)
        generalize u30.alloc (.cells #[.int .i64 0, .int .i64 0, .int .i64 0, .int .i64 0, .int .i64 0, .int .i64 0, .int .i64 0] 29) = u40 at *
        generalize u30.heap.size = a40 at *
        refine hK _ _ (fun _ => T.out) ?_
        refine early_only (i := 1) (by kernel_rfl) rfl (fun K hK => ?_)
        simp only [opWp, List.getElem?_toArray, List.getElem?_cons_succ, List.getElem?_cons_zero]
        go_simp
        go_at_call 8
        refine (SHP.out _).mono ?_
        rintro e u41 ⟨rfl, hb⟩
        have T := Lib.hid (T.out.up hb)
        have Z9 := Lib.hid (Z9.out.below hb Z9.out.lt)
        have Z10 := Lib.hid (Z10.out.below hb Z10.out.lt)
        clear hb
        refine hK _ _ (fun _ => T.out) ?_
        refine early_take (i := 4) 17 (.agg (Lab.mk m b g s n l p).cs) rfl rfl (by kernel_rfl) (by kernel_rfl) (by kernel_rfl) (by kernel_rfl) rfl (fun _ _ _ h => h) (fun w' hw' => by go_simp; rfl) T.out ?_
        simp only [Act.put, List.setIfInBounds_toArray, List.set_cons_zero, List.set_cons_succ]
        refine early_only (i := 6) (by kernel_rfl) rfl (fun K hK => ?_)
        simp only [opWp, List.getElem?_toArray, List.getElem?_cons_succ, List.getElem?_cons_zero]
        go_simp
        go_at_call 8
        refine (SHP'.out _).mono ?_
        rintro e u42 ⟨rfl, hb⟩
        have T := Lib.hid (T.out.up hb)
        have Z9 := Lib.hid (Z9.out.below hb Z9.out.lt)
        have Z10 := Lib.hid (Z10.out.below hb Z10.out.lt)
        clear hb
        refine hK _ _ (fun _ => T.out) ?_
        refine early_take (i := 9) 22 (.agg (Lab.mk m' b' g' s' n' l' q).cs) rfl rfl (by kernel_rfl) (by kernel_rfl) (by kernel_rfl) (by kernel_rfl) rfl (fun _ _ _ h => h) (fun w' hw' => by go_simp; rfl) T.out ?_
        simp only [Act.put, List.setIfInBounds_toArray, List.set_cons_zero, List.set_cons_succ]
        refine early_only (i := 12) (by kernel_rfl) rfl (fun K hK => ?_)
        simp only [opWp, List.getElem?_toArray, List.getElem?_cons_succ, List.getElem?_cons_zero]
        refine wp_store_part 29 (.tmp 9) (.tmp 17) rfl a30 0 29 #[.int .i64 0, .int .i64 0, .int .i64 0, .int .i64 0, .int .i64 0, .int .i64 0, .int .i64 0] (Lab.mk m b g s n l p).cs rfl rfl Z9.out size29 (by simp [cs_size]) (cs_all _) ?_
        intro u43 hat hb
        rw [show part #[.int .i64 0, .int .i64 0, .int .i64 0, .int .i64 0, .int .i64 0, .int .i64 0, .int .i64 0] 0 (Lab.mk m b g s n l p).cs = (Lab.mk m b g s n l p).cs from rfl] at hat
        have T := Lib.hid (T.out.but hb NBZ9.out)
        have Z10 := Lib.hid (Z10.out.but hb (by have := NE.out; omega))
        have Z9 := Lib.hid hat
        clear hat hb
        refine hK _ _ (fun _ => T.out) ?_
        refine early_only (i := 13) (by kernel_rfl) rfl (fun K hK => ?_)
        simp only [opWp, List.getElem?_toArray, List.getElem?_cons_succ, List.getElem?_cons_zero]
        refine wp_store_part 29 (.tmp 10) (.tmp 22) rfl a40 0 29 #[.int .i64 0, .int .i64 0, .int .i64 0, .int .i64 0, .int .i64 0, .int .i64 0, .int .i64 0] (Lab.mk m' b' g' s' n' l' q).cs rfl rfl Z10.out size29 (by simp [cs_size]) (cs_all _) ?_
        intro u44 hat hb
        rw [show part #[.int .i64 0, .int .i64 0, .int .i64 0, .int .i64 0, .int .i64 0, .int .i64 0, .int .i64 0] 0 (Lab.mk m' b' g' s' n' l' q).cs = (Lab.mk m' b' g' s' n' l' q).cs from rfl] at hat
        have T := Lib.hid (T.out.but hb NBZ10.out)
        have Z9 := Lib.hid (Z9.out.but hb (by have := NE.out; omega))
        have Z10 := Lib.hid hat
        clear hat hb
        refine hK _ _ (fun _ => T.out) ?_
        refine early_done (by kernel_rfl) ?_
        go_wp2_with fail
        go_meet
        exact ⟨_, _, rfl, rfl, Z9.out, Z10.out, ⟨by have := NBZ9.out; omega, by have := NBZ10.out; omega⟩, T.out.bel⟩
    · simp only [opWp, List.getElem?_toArray, List.getElem?_cons_succ, List.getElem?_cons_zero]
      go_simp
      have NBZ10 := Lib.hid (show w.heap.size + 1 < u1.heap.size from T.out.y.lt)
      have T := Lib.hid (T.out.alloc (.cells #[.int .i64 0, .int .i64 0, .int .i64 0, .int .i64 0, .int .i64 0, .int .i64 0, .int .i64 0] 29))
      have Z10 := Lib.hid (At.new (w := u1) (g := u1.heap.size) #[.int .i64 0, .int .i64 0, .int .i64 0, .int .i64 0, .int .i64 0, .int .i64 0, .int .i64 0] 29 rfl)
      generalize u1.alloc (.cells #[.int .i64 0, .int .i64 0, .int .i64 0, .int .i64 0, .int .i64 0, .int .i64 0, .int .i64 0] 29) = u45 at *
      generalize u1.heap.size = a45 at *
      refine hK _ _ (fun _ => T.out) ?_
      refine early_two (i := 1) (j := 10) (by kernel_rfl) ⟨rfl, fun K hK => ?_⟩ ⟨rfl, fun K hK => ?_⟩
      · simp only [opWp, List.getElem?_toArray, List.getElem?_cons_succ, List.getElem?_cons_zero]
        go_simp
        go_at_call 8
        refine (SHP.out _).mono ?_
        rintro e u46 ⟨rfl, hb⟩
        have T := Lib.hid (T.out.up hb)
        have Z10 := Lib.hid (Z10.out.below hb Z10.out.lt)
        clear hb
        refine hK _ _ (fun _ => T.out) ?_
        refine early_take (i := 4) 17 (.agg (Lab.mk m b g s n l p).cs) rfl rfl (by kernel_rfl) (by kernel_rfl) (by kernel_rfl) (by kernel_rfl) rfl (fun _ _ _ h => h) (fun w' hw' => by go_simp; rfl) T.out ?_
        simp only [Act.put, List.setIfInBounds_toArray, List.set_cons_zero, List.set_cons_succ]
        refine early_two (i := 6) (j := 10) (by kernel_rfl) ⟨rfl, fun K hK => ?_⟩ ⟨rfl, fun K hK => ?_⟩
        · simp only [opWp, List.getElem?_toArray, List.getElem?_cons_succ, List.getElem?_cons_zero]
          go_simp
          go_at_call 8
          refine (SHP'.out _).mono ?_
          rintro e u47 ⟨rfl, hb⟩
          have T := Lib.hid (T.out.up hb)
          have Z10 := Lib.hid (Z10.out.below hb Z10.out.lt)
          clear hb
          refine hK _ _ (fun _ => T.out) ?_
          refine early_take (i := 9) 22 (.agg (Lab.mk m' b' g' s' n' l' q).cs) rfl rfl (by kernel_rfl) (by kernel_rfl) (by kernel_rfl) (by kernel_rfl) rfl (fun _ _ _ h => h) (fun w' hw' => by go_simp; rfl) T.out ?_
          simp only [Act.put, List.setIfInBounds_toArray, List.set_cons_zero, List.set_cons_succ]
          refine early_only (i := 10) (by kernel_rfl) rfl (fun K hK => ?_)
          simp only [opWp, List.getElem?_toArray, List.getElem?_cons_succ, List.getElem?_cons_zero]
          go_simp
          have NBZ9 := Lib.hid (show w.heap.size + 1 < u47.heap.size from T.out.y.lt)
          have NE := Lib.hid (show a45 < u47.heap.size from Z10.out.lt)
          have T := Lib.hid (T.out.alloc (.cells #[.int .i64 0, .int .i64 0, .int .i64 0, .int .i64 0, .int .i64 0, .int .i64 0, .int .i64 0] 29))
          have Z10 := Lib.hid (Z10.out.alloc (.cells #[.int .i64 0, .int .i64 0, .int .i64 0, .int .i64 0, .int .i64 0, .int .i64 0, .int .i64 0] 29))
          have Z9 := Lib.hid (At.new (w := u47) (g := u47.heap.size) #[.int .i64 0, .int .i64 0, .int .i64 0, .int .i64 0, .int .i64 0, .int .i64 0, .int .i64 0] 29 rfl)
          generalize u47.alloc (.cells #[.int .i64 0, .int .i64 0, .int .i64 0, .int .i64 0, .int .i64 0, .int .i64 0, .int .i64 0] 29) = u48 at *
          generalize u47.heap.size = a48 at *
          refine hK _ _ (fun _ => T.out) ?_
          refine early_only (i := 12) (by kernel_rfl) rfl (fun K hK => ?_)
          simp only [opWp, List.getElem?_toArray, List.getElem?_cons_succ, List.getElem?_cons_zero]
          refine wp_store_part 29 (.tmp 9) (.tmp 17) rfl a48 0 29 #[.int .i64 0, .int .i64 0, .int .i64 0, .int .i64 0, .int .i64 0, .int .i64 0, .int .i64 0] (Lab.mk m b g s n l p).cs rfl rfl Z9.out size29 (by simp [cs_size]) (cs_all _) ?_
          intro u49 hat hb
          rw [show part #[.int .i64 0, .int .i64 0, .int .i64 0, .int .i64 0, .int .i64 0, .int .i64 0, .int .i64 0] 0 (Lab.mk m b g s n l p).cs = (Lab.mk m b g s n l p).cs from rfl] at hat
          have T := Lib.hid (T.out.but hb NBZ9.out)
          have Z10 := Lib.hid (Z10.out.but hb (by have := NE.out; omega))
          have Z9 := Lib.hid hat
          clear hat hb
          refine hK _ _ (fun _ => T.out) ?_
          refine early_only (i := 13) (by kernel_rfl) rfl (fun K hK => ?_)
          simp only [opWp, List.getElem?_toArray, List.getElem?_cons_succ, List.getElem?_cons_zero]
          refine wp_store_part 29 (.tmp 10) (.tmp 22) rfl a45 0 29 #[.int .i64 0, .int .i64 0, .int .i64 0, .int .i64 0, .int .i64 0, .int .i64 0, .int .i64 0] (Lab.mk m' b' g' s' n' l' q).cs rfl rfl Z10.out size29 (by simp [cs_size]) (cs_all _) ?_
          intro u50 hat hb
          rw [show part #[.int .i64 0, .int .i64 0, .int .i64 0, .int .i64 0, .int .i64 0, .int .i64 0, .int .i64 0] 0 (Lab.mk m' b' g' s' n' l' q).cs = (Lab.mk m' b' g' s' n' l' q).cs from rfl] at hat
          have T := Lib.hid (T.out.but hb NBZ10.out)
          have Z9 := Lib.hid (Z9.out.but hb (by have := NE.out; omega))
          have Z10 := Lib.hid hat
          clear hat hb
          refine hK _ _ (fun _ => T.out) ?_
          refine early_done (by kernel_rfl) ?_
          go_wp2_with fail
          go_meet
          exact ⟨_, _, rfl, rfl, Z9.out, Z10.out, ⟨by have := NBZ9.out; omega, by have := NBZ10.out; omega⟩, T.out.bel⟩
        · simp only [opWp, List.getElem?_toArray, List.getElem?_cons_succ, List.getElem?_cons_zero]
          go_simp
          have NBZ9 := Lib.hid (show w.heap.size + 1 < u46.heap.size from T.out.y.lt)
          have NE := Lib.hid (show a45 < u46.heap.size from Z10.out.lt)
          have T := Lib.hid (T.out.alloc (.cells #[.int .i64 0, .int .i64 0, .int .i64 0, .int .i64 0, .int .i64 0, .int .i64 0, .int .i64 0] 29))
          have Z10 := Lib.hid (Z10.out.alloc (.cells #[.int .i64 0, .int .i64 0, .int .i64 0, .int .i64 0, .int .i64 0, .int .i64 0, .int .i64 0] 29))
          have Z9 := Lib.hid (At.new (w := u46) (g := u46.heap.size) #[.int .i64 0, .int .i64 0, .int .i64 0, .int .i64 0, .int .i64 0, .int .i64 0, .int .i64 0] 29 rfl)
          generalize u46.alloc (.cells #[.int .i64 0, .int .i64 0, .int .i64 0, .int .i64 0, .int .i64 0, .int .i64 0, .int .i64 0] 29) = u51 at *
          generalize u46.heap.size = a51 at *
          refine hK _ _ (fun _ => T.out) ?_
          refine early_only (i := 6) (by kernel_rfl) rfl (fun K hK => ?_)
          simp only [opWp, List.getElem?_toArray, List.getElem?_cons_succ, List.getElem?_cons_zero]
          go_simp
          go_at_call 8
          refine (SHP'.out _).mono ?_
          rintro e u52 ⟨rfl, hb⟩
          have T := Lib.hid (T.out.up hb)
          have Z9 := Lib.hid (Z9.out.below hb Z9.out.lt)
          have Z10 := Lib.hid (Z10.out.below hb Z10.out.lt)
          clear hb
          refine hK _ _ (fun _ => T.out) ?_
          refine early_take (i := 9) 22 (.agg (Lab.mk m' b' g' s' n' l' q).cs) rfl rfl (by kernel_rfl) (by kernel_rfl) (by kernel_rfl) (by kernel_rfl) rfl (fun _ _ _ h => h) (fun w' hw' => by go_simp; rfl) T.out ?_
          simp only [Act.put, List.setIfInBounds_toArray, List.set_cons_zero, List.set_cons_succ]
          refine early_only (i := 12) (by kernel_rfl) rfl (fun K hK => ?_)
          simp only [opWp, List.getElem?_toArray, List.getElem?_cons_succ, List.getElem?_cons_zero]
          refine wp_store_part 29 (.tmp 9) (.tmp 17) rfl a51 0 29 #[.int .i64 0, .int .i64 0, .int .i64 0, .int .i64 0, .int .i64 0, .int .i64 0, .int .i64 0] (Lab.mk m b g s n l p).cs rfl rfl Z9.out size29 (by simp [cs_size]) (cs_all _) ?_
          intro u53 hat hb
          rw [show part #[.int .i64 0, .int .i64 0, .int .i64 0, .int .i64 0, .int .i64 0, .int .i64 0, .int .i64 0] 0 (Lab.mk m b g s n l p).cs = (Lab.mk m b g s n l p).cs from rfl] at hat
          have T := Lib.hid (T.out.but hb NBZ9.out)
          have Z10 := Lib.hid (Z10.out.but hb (by have := NE.out; omega))
          have Z9 := Lib.hid hat
          clear hat hb
          refine hK _ _ (fun _ => T.out) ?_
          refine early_only (i := 13) (by kernel_rfl) rfl (fun K hK => ?_)
          simp only [opWp, List.getElem?_toArray, List.getElem?_cons_succ, List.getElem?_cons_zero]
          refine wp_store_part 29 (.tmp 10) (.tmp 22) rfl a45 0 29 #[.int .i64 0, .int .i64 0, .int .i64 0, .int .i64 0, .int .i64 0, .int .i64 0, .int .i64 0] (Lab.mk m' b' g' s' n' l' q).cs rfl rfl Z10.out size29 (by simp [cs_size]) (cs_all _) ?_
          intro u54 hat hb
          rw [show part #[.int .i64 0, .int .i64 0, .int .i64 0, .int .i64 0, .int .i64 0, .int .i64 0, .int .i64 0] 0 (Lab.mk m' b' g' s' n' l' q).cs = (Lab.mk m' b' g' s' n' l' q).cs from rfl] at hat
          have T := Lib.hid (T.out.but hb NBZ10.out)
          have Z9 := Lib.hid (Z9.out.but hb (by have := NE.out; omega))
          have Z10 := Lib.hid hat
          clear hat hb
          refine hK _ _ (fun _ => T.out) ?_
          refine early_done (by kernel_rfl) ?_
          go_wp2_with fail
          go_meet
          exact ⟨_, _, rfl, rfl, Z9.out, Z10.out, ⟨by have := NBZ9.out; omega, by have := NBZ10.out; omega⟩, T.out.bel⟩
      · simp only [opWp, List.getElem?_toArray, List.getElem?_cons_succ, List.getElem?_cons_zero]
        go_simp
        have NBZ9 := Lib.hid (show w.heap.size + 1 < u45.heap.size from T.out.y.lt)
        have NE := Lib.hid (show a45 < u45.heap.size from Z10.out.lt)
        have T := Lib.hid (T.out.alloc (.cells #[.int .i64 0, .int .i64 0, .int .i64 0, .int .i64 0, .int .i64 0, .int .i64 0, .int .i64 0] 29))
        have Z10 := Lib.hid (Z10.out.alloc (.cells #[.int .i64 0, .int .i64 0, .int .i64 0, .int .i64 0, .int .i64 0, .int .i64 0, .int .i64 0] 29))
        have Z9 := Lib.hid (At.new (w := u45) (g := u45.heap.size) #[.int .i64 0, .int .i64 0, .int .i64 0, .int .i64 0, .int .i64 0, .int .i64 0, .int .i64 0] 29 rfl)
        generalize u45.alloc (.cells #[.int .i64 0, .int .i64 0, .int .i64 0, .int .i64 0, .int .i64 0, .int .i64 0, .int .i64 0] 29) = u55 at *
        generalize u45.heap.size = a55 at *
        refine hK _ _ (fun _ => T.out) ?_
        refine early_only (i := 1) (by kernel_rfl) rfl (fun K hK => ?_)
        simp only [opWp, List.getElem?_toArray, List.getElem?_cons_succ, List.getElem?_cons_zero]
        go_simp
        go_at_call 8
        refine (SHP.out _).mono ?_
        rintro e u56 ⟨rfl, hb⟩
        have T := Lib.hid (T.out.up hb)
        have Z9 := Lib.hid (Z9.out.below hb Z9.out.lt)
        have Z10 := Lib.hid (Z10.out.below hb Z10.out.lt)
        clear hb
        refine hK _ _ (fun _ => T.out) ?_
        refine early_take (i := 4) 17 (.agg (Lab.mk m b g s n l p).cs) rfl rfl (by kernel_rfl) (by kernel_rfl) (by kernel_rfl) (by kernel_rfl) rfl (fun _ _ _ h => h) (fun w' hw' => by go_simp; rfl) T.out ?_
        simp only [Act.put, List.setIfInBounds_toArray, List.set_cons_zero, List.set_cons_succ]
        refine early_only (i := 6) (by kernel_rfl) rfl (fun K hK => ?_)
        simp only [opWp, List.getElem?_toArray, List.getElem?_cons_succ, List.getElem?_cons_zero]
        go_simp
        go_at_call 8
        refine (SHP'.out _).mono ?_
        rintro e u57 ⟨rfl, hb⟩
        have T := Lib.hid (T.out.up hb)
        have Z9 := Lib.hid (Z9.out.below hb Z9.out.lt)
        have Z10 := Lib.hid (Z10.out.below hb Z10.out.lt)
        clear hb
        refine hK _ _ (fun _ => T.out) ?_
        refine early_take (i := 9) 22 (.agg (Lab.mk m' b' g' s' n' l' q).cs) rfl rfl (by kernel_rfl) (by kernel_rfl) (by kernel_rfl) (by kernel_rfl) rfl (fun _ _ _ h => h) (fun w' hw' => by go_simp; rfl) T.out ?_
        simp only [Act.put, List.setIfInBounds_toArray, List.set_cons_zero, List.set_cons_succ]
        refine early_only (i := 12) (by kernel_rfl) rfl (fun K hK => ?_)
        simp only [opWp, List.getElem?_toArray, List.getElem?_cons_succ, List.getElem?_cons_zero]
        refine wp_store_part 29 (.tmp 9) (.tmp 17) rfl a55 0 29 #[.int .i64 0, .int .i64 0, .int .i64 0, .int .i64 0, .int .i64 0, .int .i64 0, .int .i64 0] (Lab.mk m b g s n l p).cs rfl rfl Z9.out size29 (by simp [cs_size]) (cs_all _) ?_
        intro u58 hat hb
        rw [show part #[.int .i64 0, .int .i64 0, .int .i64 0, .int .i64 0, .int .i64 0, .int .i64 0, .int .i64 0] 0 (Lab.mk m b g s n l p).cs = (Lab.mk m b g s n l p).cs from rfl] at hat
        have T := Lib.hid (T.out.but hb NBZ9.out)
        have Z10 := Lib.hid (Z10.out.but hb (by have := NE.out; omega))
        have Z9 := Lib.hid hat
        clear hat hb
        refine hK _ _ (fun _ => T.out) ?_
        refine early_only (i := 13) (by kernel_rfl) rfl (fun K hK => ?_)
        simp only [opWp, List.getElem?_toArray, List.getElem?_cons_succ, List.getElem?_cons_zero]
        refine wp_store_part 29 (.tmp 10) (.tmp 22) rfl a45 0 29 #[.int .i64 0, .int .i64 0, .int .i64 0, .int .i64 0, .int .i64 0, .int .i64 0, .int .i64 0] (Lab.mk m' b' g' s' n' l' q).cs rfl rfl Z10.out size29 (by simp [cs_size]) (cs_all _) ?_
        intro u59 hat hb
        rw [show part #[.int .i64 0, .int .i64 0, .int .i64 0, .int .i64 0, .int .i64 0, .int .i64 0, .int .i64 0] 0 (Lab.mk m' b' g' s' n' l' q).cs = (Lab.mk m' b' g' s' n' l' q).cs from rfl] at hat
        have T := Lib.hid (T.out.but hb NBZ10.out)
        have Z9 := Lib.hid (Z9.out.but hb (by have := NE.out; omega))
        have Z10 := Lib.hid hat
        clear hat hb
        refine hK _ _ (fun _ => T.out) ?_
        refine early_done (by kernel_rfl) ?_
        go_wp2_with fail
        go_meet
        exact ⟨_, _, rfl, rfl, Z9.out, Z10.out, ⟨by have := NBZ9.out; omega, by have := NBZ10.out; omega⟩, T.out.bel⟩
  case rest =>
    obtain ⟨a, c, rfl, rfl, hT⟩ := hcut
    obtain ⟨x, hx⟩ : ∃ x, x = (Lab.mk m b g s n l p) := ⟨_, rfl⟩
    obtain ⟨y, hy⟩ : ∃ y, y = (Lab.mk m' b' g' s' n' l' q) := ⟨_, rfl⟩
    rw [← hx, ← hy] at hT
    have okx : x.ok := by rw [hx]; exact ok.out
    have oky : y.ok := by rw [hy]; exact ok'.out
    have FX := Lib.hid (Lab.ok_fits okx (by rw [hx]; exact hp))
    have FY := Lib.hid (Lab.ok_fits oky (by rw [hy]; exact hq))
    have BX := Lib.hid (ok_block okx)
    have BY := Lib.hid (ok_block oky)
    have U := Lib.hid (show Two w wc.drew a c x y from ⟨hT.x, hT.y, hT.ge, below_drewN hT.bel 1⟩)
    obtain ⟨d, hd, heq⟩ : ∃ d : Bool, decide (sector x = sector y) = d ∧ ∀ w, (binOp .eql 29 (.agg x.cs) (.agg y.cs)).run Try.prog w = .ok (.bool d) w := by
      by_cases e : x = y
      · subst e
        exact ⟨true, by simp, lab_eql x⟩
      · exact ⟨false, decide_eq_false (fun h => e (sector_inj FX.out FY.out h)), lab_neq e⟩
    have HD := Lib.hid hd
    clear hT hx hy okx oky hd T ok ok' SHP SHP'
    go_upto_region 4 with (fail)
    refine wp_region_early (fun w' => Two w w' a c x y) (fun _ => true) (by kernel_rfl) ?_
    change wpEarly _ _ _ _ _ _ 10 (Array.replicate 10 false) _ wc.drew
    obtain ⟨u1, hu1⟩ : ∃ u, u = wc.drew := ⟨_, rfl⟩
    rw [← hu1] at U ⊢
    clear hu1
    refine early_take (i := 0) 23 (.agg x.cs) rfl rfl (by kernel_rfl) (by kernel_rfl) (by kernel_rfl) (by kernel_rfl) rfl (fun _ _ _ h => h) (fun w' hw' => exec_load_whole (x := .tmp 9) rfl rfl hw'.x Try.underlying29 size29) U.out ?_
    simp only [Act.put, List.setIfInBounds_toArray, List.set_cons_zero, List.set_cons_succ]
    refine early_take (i := 2) 25 (.agg y.cs) rfl rfl (by kernel_rfl) (by kernel_rfl) (by kernel_rfl) (by kernel_rfl) rfl (fun _ _ _ h => h) (fun w' hw' => exec_load_whole (x := .tmp 10) rfl rfl hw'.y Try.underlying29 size29) U.out ?_
    simp only [Act.put, List.setIfInBounds_toArray, List.set_cons_zero, List.set_cons_succ]
    refine early_take (i := 5) 28 (.agg x.cs) rfl rfl (by kernel_rfl) (by kernel_rfl) (by kernel_rfl) (by kernel_rfl) rfl (fun _ _ _ h => h) (fun w' hw' => exec_load_whole (x := .tmp 9) rfl rfl hw'.x Try.underlying29 size29) U.out ?_
    simp only [Act.put, List.setIfInBounds_toArray, List.set_cons_zero, List.set_cons_succ]
    refine early_take (i := 6) 29 (.agg y.cs) rfl rfl (by kernel_rfl) (by kernel_rfl) (by kernel_rfl) (by kernel_rfl) rfl (fun _ _ _ h => h) (fun w' hw' => exec_load_whole (x := .tmp 10) rfl rfl hw'.y Try.underlying29 size29) U.out ?_
    simp only [Act.put, List.setIfInBounds_toArray, List.set_cons_zero, List.set_cons_succ]
    refine early_take (i := 7) 30 (.bool d) rfl rfl (by kernel_rfl) (by kernel_rfl) (by kernel_rfl) (by kernel_rfl) rfl (fun _ _ _ h => h) (fun w' hw' => by go_simp) U.out ?_
    simp only [Act.put, List.setIfInBounds_toArray, List.set_cons_zero, List.set_cons_succ]
    refine early_only (i := 1) (by kernel_rfl) rfl (fun K hK => ?_)
    simp only [opWp, List.getElem?_toArray, List.getElem?_cons_succ, List.getElem?_cons_zero]
    go_simp
    go_at_call 9
    refine (encode_any x _ FX.out (by have := BX.out.1; omega)).mono ?_
    rintro e e1 ⟨v1, rfl, hf⟩
    obtain ⟨A1, c1, rfl, _, _, _, hh, _⟩ := own_slice hf.1
    have U := Lib.hid (U.out.up hf.2)
    skip
    have H1 := Lib.hid hh
    clear hf hh
    refine hK _ _ (fun _ => U.out) ?_
    refine early_only (i := 3) (by kernel_rfl) rfl (fun K hK => ?_)
    simp only [opWp, List.getElem?_toArray, List.getElem?_cons_succ, List.getElem?_cons_zero]
    go_simp
    go_at_call 9
    refine (encode_any y _ FY.out (by have := BY.out.1; omega)).mono ?_
    rintro e e3 ⟨v3, rfl, hf⟩
    obtain ⟨A3, c3, rfl, _, _, _, hh, _⟩ := own_slice hf.1
    have U := Lib.hid (U.out.up hf.2)
    have H1 := Lib.hid (H1.out.below hf.2)
    have H3 := Lib.hid hh
    clear hf hh
    refine hK _ _ (fun _ => U.out) ?_
    refine early_only (i := 4) (by kernel_rfl) rfl (fun K hK => ?_)
    simp only [opWp, List.getElem?_toArray, List.getElem?_cons_succ, List.getElem?_cons_zero]
    go_simp
    go_at_call 11
    refine (equal_any A1 A3 x.b y.b c1 c3 (sector x) (sector y) _ (by have := BX.out.2; omega) (by have := BY.out.2; omega) H1.out H3.out).mono ?_
    rintro e e4 ⟨rfl, k4, hw4⟩
    have U := Lib.hid (show Two w e4 a c x y by rw [hw4]; exact ⟨U.out.x, U.out.y, U.out.ge, below_drewN U.out.bel k4⟩)
    clear hw4
    rw [HD.out]
    refine hK _ _ (fun _ => U.out) ?_
    refine early_take (i := 8) 31 (.bool true) rfl rfl (by kernel_rfl) (by kernel_rfl) (by kernel_rfl) (by kernel_rfl) rfl (fun _ _ _ h => h) (fun w' hw' => by cases d <;> go_simp) U.out ?_
    simp only [Act.put, List.setIfInBounds_toArray, List.set_cons_zero, List.set_cons_succ]
    refine early_take (i := 9) 8 (.bool true) rfl rfl (by kernel_rfl) (by kernel_rfl) (by kernel_rfl) (by kernel_rfl) rfl (fun _ _ _ h => h) (fun w' hw' => by go_simp) U.out ?_
    simp only [Act.put, List.setIfInBounds_toArray, List.set_cons_zero, List.set_cons_succ]
    refine early_done (by kernel_rfl) ?_
    clear heq
    go_wp2
    go_ret
    exact ⟨rfl, U.out.bel⟩

theorem apart_walk (x0 x1 x2 x3 x4 x5 y0 y1 y2 y3 y4 y5 : Int) (h0 : Byte x0) (h1 : Byte x1) (h2 : Byte x2) (h3 : Byte x3) (h4 : Byte x4) (h5 : Byte x5) (k0 : Byte y0) (k1 : Byte y1) (k2 : Byte y2) (k3 : Byte y3) (k4 : Byte y4) (k5 : Byte y5) (p q : Int) (hp : Byte p) (hq : Byte q) (w : World) :
    Calls Try.prog 6 #[.agg #[.int .u8 x0, .int .u8 x1, .int .u8 x2, .int .u8 x3, .int .u8 x4, .int .u8 x5], .agg #[.int .u8 y0, .int .u8 y1, .int .u8 y2, .int .u8 y3, .int .u8 y4, .int .u8 y5], .int .u8 p, .int .u8 q] w fun e w' => e = .returned (.bool true) ∧ Below w.heap.size w w' := by
  obtain ⟨m, b, g, s, n, l, ok, _, _, hs⟩ := shape_nat x0 x1 x2 x3 x4 x5 h0 h1 h2 h3 h4 h5
  obtain ⟨m', b', g', s', n', l', ok', _, _, hs'⟩ := shape_nat y0 y1 y2 y3 y4 y5 k0 k1 k2 k3 k4 k5
  unfold Byte at hp hq
  obtain ⟨p', rfl⟩ := Int.eq_ofNat_of_zero_le hp.1
  obtain ⟨q', rfl⟩ := Int.eq_ofNat_of_zero_le hq.1
  exact apart_of x0 x1 x2 x3 x4 x5 y0 y1 y2 y3 y4 y5 p' q' (by omega) (by omega) m b g s n l m' b' g' s' n' l' ok ok' hs hs' w

end Go.Proofs.Ytkhjeaabhjfkgaa
