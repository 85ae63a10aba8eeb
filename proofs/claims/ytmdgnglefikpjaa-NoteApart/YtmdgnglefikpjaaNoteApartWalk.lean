/-
  THE WALK OF NoteApart: two notes of as many slots have the same bytes just if they are the same.
-/
import Derived.Test.YtmdgnglefikpjaaSame
import Derived.Test.YtmdgnglefikpjaaIn
import Derived.Deep.CutRange
import Derived.Deep.CutBlock
import Derived.Deep.DeepCutAuto
namespace Go.Proofs.Ytmdgnglefikpjaa
open Go.RowKit
set_option linter.unusedVariables false
set_option maxRecDepth 100000


/-- A row of entries does not lie in a note's block. -/
theorem Ers.off {w : World} {A : Option Addr} {n a : Nat} {es : List En} {q : Int} {z : Int} {B : Option Addr} {m c : Nat} (h : Ers w A n es) (ha : At w a #[.int .u64 q, .int .i64 z, .slice B m c] 28) : 0 < n → ∀ x, A = some x → ¬ x.block = a := by
  intro h0 x hx e
  obtain ⟨b, off, e1, _, hc⟩ := h.2 h0
  rw [hx] at e1
  injection e1 with e1
  subst e1
  have e' : b = a := e
  subst e'
  obtain ⟨h1, h2⟩ := hc 0 (by rw [h.1]; exact h0)
  rw [Nat.zero_mul, Nat.add_zero, ha.cell] at h1
  rw [Nat.zero_mul, Nat.add_zero, ha.cell] at h2
  match off, h1, h2 with
  | 0, h1, _ => simp at h1
  | 1, _, h2 => simp at h2
  | 2, h1, _ => simp at h1
  | k + 3, h1, _ => simp at h1
/-- Two notes, each in a block of its own. -/
structure Two (w0 w : World) (a c n q q' : Nat) (z z' : Int) (Ax Ay : Option Addr) (cx cy : Nat) (ex ey : List En) : Prop where
  x : At w a #[.int .u64 (q : Int), .int .i64 z, .slice Ax n cx] 28
  y : At w c #[.int .u64 (q' : Int), .int .i64 z', .slice Ay n cy] 28
  ex : Ers w Ax n ex
  ey : Ers w Ay n ey
  bel : Below w0.heap.size w0 w
section
variable {w0 w w' : World} {a c n q q' : Nat} {z z' : Int} {Ax Ay : Option Addr} {cx cy : Nat} {ex ey : List En}
theorem Two.up (h : Two w0 w a c n q q' z z' Ax Ay cx cy ex ey) (hb : Below w.heap.size w w') : Two w0 w' a c n q q' z z' Ax Ay cx cy ex ey :=
  ⟨h.x.below hb h.x.lt, h.y.below hb h.y.lt, h.ex.below hb, h.ey.below hb, h.bel.trans (hb.mono h.bel.size)⟩
theorem Two.drewN (h : Two w0 w a c n q q' z z' Ax Ay cx cy ex ey) (k : Nat) : Two w0 (w.drewN k) a c n q q' z z' Ax Ay cx cy ex ey :=
  ⟨h.x, h.y, h.ex, h.ey, below_drewN h.bel k⟩
end

set_option maxHeartbeats 4000000 in
theorem apart_of (q q' s s' : Nat) (A B : Option Addr) (n c m d : Nat) (L M : List Sl) (w : World) (hq : q < 18446744073709551616) (hq' : q' < 18446744073709551616) (hs : s < 65536) (hs' : s' < 65536) (hn : n ≤ 20) (hm : n ≤ m) (hmd : m ≤ d) (hd : d ≤ 9223372036854775807) (h : Sls w A n L) (g : Sls w B m M) :
    Calls Try.prog 6 #[.int .u64 (q : Int), .int .u64 (q' : Int), .int .u16 (s : Int), .int .u16 (s' : Int), .slice A n c, .slice B m d] w fun e w' => e = .returned (.bool true) ∧ Below w.heap.size w w' := by
  have SA := Lib.hid h
  have SB := Lib.hid (g.take n hm)
  obtain ⟨ex, hex⟩ : ∃ es, L.map mk = es := ⟨_, rfl⟩
  obtain ⟨ey, hey⟩ : ∃ es, (M.take n).map mk = es := ⟨_, rfl⟩
  have NX := Lib.hid (show ex.length = n by rw [← hex, List.length_map, SA.out.1])
  have NY := Lib.hid (show ey.length = n by rw [← hey, List.length_map, SB.out.1])
  have FX := Lib.hid (show ∀ x ∈ ex, x.fits by rw [← hex]; exact fits_mk SA.out)
  have FY := Lib.hid (show ∀ x ∈ ey, x.fits by rw [← hey]; exact fits_mk SB.out)
  have EX := Lib.hid hex
  have EY := Lib.hid hey
  clear h g hex hey
  go_enter Try.func6, Try.ntmps6
  go_wp2_with fail
  refine (awake_any w).mono ?_
  rintro e w1 ⟨rfl, hb'⟩
  have T := Lib.hid hb'
  clear hb'
  go_upto_region 5 with (fail)
  go_cut [13, 14] (fun s13 s14 wc => ∃ (a c : Nat) (Ax Ay : Option Addr) (cx cy : Nat), s13 = .pointer (some ⟨a, 0, none⟩) ∧ s14 = .pointer (some ⟨c, 0, none⟩) ∧ Two w wc a c n q q' ((s : Int) - 1) ((s' : Int) - 1) Ax Ay cx cy ex ey)
  case first =>
    have T := Lib.hid (show Below w.heap.size w w1.drew from below_drewN T.out 1)
    refine wp_region_early (fun _ => True) (fun _ => true) (by kernel_rfl) ?_
    change wpEarly _ _ _ _ _ _ 15 (Array.replicate 15 false) _ w1.drew
    obtain ⟨u1, hu1⟩ : ∃ u, u = w1.drew := ⟨_, rfl⟩
    rw [← hu1] at T ⊢
    clear hu1
    refine early_take (i := 0) 27 (.int .u64 (q : Int)) rfl rfl (by kernel_rfl) (by kernel_rfl) (by kernel_rfl) (by kernel_rfl) rfl (fun _ _ _ h => h) (fun w' hw' => by go_simp) trivial ?_
    simp only [Act.put, List.setIfInBounds_toArray, List.set_cons_zero, List.set_cons_succ]
    refine early_take (i := 1) 28 (.int .u16 (s : Int)) rfl rfl (by kernel_rfl) (by kernel_rfl) (by kernel_rfl) (by kernel_rfl) rfl (fun _ _ _ h => h) (fun w' hw' => by go_simp) trivial ?_
    simp only [Act.put, List.setIfInBounds_toArray, List.set_cons_zero, List.set_cons_succ]
    refine early_take (i := 2) 29 (.slice A n c) rfl rfl (by kernel_rfl) (by kernel_rfl) (by kernel_rfl) (by kernel_rfl) rfl (fun _ _ _ h => h) (fun w' hw' => by go_simp) trivial ?_
    simp only [Act.put, List.setIfInBounds_toArray, List.set_cons_zero, List.set_cons_succ]
    refine early_take (i := 4) 31 (.int .u64 (q' : Int)) rfl rfl (by kernel_rfl) (by kernel_rfl) (by kernel_rfl) (by kernel_rfl) rfl (fun _ _ _ h => h) (fun w' hw' => by go_simp) trivial ?_
    simp only [Act.put, List.setIfInBounds_toArray, List.set_cons_zero, List.set_cons_succ]
    refine early_take (i := 5) 32 (.int .u16 (s' : Int)) rfl rfl (by kernel_rfl) (by kernel_rfl) (by kernel_rfl) (by kernel_rfl) rfl (fun _ _ _ h => h) (fun w' hw' => by go_simp) trivial ?_
    simp only [Act.put, List.setIfInBounds_toArray, List.set_cons_zero, List.set_cons_succ]
    refine early_take (i := 6) 33 (.slice B m d) rfl rfl (by kernel_rfl) (by kernel_rfl) (by kernel_rfl) (by kernel_rfl) rfl (fun _ _ _ h => h) (fun w' hw' => by go_simp) trivial ?_
    simp only [Act.put, List.setIfInBounds_toArray, List.set_cons_zero, List.set_cons_succ]
    refine early_take (i := 7) 34 (.slice A n c) rfl rfl (by kernel_rfl) (by kernel_rfl) (by kernel_rfl) (by kernel_rfl) rfl (fun _ _ _ h => h) (fun w' hw' => by go_simp) trivial ?_
    simp only [Act.put, List.setIfInBounds_toArray, List.set_cons_zero, List.set_cons_succ]
    refine early_take (i := 8) 35 (.int .i64 (n : Int)) rfl rfl (by kernel_rfl) (by kernel_rfl) (by kernel_rfl) (by kernel_rfl) rfl (fun _ _ _ h => h) (fun w' hw' => by go_simp) trivial ?_
    simp only [Act.put, List.setIfInBounds_toArray, List.set_cons_zero, List.set_cons_succ]
    refine early_take (i := 9) 36 (.slice B n d) rfl rfl (by kernel_rfl) (by kernel_rfl) (by kernel_rfl) (by kernel_rfl) rfl (fun _ _ _ h => h) (fun w' hw' => by go_simp; intro hlt; exact absurd hlt (by omega)) trivial ?_
    simp only [Act.put, List.setIfInBounds_toArray, List.set_cons_zero, List.set_cons_succ]
    refine early_three (i := 3) (j := 11) (k := 12) (by kernel_rfl) ⟨rfl, fun K hK => ?_⟩ ⟨rfl, fun K hK => ?_⟩ ⟨rfl, fun K hK => ?_⟩
    · simp only [opWp, List.getElem?_toArray, List.getElem?_cons_succ, List.getElem?_cons_zero]
      go_simp
      go_at_call 8
      refine (make_any q s A n c L _ hs (by omega) (SA.out.below T.out)).mono ?_
      rintro e u2 ⟨AX, cX, rfl, hE, hb⟩
      rw [EX.out] at hE
      have T := Lib.hid (T.out.trans (hb.mono (up T.out rfl)))
      have RX := Lib.hid hE
      clear hE hb
      refine hK _ _ (fun _ => trivial) ?_
      refine early_three (i := 10) (j := 11) (k := 12) (by kernel_rfl) ⟨rfl, fun K hK => ?_⟩ ⟨rfl, fun K hK => ?_⟩ ⟨rfl, fun K hK => ?_⟩
      · simp only [opWp, List.getElem?_toArray, List.getElem?_cons_succ, List.getElem?_cons_zero]
        go_simp
        go_at_call 8
        refine (make_any q' s' B n d (M.take n) _ hs' (by omega) (SB.out.below T.out)).mono ?_
        rintro e u3 ⟨AY, cY, rfl, hE, hb⟩
        rw [EY.out] at hE
        have RX := Lib.hid (RX.out.below hb)
        have T := Lib.hid (T.out.trans (hb.mono (up T.out rfl)))
        have RY := Lib.hid hE
        clear hE hb
        refine hK _ _ (fun _ => trivial) ?_
        refine early_two (i := 11) (j := 12) (by kernel_rfl) ⟨rfl, fun K hK => ?_⟩ ⟨rfl, fun K hK => ?_⟩
        · simp only [opWp, List.getElem?_toArray, List.getElem?_cons_succ, List.getElem?_cons_zero]
          go_simp
          have LOZ13 := Lib.hid (up T.out rfl)
          have RX := Lib.hid (RX.out.alloc (.cells #[.int .u64 0, .int .i64 0, .slice none 0 0] 28))
          have RY := Lib.hid (RY.out.alloc (.cells #[.int .u64 0, .int .i64 0, .slice none 0 0] 28))
          have T := Lib.hid (T.out.alloc (up T.out rfl) (.cells #[.int .u64 0, .int .i64 0, .slice none 0 0] 28))
          have Z13 := Lib.hid (At.new (w := u3) (g := u3.heap.size) #[.int .u64 0, .int .i64 0, .slice none 0 0] 28 rfl)
          generalize u3.alloc (.cells #[.int .u64 0, .int .i64 0, .slice none 0 0] 28) = u4 at *
          generalize u3.heap.size = a4 at *
          refine hK _ _ (fun _ => trivial) ?_
          refine early_only (i := 12) (by kernel_rfl) rfl (fun K hK => ?_)
          simp only [opWp, List.getElem?_toArray, List.getElem?_cons_succ, List.getElem?_cons_zero]
          go_simp
          have NE := Lib.hid (show a4 < u4.heap.size from Z13.out.lt)
          have LOZ14 := Lib.hid (up T.out rfl)
          have RX := Lib.hid (RX.out.alloc (.cells #[.int .u64 0, .int .i64 0, .slice none 0 0] 28))
          have RY := Lib.hid (RY.out.alloc (.cells #[.int .u64 0, .int .i64 0, .slice none 0 0] 28))
          have Z13 := Lib.hid (Z13.out.alloc (.cells #[.int .u64 0, .int .i64 0, .slice none 0 0] 28))
          have T := Lib.hid (T.out.alloc (up T.out rfl) (.cells #[.int .u64 0, .int .i64 0, .slice none 0 0] 28))
          have Z14 := Lib.hid (At.new (w := u4) (g := u4.heap.size) #[.int .u64 0, .int .i64 0, .slice none 0 0] 28 rfl)
          generalize u4.alloc (.cells #[.int .u64 0, .int .i64 0, .slice none 0 0] 28) = u5 at *
          generalize u4.heap.size = a5 at *
          refine hK _ _ (fun _ => trivial) ?_
          refine early_only (i := 13) (by kernel_rfl) rfl (fun K hK => ?_)
          simp only [opWp, List.getElem?_toArray, List.getElem?_cons_succ, List.getElem?_cons_zero]
          refine wp_store_part 28 (.tmp 13) (.tmp 30) rfl a4 0 28 #[.int .u64 0, .int .i64 0, .slice none 0 0] #[.int .u64 (q : Int), .int .i64 ((s : Int) - 1), .slice AX n cX] rfl rfl Z13.out size28 (by simp) (note_all _ _ _ _ _) ?_
          intro u6 hat hb
          rw [note_part] at hat
          have RX := Lib.hid (RX.out.but hb (RX.out.off Z13.out))
          have RY := Lib.hid (RY.out.but hb (RY.out.off Z13.out))
          have Z14 := Lib.hid (Z14.out.but hb (by have := NE.out; omega))
          have T := Lib.hid (T.out.trans (hb.below (fun k e => by have := LOZ13.out; omega) (up T.out rfl)))
          have Z13 := Lib.hid hat
          clear hat hb
          refine hK _ _ (fun _ => trivial) ?_
          refine early_only (i := 14) (by kernel_rfl) rfl (fun K hK => ?_)
          simp only [opWp, List.getElem?_toArray, List.getElem?_cons_succ, List.getElem?_cons_zero]
          refine wp_store_part 28 (.tmp 14) (.tmp 37) rfl a5 0 28 #[.int .u64 0, .int .i64 0, .slice none 0 0] #[.int .u64 (q' : Int), .int .i64 ((s' : Int) - 1), .slice AY n cY] rfl rfl Z14.out size28 (by simp) (note_all _ _ _ _ _) ?_
          intro u7 hat hb
          rw [note_part] at hat
          have RX := Lib.hid (RX.out.but hb (RX.out.off Z14.out))
          have RY := Lib.hid (RY.out.but hb (RY.out.off Z14.out))
          have Z13 := Lib.hid (Z13.out.but hb (by have := NE.out; omega))
          have T := Lib.hid (T.out.trans (hb.below (fun k e => by have := LOZ14.out; omega) (up T.out rfl)))
          have Z14 := Lib.hid hat
          clear hat hb
          refine hK _ _ (fun _ => trivial) ?_
          refine early_done (by kernel_rfl) ?_
          go_wp2_with fail
          go_meet
          exact ⟨_, _, _, _, _, _, rfl, rfl, Z13.out, Z14.out, RX.out, RY.out, T.out⟩
        · simp only [opWp, List.getElem?_toArray, List.getElem?_cons_succ, List.getElem?_cons_zero]
          go_simp
          have LOZ14 := Lib.hid (up T.out rfl)
          have RX := Lib.hid (RX.out.alloc (.cells #[.int .u64 0, .int .i64 0, .slice none 0 0] 28))
          have RY := Lib.hid (RY.out.alloc (.cells #[.int .u64 0, .int .i64 0, .slice none 0 0] 28))
          have T := Lib.hid (T.out.alloc (up T.out rfl) (.cells #[.int .u64 0, .int .i64 0, .slice none 0 0] 28))
          have Z14 := Lib.hid (At.new (w := u3) (g := u3.heap.size) #[.int .u64 0, .int .i64 0, .slice none 0 0] 28 rfl)
          generalize u3.alloc (.cells #[.int .u64 0, .int .i64 0, .slice none 0 0] 28) = u8 at *
          generalize u3.heap.size = a8 at *
          refine hK _ _ (fun _ => trivial) ?_
          refine early_only (i := 11) (by kernel_rfl) rfl (fun K hK => ?_)
          simp only [opWp, List.getElem?_toArray, List.getElem?_cons_succ, List.getElem?_cons_zero]
          go_simp
          have NE := Lib.hid (show a8 < u8.heap.size from Z14.out.lt)
          have LOZ13 := Lib.hid (up T.out rfl)
          have RX := Lib.hid (RX.out.alloc (.cells #[.int .u64 0, .int .i64 0, .slice none 0 0] 28))
          have RY := Lib.hid (RY.out.alloc (.cells #[.int .u64 0, .int .i64 0, .slice none 0 0] 28))
          have Z14 := Lib.hid (Z14.out.alloc (.cells #[.int .u64 0, .int .i64 0, .slice none 0 0] 28))
          have T := Lib.hid (T.out.alloc (up T.out rfl) (.cells #[.int .u64 0, .int .i64 0, .slice none 0 0] 28))
          have Z13 := Lib.hid (At.new (w := u8) (g := u8.heap.size) #[.int .u64 0, .int .i64 0, .slice none 0 0] 28 rfl)
          generalize u8.alloc (.cells #[.int .u64 0, .int .i64 0, .slice none 0 0] 28) = u9 at *
          generalize u8.heap.size = a9 at *
          refine hK _ _ (fun _ => trivial) ?_
          refine early_only (i := 13) (by kernel_rfl) rfl (fun K hK => ?_)
          simp only [opWp, List.getElem?_toArray, List.getElem?_cons_succ, List.getElem?_cons_zero]
          refine wp_store_part 28 (.tmp 13) (.tmp 30) rfl a9 0 28 #[.int .u64 0, .int .i64 0, .slice none 0 0] #[.int .u64 (q : Int), .int .i64 ((s : Int) - 1), .slice AX n cX] rfl rfl Z13.out size28 (by simp) (note_all _ _ _ _ _) ?_
          intro u10 hat hb
          rw [note_part] at hat
          have RX := Lib.hid (RX.out.but hb (RX.out.off Z13.out))
          have RY := Lib.hid (RY.out.but hb (RY.out.off Z13.out))
          have Z14 := Lib.hid (Z14.out.but hb (by have := NE.out; omega))
          have T := Lib.hid (T.out.trans (hb.below (fun k e => by have := LOZ13.out; omega) (up T.out rfl)))
          have Z13 := Lib.hid hat
          clear hat hb
          refine hK _ _ (fun _ => trivial) ?_
          refine early_only (i := 14) (by kernel_rfl) rfl (fun K hK => ?_)
          simp only [opWp, List.getElem?_toArray, List.getElem?_cons_succ, List.getElem?_cons_zero]
          refine wp_store_part 28 (.tmp 14) (.tmp 37) rfl a8 0 28 #[.int .u64 0, .int .i64 0, .slice none 0 0] #[.int .u64 (q' : Int), .int .i64 ((s' : Int) - 1), .slice AY n cY] rfl rfl Z14.out size28 (by simp) (note_all _ _ _ _ _) ?_
          intro u11 hat hb
          rw [note_part] at hat
          have RX := Lib.hid (RX.out.but hb (RX.out.off Z14.out))
          have RY := Lib.hid (RY.out.but hb (RY.out.off Z14.out))
          have Z13 := Lib.hid (Z13.out.but hb (by have := NE.out; omega))
          have T := Lib.hid (T.out.trans (hb.below (fun k e => by have := LOZ14.out; omega) (up T.out rfl)))
          have Z14 := Lib.hid hat
          clear hat hb
          refine hK _ _ (fun _ => trivial) ?_
          refine early_done (by kernel_rfl) ?_
          go_wp2_with fail
          go_meet
          exact ⟨_, _, _, _, _, _, rfl, rfl, Z13.out, Z14.out, RX.out, RY.out, T.out⟩
      · simp only [opWp, List.getElem?_toArray, List.getElem?_cons_succ, List.getElem?_cons_zero]
        go_simp
        have LOZ13 := Lib.hid (up T.out rfl)
        have RX := Lib.hid (RX.out.alloc (.cells #[.int .u64 0, .int .i64 0, .slice none 0 0] 28))
        have T := Lib.hid (T.out.alloc (up T.out rfl) (.cells #[.int .u64 0, .int .i64 0, .slice none 0 0] 28))
        have Z13 := Lib.hid (At.new (w := u2) (g := u2.heap.size) #[.int .u64 0, .int .i64 0, .slice none 0 0] 28 rfl)
        generalize u2.alloc (.cells #[.int .u64 0, .int .i64 0, .slice none 0 0] 28) = u12 at *
        generalize u2.heap.size = a12 at *
        refine hK _ _ (fun _ => trivial) ?_
        refine early_two (i := 10) (j := 12) (by kernel_rfl) ⟨rfl, fun K hK => ?_⟩ ⟨rfl, fun K hK => ?_⟩
        · simp only [opWp, List.getElem?_toArray, List.getElem?_cons_succ, List.getElem?_cons_zero]
          go_simp
          go_at_call 8
          refine (make_any q' s' B n d (M.take n) _ hs' (by omega) (SB.out.below T.out)).mono ?_
          rintro e u13 ⟨AY, cY, rfl, hE, hb⟩
          rw [EY.out] at hE
          have RX := Lib.hid (RX.out.below hb)
          have Z13 := Lib.hid (Z13.out.below hb Z13.out.lt)
          have T := Lib.hid (T.out.trans (hb.mono (up T.out rfl)))
          have RY := Lib.hid hE
          clear hE hb
          refine hK _ _ (fun _ => trivial) ?_
          refine early_only (i := 12) (by kernel_rfl) rfl (fun K hK => ?_)
          simp only [opWp, List.getElem?_toArray, List.getElem?_cons_succ, List.getElem?_cons_zero]
          go_simp
          have NE := Lib.hid (show a12 < u13.heap.size from Z13.out.lt)
          have LOZ14 := Lib.hid (up T.out rfl)
          have RX := Lib.hid (RX.out.alloc (.cells #[.int .u64 0, .int .i64 0, .slice none 0 0] 28))
          have RY := Lib.hid (RY.out.alloc (.cells #[.int .u64 0, .int .i64 0, .slice none 0 0] 28))
          have Z13 := Lib.hid (Z13.out.alloc (.cells #[.int .u64 0, .int .i64 0, .slice none 0 0] 28))
          have T := Lib.hid (T.out.alloc (up T.out rfl) (.cells #[.int .u64 0, .int .i64 0, .slice none 0 0] 28))
          have Z14 := Lib.hid (At.new (w := u13) (g := u13.heap.size) #[.int .u64 0, .int .i64 0, .slice none 0 0] 28 rfl)
          generalize u13.alloc (.cells #[.int .u64 0, .int .i64 0, .slice none 0 0] 28) = u14 at *
          generalize u13.heap.size = a14 at *
          refine hK _ _ (fun _ => trivial) ?_
          refine early_only (i := 13) (by kernel_rfl) rfl (fun K hK => ?_)
          simp only [opWp, List.getElem?_toArray, List.getElem?_cons_succ, List.getElem?_cons_zero]
          refine wp_store_part 28 (.tmp 13) (.tmp 30) rfl a12 0 28 #[.int .u64 0, .int .i64 0, .slice none 0 0] #[.int .u64 (q : Int), .int .i64 ((s : Int) - 1), .slice AX n cX] rfl rfl Z13.out size28 (by simp) (note_all _ _ _ _ _) ?_
          intro u15 hat hb
          rw [note_part] at hat
          have RX := Lib.hid (RX.out.but hb (RX.out.off Z13.out))
          have RY := Lib.hid (RY.out.but hb (RY.out.off Z13.out))
          have Z14 := Lib.hid (Z14.out.but hb (by have := NE.out; omega))
          have T := Lib.hid (T.out.trans (hb.below (fun k e => by have := LOZ13.out; omega) (up T.out rfl)))
          have Z13 := Lib.hid hat
          clear hat hb
          refine hK _ _ (fun _ => trivial) ?_
          refine early_only (i := 14) (by kernel_rfl) rfl (fun K hK => ?_)
          simp only [opWp, List.getElem?_toArray, List.getElem?_cons_succ, List.getElem?_cons_zero]
          refine wp_store_part 28 (.tmp 14) (.tmp 37) rfl a14 0 28 #[.int .u64 0, .int .i64 0, .slice none 0 0] #[.int .u64 (q' : Int), .int .i64 ((s' : Int) - 1), .slice AY n cY] rfl rfl Z14.out size28 (by simp) (note_all _ _ _ _ _) ?_
          intro u16 hat hb
          rw [note_part] at hat
          have RX := Lib.hid (RX.out.but hb (RX.out.off Z14.out))
          have RY := Lib.hid (RY.out.but hb (RY.out.off Z14.out))
          have Z13 := Lib.hid (Z13.out.but hb (by have := NE.out; omega))
          have T := Lib.hid (T.out.trans (hb.below (fun k e => by have := LOZ14.out; omega) (up T.out rfl)))
          have Z14 := Lib.hid hat
          clear hat hb
          refine hK _ _ (fun _ => trivial) ?_
          refine early_done (by kernel_rfl) ?_
          go_wp2_with fail
          go_meet
          exact ⟨_, _, _, _, _, _, rfl, rfl, Z13.out, Z14.out, RX.out, RY.out, T.out⟩
        · simp only [opWp, List.getElem?_toArray, List.getElem?_cons_succ, List.getElem?_cons_zero]
          go_simp
          have NE := Lib.hid (show a12 < u12.heap.size from Z13.out.lt)
          have LOZ14 := Lib.hid (up T.out rfl)
          have RX := Lib.hid (RX.out.alloc (.cells #[.int .u64 0, .int .i64 0, .slice none 0 0] 28))
          have Z13 := Lib.hid (Z13.out.alloc (.cells #[.int .u64 0, .int .i64 0, .slice none 0 0] 28))
          have T := Lib.hid (T.out.alloc (up T.out rfl) (.cells #[.int .u64 0, .int .i64 0, .slice none 0 0] 28))
          have Z14 := Lib.hid (At.new (w := u12) (g := u12.heap.size) #[.int .u64 0, .int .i64 0, .slice none 0 0] 28 rfl)
          generalize u12.alloc (.cells #[.int .u64 0, .int .i64 0, .slice none 0 0] 28) = u17 at *
          generalize u12.heap.size = a17 at *
          refine hK _ _ (fun _ => trivial) ?_
          refine early_only (i := 10) (by kernel_rfl) rfl (fun K hK => ?_)
          simp only [opWp, List.getElem?_toArray, List.getElem?_cons_succ, List.getElem?_cons_zero]
          go_simp
          go_at_call 8
          refine (make_any q' s' B n d (M.take n) _ hs' (by omega) (SB.out.below T.out)).mono ?_
          rintro e u18 ⟨AY, cY, rfl, hE, hb⟩
          rw [EY.out] at hE
          have RX := Lib.hid (RX.out.below hb)
          have Z13 := Lib.hid (Z13.out.below hb Z13.out.lt)
          have Z14 := Lib.hid (Z14.out.below hb Z14.out.lt)
          have T := Lib.hid (T.out.trans (hb.mono (up T.out rfl)))
          have RY := Lib.hid hE
          clear hE hb
          refine hK _ _ (fun _ => trivial) ?_
          refine early_only (i := 13) (by kernel_rfl) rfl (fun K hK => ?_)
          simp only [opWp, List.getElem?_toArray, List.getElem?_cons_succ, List.getElem?_cons_zero]
          refine wp_store_part 28 (.tmp 13) (.tmp 30) rfl a12 0 28 #[.int .u64 0, .int .i64 0, .slice none 0 0] #[.int .u64 (q : Int), .int .i64 ((s : Int) - 1), .slice AX n cX] rfl rfl Z13.out size28 (by simp) (note_all _ _ _ _ _) ?_
          intro u19 hat hb
          rw [note_part] at hat
          have RX := Lib.hid (RX.out.but hb (RX.out.off Z13.out))
          have RY := Lib.hid (RY.out.but hb (RY.out.off Z13.out))
          have Z14 := Lib.hid (Z14.out.but hb (by have := NE.out; omega))
          have T := Lib.hid (T.out.trans (hb.below (fun k e => by have := LOZ13.out; omega) (up T.out rfl)))
          have Z13 := Lib.hid hat
          clear hat hb
          refine hK _ _ (fun _ => trivial) ?_
          refine early_only (i := 14) (by kernel_rfl) rfl (fun K hK => ?_)
          simp only [opWp, List.getElem?_toArray, List.getElem?_cons_succ, List.getElem?_cons_zero]
          refine wp_store_part 28 (.tmp 14) (.tmp 37) rfl a17 0 28 #[.int .u64 0, .int .i64 0, .slice none 0 0] #[.int .u64 (q' : Int), .int .i64 ((s' : Int) - 1), .slice AY n cY] rfl rfl Z14.out size28 (by simp) (note_all _ _ _ _ _) ?_
          intro u20 hat hb
          rw [note_part] at hat
          have RX := Lib.hid (RX.out.but hb (RX.out.off Z14.out))
          have RY := Lib.hid (RY.out.but hb (RY.out.off Z14.out))
          have Z13 := Lib.hid (Z13.out.but hb (by have := NE.out; omega))
          have T := Lib.hid (T.out.trans (hb.below (fun k e => by have := LOZ14.out; omega) (up T.out rfl)))
          have Z14 := Lib.hid hat
          clear hat hb
          refine hK _ _ (fun _ => trivial) ?_
          refine early_done (by kernel_rfl) ?_
          go_wp2_with fail
          go_meet
          exact ⟨_, _, _, _, _, _, rfl, rfl, Z13.out, Z14.out, RX.out, RY.out, T.out⟩
      · simp only [opWp, List.getElem?_toArray, List.getElem?_cons_succ, List.getElem?_cons_zero]
        go_simp
        have LOZ14 := Lib.hid (up T.out rfl)
        have RX := Lib.hid (RX.out.alloc (.cells #[.int .u64 0, .int .i64 0, .slice none 0 0] 28))
        have T := Lib.hid (T.out.alloc (up T.out rfl) (.cells #[.int .u64 0, .int .i64 0, .slice none 0 0] 28))
        have Z14 := Lib.hid (At.new (w := u2) (g := u2.heap.size) #[.int .u64 0, .int .i64 0, .slice none 0 0] 28 rfl)
        generalize u2.alloc (.cells #[.int .u64 0, .int .i64 0, .slice none 0 0] 28) = u21 at *
        generalize u2.heap.size = a21 at *
        refine hK _ _ (fun _ => trivial) ?_
        refine early_two (i := 10) (j := 11) (by kernel_rfl) ⟨rfl, fun K hK => ?_⟩ ⟨rfl, fun K hK => ?_⟩
        · simp only [opWp, List.getElem?_toArray, List.getElem?_cons_succ, List.getElem?_cons_zero]
          go_simp
          go_at_call 8
          refine (make_any q' s' B n d (M.take n) _ hs' (by omega) (SB.out.below T.out)).mono ?_
          rintro e u22 ⟨AY, cY, rfl, hE, hb⟩
          rw [EY.out] at hE
          have RX := Lib.hid (RX.out.below hb)
          have Z14 := Lib.hid (Z14.out.below hb Z14.out.lt)
          have T := Lib.hid (T.out.trans (hb.mono (up T.out rfl)))
          have RY := Lib.hid hE
          clear hE hb
          refine hK _ _ (fun _ => trivial) ?_
          refine early_only (i := 11) (by kernel_rfl) rfl (fun K hK => ?_)
          simp only [opWp, List.getElem?_toArray, List.getElem?_cons_succ, List.getElem?_cons_zero]
          go_simp
          have NE := Lib.hid (show a21 < u22.heap.size from Z14.out.lt)
          have LOZ13 := Lib.hid (up T.out rfl)
          have RX := Lib.hid (RX.out.alloc (.cells #[.int .u64 0, .int .i64 0, .slice none 0 0] 28))
          have RY := Lib.hid (RY.out.alloc (.cells #[.int .u64 0, .int .i64 0, .slice none 0 0] 28))
          have Z14 := Lib.hid (Z14.out.alloc (.cells #[.int .u64 0, .int .i64 0, .slice none 0 0] 28))
          have T := Lib.hid (T.out.alloc (up T.out rfl) (.cells #[.int .u64 0, .int .i64 0, .slice none 0 0] 28))
          have Z13 := Lib.hid (At.new (w := u22) (g := u22.heap.size) #[.int .u64 0, .int .i64 0, .slice none 0 0] 28 rfl)
          generalize u22.alloc (.cells #[.int .u64 0, .int .i64 0, .slice none 0 0] 28) = u23 at *
          generalize u22.heap.size = a23 at *
          refine hK _ _ (fun _ => trivial) ?_
          refine early_only (i := 13) (by kernel_rfl) rfl (fun K hK => ?_)
          simp only [opWp, List.getElem?_toArray, List.getElem?_cons_succ, List.getElem?_cons_zero]
          refine wp_store_part 28 (.tmp 13) (.tmp 30) rfl a23 0 28 #[.int .u64 0, .int .i64 0, .slice none 0 0] #[.int .u64 (q : Int), .int .i64 ((s : Int) - 1), .slice AX n cX] rfl rfl Z13.out size28 (by simp) (note_all _ _ _ _ _) ?_
          intro u24 hat hb
          rw [note_part] at hat
          have RX := Lib.hid (RX.out.but hb (RX.out.off Z13.out))
          have RY := Lib.hid (RY.out.but hb (RY.out.off Z13.out))
          have Z14 := Lib.hid (Z14.out.but hb (by have := NE.out; omega))
          have T := Lib.hid (T.out.trans (hb.below (fun k e => by have := LOZ13.out; omega) (up T.out rfl)))
          have Z13 := Lib.hid hat
          clear hat hb
          refine hK _ _ (fun _ => trivial) ?_
          refine early_only (i := 14) (by kernel_rfl) rfl (fun K hK => ?_)
          simp only [opWp, List.getElem?_toArray, List.getElem?_cons_succ, List.getElem?_cons_zero]
          refine wp_store_part 28 (.tmp 14) (.tmp 37) rfl a21 0 28 #[.int .u64 0, .int .i64 0, .slice none 0 0] #[.int .u64 (q' : Int), .int .i64 ((s' : Int) - 1), .slice AY n cY] rfl rfl Z14.out size28 (by simp) (note_all _ _ _ _ _) ?_
          intro u25 hat hb
          rw [note_part] at hat
          have RX := Lib.hid (RX.out.but hb (RX.out.off Z14.out))
          have RY := Lib.hid (RY.out.but hb (RY.out.off Z14.out))
          have Z13 := Lib.hid (Z13.out.but hb (by have := NE.out; omega))
          have T := Lib.hid (T.out.trans (hb.below (fun k e => by have := LOZ14.out; omega) (up T.out rfl)))
          have Z14 := Lib.hid hat
          clear hat hb
          refine hK _ _ (fun _ => trivial) ?_
          refine early_done (by kernel_rfl) ?_
          go_wp2_with fail
          go_meet
          exact ⟨_, _, _, _, _, _, rfl, rfl, Z13.out, Z14.out, RX.out, RY.out, T.out⟩
        · simp only [opWp, List.getElem?_toArray, List.getElem?_cons_succ, List.getElem?_cons_zero]
          go_simp
          have NE := Lib.hid (show a21 < u21.heap.size from Z14.out.lt)
          have LOZ13 := Lib.hid (up T.out rfl)
          have RX := Lib.hid (RX.out.alloc (.cells #[.int .u64 0, .int .i64 0, .slice none 0 0] 28))
          have Z14 := Lib.hid (Z14.out.alloc (.cells #[.int .u64 0, .int .i64 0, .slice none 0 0] 28))
          have T := Lib.hid (T.out.alloc (up T.out rfl) (.cells #[.int .u64 0, .int .i64 0, .slice none 0 0] 28))
          have Z13 := Lib.hid (At.new (w := u21) (g := u21.heap.size) #[.int .u64 0, .int .i64 0, .slice none 0 0] 28 rfl)
          generalize u21.alloc (.cells #[.int .u64 0, .int .i64 0, .slice none 0 0] 28) = u26 at *
          generalize u21.heap.size = a26 at *
          refine hK _ _ (fun _ => trivial) ?_
          refine early_only (i := 10) (by kernel_rfl) rfl (fun K hK => ?_)
          simp only [opWp, List.getElem?_toArray, List.getElem?_cons_succ, List.getElem?_cons_zero]
          go_simp
          go_at_call 8
          refine (make_any q' s' B n d (M.take n) _ hs' (by omega) (SB.out.below T.out)).mono ?_
          rintro e u27 ⟨AY, cY, rfl, hE, hb⟩
          rw [EY.out] at hE
          have RX := Lib.hid (RX.out.below hb)
          have Z13 := Lib.hid (Z13.out.below hb Z13.out.lt)
          have Z14 := Lib.hid (Z14.out.below hb Z14.out.lt)
          have T := Lib.hid (T.out.trans (hb.mono (up T.out rfl)))
          have RY := Lib.hid hE
          clear hE hb
          refine hK _ _ (fun _ => trivial) ?_
          refine early_only (i := 13) (by kernel_rfl) rfl (fun K hK => ?_)
          simp only [opWp, List.getElem?_toArray, List.getElem?_cons_succ, List.getElem?_cons_zero]
          refine wp_store_part 28 (.tmp 13) (.tmp 30) rfl a26 0 28 #[.int .u64 0, .int .i64 0, .slice none 0 0] #[.int .u64 (q : Int), .int .i64 ((s : Int) - 1), .slice AX n cX] rfl rfl Z13.out size28 (by simp) (note_all _ _ _ _ _) ?_
          intro u28 hat hb
          rw [note_part] at hat
          have RX := Lib.hid (RX.out.but hb (RX.out.off Z13.out))
          have RY := Lib.hid (RY.out.but hb (RY.out.off Z13.out))
          have Z14 := Lib.hid (Z14.out.but hb (by have := NE.out; omega))
          have T := Lib.hid (T.out.trans (hb.below (fun k e => by have := LOZ13.out; omega) (up T.out rfl)))
          have Z13 := Lib.hid hat
          clear hat hb
          refine hK _ _ (fun _ => trivial) ?_
          refine early_only (i := 14) (by kernel_rfl) rfl (fun K hK => ?_)
          simp only [opWp, List.getElem?_toArray, List.getElem?_cons_succ, List.getElem?_cons_zero]
          refine wp_store_part 28 (.tmp 14) (.tmp 37) rfl a21 0 28 #[.int .u64 0, .int .i64 0, .slice none 0 0] #[.int .u64 (q' : Int), .int .i64 ((s' : Int) - 1), .slice AY n cY] rfl rfl Z14.out size28 (by simp) (note_all _ _ _ _ _) ?_
          intro u29 hat hb
          rw [note_part] at hat
          have RX := Lib.hid (RX.out.but hb (RX.out.off Z14.out))
          have RY := Lib.hid (RY.out.but hb (RY.out.off Z14.out))
          have Z13 := Lib.hid (Z13.out.but hb (by have := NE.out; omega))
          have T := Lib.hid (T.out.trans (hb.below (fun k e => by have := LOZ14.out; omega) (up T.out rfl)))
          have Z14 := Lib.hid hat
          clear hat hb
          refine hK _ _ (fun _ => trivial) ?_
          refine early_done (by kernel_rfl) ?_
          go_wp2_with fail
          go_meet
          exact ⟨_, _, _, _, _, _, rfl, rfl, Z13.out, Z14.out, RX.out, RY.out, T.out⟩
    · simp only [opWp, List.getElem?_toArray, List.getElem?_cons_succ, List.getElem?_cons_zero]
      go_simp
      have LOZ13 := Lib.hid (up T.out rfl)
      have T := Lib.hid (T.out.alloc (up T.out rfl) (.cells #[.int .u64 0, .int .i64 0, .slice none 0 0] 28))
      have Z13 := Lib.hid (At.new (w := u1) (g := u1.heap.size) #[.int .u64 0, .int .i64 0, .slice none 0 0] 28 rfl)
      generalize u1.alloc (.cells #[.int .u64 0, .int .i64 0, .slice none 0 0] 28) = u30 at *
      generalize u1.heap.size = a30 at *
      refine hK _ _ (fun _ => trivial) ?_
      refine early_two (i := 3) (j := 12) (by kernel_rfl) ⟨rfl, fun K hK => ?_⟩ ⟨rfl, fun K hK => ?_⟩
      · simp only [opWp, List.getElem?_toArray, List.getElem?_cons_succ, List.getElem?_cons_zero]
        go_simp
        go_at_call 8
        refine (make_any q s A n c L _ hs (by omega) (SA.out.below T.out)).mono ?_
        rintro e u31 ⟨AX, cX, rfl, hE, hb⟩
        rw [EX.out] at hE
        have Z13 := Lib.hid (Z13.out.below hb Z13.out.lt)
        have T := Lib.hid (T.out.trans (hb.mono (up T.out rfl)))
        have RX := Lib.hid hE
        clear hE hb
        refine hK _ _ (fun _ => trivial) ?_
        refine early_two (i := 10) (j := 12) (by kernel_rfl) ⟨rfl, fun K hK => ?_⟩ ⟨rfl, fun K hK => ?_⟩
        · simp only [opWp, List.getElem?_toArray, List.getElem?_cons_succ, List.getElem?_cons_zero]
          go_simp
          go_at_call 8
          refine (make_any q' s' B n d (M.take n) _ hs' (by omega) (SB.out.below T.out)).mono ?_
          rintro e u32 ⟨AY, cY, rfl, hE, hb⟩
          rw [EY.out] at hE
          have RX := Lib.hid (RX.out.below hb)
          have Z13 := Lib.hid (Z13.out.below hb Z13.out.lt)
          have T := Lib.hid (T.out.trans (hb.mono (up T.out rfl)))
          have RY := Lib.hid hE
          clear hE hb
          refine hK _ _ (fun _ => trivial) ?_
          refine early_only (i := 12) (by kernel_rfl) rfl (fun K hK => ?_)
          simp only [opWp, List.getElem?_toArray, List.getElem?_cons_succ, List.getElem?_cons_zero]
          go_simp
          have NE := Lib.hid (show a30 < u32.heap.size from Z13.out.lt)
          have LOZ14 := Lib.hid (up T.out rfl)
          have RX := Lib.hid (RX.out.alloc (.cells #[.int .u64 0, .int .i64 0, .slice none 0 0] 28))
          have RY := Lib.hid (RY.out.alloc (.cells #[.int .u64 0, .int .i64 0, .slice none 0 0] 28))
          have Z13 := Lib.hid (Z13.out.alloc (.cells #[.int .u64 0, .int .i64 0, .slice none 0 0] 28))
          have T := Lib.hid (T.out.alloc (up T.out rfl) (.cells #[.int .u64 0, .int .i64 0, .slice none 0 0] 28))
          have Z14 := Lib.hid (At.new (w := u32) (g := u32.heap.size) #[.int .u64 0, .int .i64 0, .slice none 0 0] 28 rfl)
          generalize u32.alloc (.cells #[.int .u64 0, .int .i64 0, .slice none 0 0] 28) = u33 at *
          generalize u32.heap.size = a33 at *
          refine hK _ _ (fun _ => trivial) ?_
          refine early_only (i := 13) (by kernel_rfl) rfl (fun K hK => ?_)
          simp only [opWp, List.getElem?_toArray, List.getElem?_cons_succ, List.getElem?_cons_zero]
          refine wp_store_part 28 (.tmp 13) (.tmp 30) rfl a30 0 28 #[.int .u64 0, .int .i64 0, .slice none 0 0] #[.int .u64 (q : Int), .int .i64 ((s : Int) - 1), .slice AX n cX] rfl rfl Z13.out size28 (by simp) (note_all _ _ _ _ _) ?_
          intro u34 hat hb
          rw [note_part] at hat
          have RX := Lib.hid (RX.out.but hb (RX.out.off Z13.out))
          have RY := Lib.hid (RY.out.but hb (RY.out.off Z13.out))
          have Z14 := Lib.hid (Z14.out.but hb (by have := NE.out; omega))
          have T := Lib.hid (T.out.trans (hb.below (fun k e => by have := LOZ13.out; omega) (up T.out rfl)))
          have Z13 := Lib.hid hat
          clear hat hb
          refine hK _ _ (fun _ => trivial) ?_
          refine early_only (i := 14) (by kernel_rfl) rfl (fun K hK => ?_)
          simp only [opWp, List.getElem?_toArray, List.getElem?_cons_succ, List.getElem?_cons_zero]
          refine wp_store_part 28 (.tmp 14) (.tmp 37) rfl a33 0 28 #[.int .u64 0, .int .i64 0, .slice none 0 0] #[.int .u64 (q' : Int), .int .i64 ((s' : Int) - 1), .slice AY n cY] rfl rfl Z14.out size28 (by simp) (note_all _ _ _ _ _) ?_
          intro u35 hat hb
          rw [note_part] at hat
          have RX := Lib.hid (RX.out.but hb (RX.out.off Z14.out))
          have RY := Lib.hid (RY.out.but hb (RY.out.off Z14.out))
          have Z13 := Lib.hid (Z13.out.but hb (by have := NE.out; omega))
          have T := Lib.hid (T.out.trans (hb.below (fun k e => by have := LOZ14.out; omega) (up T.out rfl)))
          have Z14 := Lib.hid hat
          clear hat hb
          refine hK _ _ (fun _ => trivial) ?_
          refine early_done (by kernel_rfl) ?_
          go_wp2_with fail
          go_meet
          exact ⟨_, _, _, _, _, _, rfl, rfl, Z13.out, Z14.out, RX.out, RY.out, T.out⟩
        · simp only [opWp, List.getElem?_toArray, List.getElem?_cons_succ, List.getElem?_cons_zero]
          go_simp
          have NE := Lib.hid (show a30 < u31.heap.size from Z13.out.lt)
          have LOZ14 := Lib.hid (up T.out rfl)
          have RX := Lib.hid (RX.out.alloc (.cells #[.int .u64 0, .int .i64 0, .slice none 0 0] 28))
          have Z13 := Lib.hid (Z13.out.alloc (.cells #[.int .u64 0, .int .i64 0, .slice none 0 0] 28))
          have T := Lib.hid (T.out.alloc (up T.out rfl) (.cells #[.int .u64 0, .int .i64 0, .slice none 0 0] 28))
          have Z14 := Lib.hid (At.new (w := u31) (g := u31.heap.size) #[.int .u64 0, .int .i64 0, .slice none 0 0] 28 rfl)
          generalize u31.alloc (.cells #[.int .u64 0, .int .i64 0, .slice none 0 0] 28) = u36 at *
          generalize u31.heap.size = a36 at *
          refine hK _ _ (fun _ => trivial) ?_
          refine early_only (i := 10) (by kernel_rfl) rfl (fun K hK => ?_)
          simp only [opWp, List.getElem?_toArray, List.getElem?_cons_succ, List.getElem?_cons_zero]
          go_simp
          go_at_call 8
          refine (make_any q' s' B n d (M.take n) _ hs' (by omega) (SB.out.below T.out)).mono ?_
          rintro e u37 ⟨AY, cY, rfl, hE, hb⟩
          rw [EY.out] at hE
          have RX := Lib.hid (RX.out.below hb)
          have Z13 := Lib.hid (Z13.out.below hb Z13.out.lt)
          have Z14 := Lib.hid (Z14.out.below hb Z14.out.lt)
          have T := Lib.hid (T.out.trans (hb.mono (up T.out rfl)))
          have RY := Lib.hid hE
          clear hE hb
          refine hK _ _ (fun _ => trivial) ?_
          refine early_only (i := 13) (by kernel_rfl) rfl (fun K hK => ?_)
          simp only [opWp, List.getElem?_toArray, List.getElem?_cons_succ, List.getElem?_cons_zero]
          refine wp_store_part 28 (.tmp 13) (.tmp 30) rfl a30 0 28 #[.int .u64 0, .int .i64 0, .slice none 0 0] #[.int .u64 (q : Int), .int .i64 ((s : Int) - 1), .slice AX n cX] rfl rfl Z13.out size28 (by simp) (note_all _ _ _ _ _) ?_
          intro u38 hat hb
          rw [note_part] at hat
          have RX := Lib.hid (RX.out.but hb (RX.out.off Z13.out))
          have RY := Lib.hid (RY.out.but hb (RY.out.off Z13.out))
          have Z14 := Lib.hid (Z14.out.but hb (by have := NE.out; omega))
          have T := Lib.hid (T.out.trans (hb.below (fun k e => by have := LOZ13.out; omega) (up T.out rfl)))
          have Z13 := Lib.hid hat
          clear hat hb
          refine hK _ _ (fun _ => trivial) ?_
          refine early_only (i := 14) (by kernel_rfl) rfl (fun K hK => ?_)
          simp only [opWp, List.getElem?_toArray, List.getElem?_cons_succ, List.getElem?_cons_zero]
          refine wp_store_part 28 (.tmp 14) (.tmp 37) rfl a36 0 28 #[.int .u64 0, .int .i64 0, .slice none 0 0] #[.int .u64 (q' : Int), .int .i64 ((s' : Int) - 1), .slice AY n cY] rfl rfl Z14.out size28 (by simp) (note_all _ _ _ _ _) ?_
          intro u39 hat hb
          rw [note_part] at hat
          have RX := Lib.hid (RX.out.but hb (RX.out.off Z14.out))
          have RY := Lib.hid (RY.out.but hb (RY.out.off Z14.out))
          have Z13 := Lib.hid (Z13.out.but hb (by have := NE.out; omega))
          have T := Lib.hid (T.out.trans (hb.below (fun k e => by have := LOZ14.out; omega) (up T.out rfl)))
          have Z14 := Lib.hid hat
          clear hat hb
          refine hK _ _ (fun _ => trivial) ?_
          refine early_done (by kernel_rfl) ?_
          go_wp2_with fail
          go_meet
          exact ⟨_, _, _, _, _, _, rfl, rfl, Z13.out, Z14.out, RX.out, RY.out, T.out⟩
      · simp only [opWp, List.getElem?_toArray, List.getElem?_cons_succ, List.getElem?_cons_zero]
        go_simp
        have NE := Lib.hid (show a30 < u30.heap.size from Z13.out.lt)
        have LOZ14 := Lib.hid (up T.out rfl)
        have Z13 := Lib.hid (Z13.out.alloc (.cells #[.int .u64 0, .int .i64 0, .slice none 0 0] 28))
        have T := Lib.hid (T.out.alloc (up T.out rfl) (.cells #[.int .u64 0, .int .i64 0, .slice none 0 0] 28))
        have Z14 := Lib.hid (At.new (w := u30) (g := u30.heap.size) #[.int .u64 0, .int .i64 0, .slice none 0 0] 28 rfl)
        generalize u30.alloc (.cells #[.int .u64 0, .int .i64 0, .slice none 0 0] 28) = u40 at *
        generalize u30.heap.size = a40 at *
        refine hK _ _ (fun _ => trivial) ?_
        refine early_only (i := 3) (by kernel_rfl) rfl (fun K hK => ?_)
        simp only [opWp, List.getElem?_toArray, List.getElem?_cons_succ, List.getElem?_cons_zero]
        go_simp
        go_at_call 8
        refine (make_any q s A n c L _ hs (by omega) (SA.out.below T.out)).mono ?_
        rintro e u41 ⟨AX, cX, rfl, hE, hb⟩
        rw [EX.out] at hE
        have Z13 := Lib.hid (Z13.out.below hb Z13.out.lt)
        have Z14 := Lib.hid (Z14.out.below hb Z14.out.lt)
        have T := Lib.hid (T.out.trans (hb.mono (up T.out rfl)))
        have RX := Lib.hid hE
        clear hE hb
        refine hK _ _ (fun _ => trivial) ?_
        refine early_only (i := 10) (by kernel_rfl) rfl (fun K hK => ?_)
        simp only [opWp, List.getElem?_toArray, List.getElem?_cons_succ, List.getElem?_cons_zero]
        go_simp
        go_at_call 8
        refine (make_any q' s' B n d (M.take n) _ hs' (by omega) (SB.out.below T.out)).mono ?_
        rintro e u42 ⟨AY, cY, rfl, hE, hb⟩
        rw [EY.out] at hE
        have RX := Lib.hid (RX.out.below hb)
        have Z13 := Lib.hid (Z13.out.below hb Z13.out.lt)
        have Z14 := Lib.hid (Z14.out.below hb Z14.out.lt)
        have T := Lib.hid (T.out.trans (hb.mono (up T.out rfl)))
        have RY := Lib.hid hE
        clear hE hb
        refine hK _ _ (fun _ => trivial) ?_
        refine early_only (i := 13) (by kernel_rfl) rfl (fun K hK => ?_)
        simp only [opWp, List.getElem?_toArray, List.getElem?_cons_succ, List.getElem?_cons_zero]
        refine wp_store_part 28 (.tmp 13) (.tmp 30) rfl a30 0 28 #[.int .u64 0, .int .i64 0, .slice none 0 0] #[.int .u64 (q : Int), .int .i64 ((s : Int) - 1), .slice AX n cX] rfl rfl Z13.out size28 (by simp) (note_all _ _ _ _ _) ?_
        intro u43 hat hb
        rw [note_part] at hat
        have RX := Lib.hid (RX.out.but hb (RX.out.off Z13.out))
        have RY := Lib.hid (RY.out.but hb (RY.out.off Z13.out))
        have Z14 := Lib.hid (Z14.out.but hb (by have := NE.out; omega))
        have T := Lib.hid (T.out.trans (hb.below (fun k e => by have := LOZ13.out; omega) (up T.out rfl)))
        have Z13 := Lib.hid hat
        clear hat hb
        refine hK _ _ (fun _ => trivial) ?_
        refine early_only (i := 14) (by kernel_rfl) rfl (fun K hK => ?_)
        simp only [opWp, List.getElem?_toArray, List.getElem?_cons_succ, List.getElem?_cons_zero]
        refine wp_store_part 28 (.tmp 14) (.tmp 37) rfl a40 0 28 #[.int .u64 0, .int .i64 0, .slice none 0 0] #[.int .u64 (q' : Int), .int .i64 ((s' : Int) - 1), .slice AY n cY] rfl rfl Z14.out size28 (by simp) (note_all _ _ _ _ _) ?_
        intro u44 hat hb
        rw [note_part] at hat
        have RX := Lib.hid (RX.out.but hb (RX.out.off Z14.out))
        have RY := Lib.hid (RY.out.but hb (RY.out.off Z14.out))
        have Z13 := Lib.hid (Z13.out.but hb (by have := NE.out; omega))
        have T := Lib.hid (T.out.trans (hb.below (fun k e => by have := LOZ14.out; omega) (up T.out rfl)))
        have Z14 := Lib.hid hat
        clear hat hb
        refine hK _ _ (fun _ => trivial) ?_
        refine early_done (by kernel_rfl) ?_
        go_wp2_with fail
        go_meet
        exact ⟨_, _, _, _, _, _, rfl, rfl, Z13.out, Z14.out, RX.out, RY.out, T.out⟩
    · simp only [opWp, List.getElem?_toArray, List.getElem?_cons_succ, List.getElem?_cons_zero]
      go_simp
      have LOZ14 := Lib.hid (up T.out rfl)
      have T := Lib.hid (T.out.alloc (up T.out rfl) (.cells #[.int .u64 0, .int .i64 0, .slice none 0 0] 28))
      have Z14 := Lib.hid (At.new (w := u1) (g := u1.heap.size) #[.int .u64 0, .int .i64 0, .slice none 0 0] 28 rfl)
      generalize u1.alloc (.cells #[.int .u64 0, .int .i64 0, .slice none 0 0] 28) = u45 at *
      generalize u1.heap.size = a45 at *
      refine hK _ _ (fun _ => trivial) ?_
      refine early_two (i := 3) (j := 11) (by kernel_rfl) ⟨rfl, fun K hK => ?_⟩ ⟨rfl, fun K hK => ?_⟩
      · simp only [opWp, List.getElem?_toArray, List.getElem?_cons_succ, List.getElem?_cons_zero]
        go_simp
        go_at_call 8
        refine (make_any q s A n c L _ hs (by omega) (SA.out.below T.out)).mono ?_
        rintro e u46 ⟨AX, cX, rfl, hE, hb⟩
        rw [EX.out] at hE
        have Z14 := Lib.hid (Z14.out.below hb Z14.out.lt)
        have T := Lib.hid (T.out.trans (hb.mono (up T.out rfl)))
        have RX := Lib.hid hE
        clear hE hb
        refine hK _ _ (fun _ => trivial) ?_
        refine early_two (i := 10) (j := 11) (by kernel_rfl) ⟨rfl, fun K hK => ?_⟩ ⟨rfl, fun K hK => ?_⟩
        · simp only [opWp, List.getElem?_toArray, List.getElem?_cons_succ, List.getElem?_cons_zero]
          go_simp
          go_at_call 8
          refine (make_any q' s' B n d (M.take n) _ hs' (by omega) (SB.out.below T.out)).mono ?_
          rintro e u47 ⟨AY, cY, rfl, hE, hb⟩
          rw [EY.out] at hE
          have RX := Lib.hid (RX.out.below hb)
          have Z14 := Lib.hid (Z14.out.below hb Z14.out.lt)
          have T := Lib.hid (T.out.trans (hb.mono (up T.out rfl)))
          have RY := Lib.hid hE
          clear hE hb
          refine hK _ _ (fun _ => trivial) ?_
          refine early_only (i := 11) (by kernel_rfl) rfl (fun K hK => ?_)
          simp only [opWp, List.getElem?_toArray, List.getElem?_cons_succ, List.getElem?_cons_zero]
          go_simp
          have NE := Lib.hid (show a45 < u47.heap.size from Z14.out.lt)
          have LOZ13 := Lib.hid (up T.out rfl)
          have RX := Lib.hid (RX.out.alloc (.cells #[.int .u64 0, .int .i64 0, .slice none 0 0] 28))
          have RY := Lib.hid (RY.out.alloc (.cells #[.int .u64 0, .int .i64 0, .slice none 0 0] 28))
          have Z14 := Lib.hid (Z14.out.alloc (.cells #[.int .u64 0, .int .i64 0, .slice none 0 0] 28))
          have T := Lib.hid (T.out.alloc (up T.out rfl) (.cells #[.int .u64 0, .int .i64 0, .slice none 0 0] 28))
          have Z13 := Lib.hid (At.new (w := u47) (g := u47.heap.size) #[.int .u64 0, .int .i64 0, .slice none 0 0] 28 rfl)
          generalize u47.alloc (.cells #[.int .u64 0, .int .i64 0, .slice none 0 0] 28) = u48 at *
          generalize u47.heap.size = a48 at *
          refine hK _ _ (fun _ => trivial) ?_
          refine early_only (i := 13) (by kernel_rfl) rfl (fun K hK => ?_)
          simp only [opWp, List.getElem?_toArray, List.getElem?_cons_succ, List.getElem?_cons_zero]
          refine wp_store_part 28 (.tmp 13) (.tmp 30) rfl a48 0 28 #[.int .u64 0, .int .i64 0, .slice none 0 0] #[.int .u64 (q : Int), .int .i64 ((s : Int) - 1), .slice AX n cX] rfl rfl Z13.out size28 (by simp) (note_all _ _ _ _ _) ?_
          intro u49 hat hb
          rw [note_part] at hat
          have RX := Lib.hid (RX.out.but hb (RX.out.off Z13.out))
          have RY := Lib.hid (RY.out.but hb (RY.out.off Z13.out))
          have Z14 := Lib.hid (Z14.out.but hb (by have := NE.out; omega))
          have T := Lib.hid (T.out.trans (hb.below (fun k e => by have := LOZ13.out; omega) (up T.out rfl)))
          have Z13 := Lib.hid hat
          clear hat hb
          refine hK _ _ (fun _ => trivial) ?_
          refine early_only (i := 14) (by kernel_rfl) rfl (fun K hK => ?_)
          simp only [opWp, List.getElem?_toArray, List.getElem?_cons_succ, List.getElem?_cons_zero]
          refine wp_store_part 28 (.tmp 14) (.tmp 37) rfl a45 0 28 #[.int .u64 0, .int .i64 0, .slice none 0 0] #[.int .u64 (q' : Int), .int .i64 ((s' : Int) - 1), .slice AY n cY] rfl rfl Z14.out size28 (by simp) (note_all _ _ _ _ _) ?_
          intro u50 hat hb
          rw [note_part] at hat
          have RX := Lib.hid (RX.out.but hb (RX.out.off Z14.out))
          have RY := Lib.hid (RY.out.but hb (RY.out.off Z14.out))
          have Z13 := Lib.hid (Z13.out.but hb (by have := NE.out; omega))
          have T := Lib.hid (T.out.trans (hb.below (fun k e => by have := LOZ14.out; omega) (up T.out rfl)))
          have Z14 := Lib.hid hat
          clear hat hb
          refine hK _ _ (fun _ => trivial) ?_
          refine early_done (by kernel_rfl) ?_
          go_wp2_with fail
          go_meet
          exact ⟨_, _, _, _, _, _, rfl, rfl, Z13.out, Z14.out, RX.out, RY.out, T.out⟩
        · simp only [opWp, List.getElem?_toArray, List.getElem?_cons_succ, List.getElem?_cons_zero]
          go_simp
          have NE := Lib.hid (show a45 < u46.heap.size from Z14.out.lt)
          have LOZ13 := Lib.hid (up T.out rfl)
          have RX := Lib.hid (RX.out.alloc (.cells #[.int .u64 0, .int .i64 0, .slice none 0 0] 28))
          have Z14 := Lib.hid (Z14.out.alloc (.cells #[.int .u64 0, .int .i64 0, .slice none 0 0] 28))
          have T := Lib.hid (T.out.alloc (up T.out rfl) (.cells #[.int .u64 0, .int .i64 0, .slice none 0 0] 28))
          have Z13 := Lib.hid (At.new (w := u46) (g := u46.heap.size) #[.int .u64 0, .int .i64 0, .slice none 0 0] 28 rfl)
          generalize u46.alloc (.cells #[.int .u64 0, .int .i64 0, .slice none 0 0] 28) = u51 at *
          generalize u46.heap.size = a51 at *
          refine hK _ _ (fun _ => trivial) ?_
          refine early_only (i := 10) (by kernel_rfl) rfl (fun K hK => ?_)
          simp only [opWp, List.getElem?_toArray, List.getElem?_cons_succ, List.getElem?_cons_zero]
          go_simp
          go_at_call 8
          refine (make_any q' s' B n d (M.take n) _ hs' (by omega) (SB.out.below T.out)).mono ?_
          rintro e u52 ⟨AY, cY, rfl, hE, hb⟩
          rw [EY.out] at hE
          have RX := Lib.hid (RX.out.below hb)
          have Z13 := Lib.hid (Z13.out.below hb Z13.out.lt)
          have Z14 := Lib.hid (Z14.out.below hb Z14.out.lt)
          have T := Lib.hid (T.out.trans (hb.mono (up T.out rfl)))
          have RY := Lib.hid hE
          clear hE hb
          refine hK _ _ (fun _ => trivial) ?_
          refine early_only (i := 13) (by kernel_rfl) rfl (fun K hK => ?_)
          simp only [opWp, List.getElem?_toArray, List.getElem?_cons_succ, List.getElem?_cons_zero]
          refine wp_store_part 28 (.tmp 13) (.tmp 30) rfl a51 0 28 #[.int .u64 0, .int .i64 0, .slice none 0 0] #[.int .u64 (q : Int), .int .i64 ((s : Int) - 1), .slice AX n cX] rfl rfl Z13.out size28 (by simp) (note_all _ _ _ _ _) ?_
          intro u53 hat hb
          rw [note_part] at hat
          have RX := Lib.hid (RX.out.but hb (RX.out.off Z13.out))
          have RY := Lib.hid (RY.out.but hb (RY.out.off Z13.out))
          have Z14 := Lib.hid (Z14.out.but hb (by have := NE.out; omega))
          have T := Lib.hid (T.out.trans (hb.below (fun k e => by have := LOZ13.out; omega) (up T.out rfl)))
          have Z13 := Lib.hid hat
          clear hat hb
          refine hK _ _ (fun _ => trivial) ?_
          refine early_only (i := 14) (by kernel_rfl) rfl (fun K hK => ?_)
          simp only [opWp, List.getElem?_toArray, List.getElem?_cons_succ, List.getElem?_cons_zero]
          refine wp_store_part 28 (.tmp 14) (.tmp 37) rfl a45 0 28 #[.int .u64 0, .int .i64 0, .slice none 0 0] #[.int .u64 (q' : Int), .int .i64 ((s' : Int) - 1), .slice AY n cY] rfl rfl Z14.out size28 (by simp) (note_all _ _ _ _ _) ?_
          intro u54 hat hb
          rw [note_part] at hat
          have RX := Lib.hid (RX.out.but hb (RX.out.off Z14.out))
          have RY := Lib.hid (RY.out.but hb (RY.out.off Z14.out))
          have Z13 := Lib.hid (Z13.out.but hb (by have := NE.out; omega))
          have T := Lib.hid (T.out.trans (hb.below (fun k e => by have := LOZ14.out; omega) (up T.out rfl)))
          have Z14 := Lib.hid hat
          clear hat hb
          refine hK _ _ (fun _ => trivial) ?_
          refine early_done (by kernel_rfl) ?_
          go_wp2_with fail
          go_meet
          exact ⟨_, _, _, _, _, _, rfl, rfl, Z13.out, Z14.out, RX.out, RY.out, T.out⟩
      · simp only [opWp, List.getElem?_toArray, List.getElem?_cons_succ, List.getElem?_cons_zero]
        go_simp
        have NE := Lib.hid (show a45 < u45.heap.size from Z14.out.lt)
        have LOZ13 := Lib.hid (up T.out rfl)
        have Z14 := Lib.hid (Z14.out.alloc (.cells #[.int .u64 0, .int .i64 0, .slice none 0 0] 28))
        have T := Lib.hid (T.out.alloc (up T.out rfl) (.cells #[.int .u64 0, .int .i64 0, .slice none 0 0] 28))
        have Z13 := Lib.hid (At.new (w := u45) (g := u45.heap.size) #[.int .u64 0, .int .i64 0, .slice none 0 0] 28 rfl)
        generalize u45.alloc (.cells #[.int .u64 0, .int .i64 0, .slice none 0 0] 28) = u55 at *
        generalize u45.heap.size = a55 at *
        refine hK _ _ (fun _ => trivial) ?_
        refine early_only (i := 3) (by kernel_rfl) rfl (fun K hK => ?_)
        simp only [opWp, List.getElem?_toArray, List.getElem?_cons_succ, List.getElem?_cons_zero]
        go_simp
        go_at_call 8
        refine (make_any q s A n c L _ hs (by omega) (SA.out.below T.out)).mono ?_
        rintro e u56 ⟨AX, cX, rfl, hE, hb⟩
        rw [EX.out] at hE
        have Z13 := Lib.hid (Z13.out.below hb Z13.out.lt)
        have Z14 := Lib.hid (Z14.out.below hb Z14.out.lt)
        have T := Lib.hid (T.out.trans (hb.mono (up T.out rfl)))
        have RX := Lib.hid hE
        clear hE hb
        refine hK _ _ (fun _ => trivial) ?_
        refine early_only (i := 10) (by kernel_rfl) rfl (fun K hK => ?_)
        simp only [opWp, List.getElem?_toArray, List.getElem?_cons_succ, List.getElem?_cons_zero]
        go_simp
        go_at_call 8
        refine (make_any q' s' B n d (M.take n) _ hs' (by omega) (SB.out.below T.out)).mono ?_
        rintro e u57 ⟨AY, cY, rfl, hE, hb⟩
        rw [EY.out] at hE
        have RX := Lib.hid (RX.out.below hb)
        have Z13 := Lib.hid (Z13.out.below hb Z13.out.lt)
        have Z14 := Lib.hid (Z14.out.below hb Z14.out.lt)
        have T := Lib.hid (T.out.trans (hb.mono (up T.out rfl)))
        have RY := Lib.hid hE
        clear hE hb
        refine hK _ _ (fun _ => trivial) ?_
        refine early_only (i := 13) (by kernel_rfl) rfl (fun K hK => ?_)
        simp only [opWp, List.getElem?_toArray, List.getElem?_cons_succ, List.getElem?_cons_zero]
        refine wp_store_part 28 (.tmp 13) (.tmp 30) rfl a55 0 28 #[.int .u64 0, .int .i64 0, .slice none 0 0] #[.int .u64 (q : Int), .int .i64 ((s : Int) - 1), .slice AX n cX] rfl rfl Z13.out size28 (by simp) (note_all _ _ _ _ _) ?_
        intro u58 hat hb
        rw [note_part] at hat
        have RX := Lib.hid (RX.out.but hb (RX.out.off Z13.out))
        have RY := Lib.hid (RY.out.but hb (RY.out.off Z13.out))
        have Z14 := Lib.hid (Z14.out.but hb (by have := NE.out; omega))
        have T := Lib.hid (T.out.trans (hb.below (fun k e => by have := LOZ13.out; omega) (up T.out rfl)))
        have Z13 := Lib.hid hat
        clear hat hb
        refine hK _ _ (fun _ => trivial) ?_
        refine early_only (i := 14) (by kernel_rfl) rfl (fun K hK => ?_)
        simp only [opWp, List.getElem?_toArray, List.getElem?_cons_succ, List.getElem?_cons_zero]
        refine wp_store_part 28 (.tmp 14) (.tmp 37) rfl a45 0 28 #[.int .u64 0, .int .i64 0, .slice none 0 0] #[.int .u64 (q' : Int), .int .i64 ((s' : Int) - 1), .slice AY n cY] rfl rfl Z14.out size28 (by simp) (note_all _ _ _ _ _) ?_
        intro u59 hat hb
        rw [note_part] at hat
        have RX := Lib.hid (RX.out.but hb (RX.out.off Z14.out))
        have RY := Lib.hid (RY.out.but hb (RY.out.off Z14.out))
        have Z13 := Lib.hid (Z13.out.but hb (by have := NE.out; omega))
        have T := Lib.hid (T.out.trans (hb.below (fun k e => by have := LOZ14.out; omega) (up T.out rfl)))
        have Z14 := Lib.hid hat
        clear hat hb
        refine hK _ _ (fun _ => trivial) ?_
        refine early_done (by kernel_rfl) ?_
        go_wp2_with fail
        go_meet
        exact ⟨_, _, _, _, _, _, rfl, rfl, Z13.out, Z14.out, RX.out, RY.out, T.out⟩
  case rest =>
    obtain ⟨a, cc, Ax, Ay, cx, cy, rfl, rfl, hT⟩ := hcut
    have U := Lib.hid (show Two w wc.drew a cc n q q' ((s : Int) - 1) ((s' : Int) - 1) Ax Ay cx cy ex ey from hT.drewN 1)
    obtain ⟨N15, hN⟩ : ∃ N, N = 15 + 5 * n := ⟨_, rfl⟩
    have HN := Lib.hid (show N15 = max (15 + 5 * n) 0 by omega)
    have N20 := Lib.hid (show N15 ≤ 1000000 by omega)
    obtain ⟨D, hD⟩ : ∃ D : Bool, decide (told q s ex N15 = told q' s' ey N15) = D := ⟨_, rfl⟩
    have HD := Lib.hid hD
    have DD := Lib.hid (show (⟨q, (s : Int) - 1, ex⟩ : Nt) = ⟨q', (s' : Int) - 1, ey⟩ ↔ D = true by
      rw [← hD, decide_eq_true_iff]
      constructor
      · intro e
        injection e with e1 e2 e3
        rw [e1, e3, show s = s' by omega]
      · intro e
        obtain ⟨e1, e2, e3⟩ := told_inj hq hs FX.out hq' hs' FY.out (by rw [NX.out, NY.out]) e
        rw [e1, e2, e3])
    clear hT hN hD T
    go_wp2_with fail
    refine wp_region_early (fun w' => At w' a #[.int .u64 (q : Int), .int .i64 ((s : Int) - 1), .slice Ax n cx] 28 ∧ At w' cc #[.int .u64 (q' : Int), .int .i64 ((s' : Int) - 1), .slice Ay n cy] 28) (fun _ => true) (by kernel_rfl) ?_
    change wpEarly _ _ _ _ _ _ 20 (Array.replicate 20 false) _ wc.drew
    obtain ⟨u1, hu1⟩ : ∃ u, u = wc.drew := ⟨_, rfl⟩
    rw [← hu1] at U ⊢
    clear hu1
    refine early_take (i := 0) 38 (.agg #[.int .u64 (q : Int), .int .i64 ((s : Int) - 1), .slice Ax n cx]) rfl rfl (by kernel_rfl) (by kernel_rfl) (by kernel_rfl) (by kernel_rfl) rfl (fun _ _ _ h => h) (fun w' hw' => exec_load_whole (x := .tmp 13) rfl rfl hw'.1 Try.underlying28 size28) ⟨U.out.x, U.out.y⟩ ?_
    simp only [Act.put, List.setIfInBounds_toArray, List.set_cons_zero, List.set_cons_succ]
    refine early_take (i := 2) 40 (.agg #[.int .u64 (q' : Int), .int .i64 ((s' : Int) - 1), .slice Ay n cy]) rfl rfl (by kernel_rfl) (by kernel_rfl) (by kernel_rfl) (by kernel_rfl) rfl (fun _ _ _ h => h) (fun w' hw' => exec_load_whole (x := .tmp 14) rfl rfl hw'.2 Try.underlying28 size28) ⟨U.out.x, U.out.y⟩ ?_
    simp only [Act.put, List.setIfInBounds_toArray, List.set_cons_zero, List.set_cons_succ]
    refine early_take (i := 5) 43 (.agg #[.int .u64 (q : Int), .int .i64 ((s : Int) - 1), .slice Ax n cx]) rfl rfl (by kernel_rfl) (by kernel_rfl) (by kernel_rfl) (by kernel_rfl) rfl (fun _ _ _ h => h) (fun w' hw' => exec_load_whole (x := .tmp 13) rfl rfl hw'.1 Try.underlying28 size28) ⟨U.out.x, U.out.y⟩ ?_
    simp only [Act.put, List.setIfInBounds_toArray, List.set_cons_zero, List.set_cons_succ]
    refine early_take (i := 6) 44 (.agg #[.int .u64 (q' : Int), .int .i64 ((s' : Int) - 1), .slice Ay n cy]) rfl rfl (by kernel_rfl) (by kernel_rfl) (by kernel_rfl) (by kernel_rfl) rfl (fun _ _ _ h => h) (fun w' hw' => exec_load_whole (x := .tmp 14) rfl rfl hw'.2 Try.underlying28 size28) ⟨U.out.x, U.out.y⟩ ?_
    simp only [Act.put, List.setIfInBounds_toArray, List.set_cons_zero, List.set_cons_succ]
    refine early_only (i := 1) (by kernel_rfl) rfl (fun K hK => ?_)
    simp only [opWp, List.getElem?_toArray, List.getElem?_cons_succ, List.getElem?_cons_zero]
    go_simp
    go_at_call 9
    refine (encode_any q s ((s : Int) - 1) Ax n cx ex 0 N15 _ hq (by omega) hs (by omega) (by omega) HN.out FX.out U.out.ex).mono ?_
    rintro e e1 ⟨v1, rfl, hf⟩
    obtain ⟨A1, c1, rfl, _, _, _, hh, _⟩ := own_slice hf.1
    have U := Lib.hid (U.out.up hf.2)
    have H1 := Lib.hid hh
    clear hf hh
    refine hK _ _ (fun _ => ⟨U.out.x, U.out.y⟩) ?_
    refine early_only (i := 3) (by kernel_rfl) rfl (fun K hK => ?_)
    simp only [opWp, List.getElem?_toArray, List.getElem?_cons_succ, List.getElem?_cons_zero]
    go_simp
    go_at_call 9
    refine (encode_any q' s' ((s' : Int) - 1) Ay n cy ey 0 N15 _ hq' (by omega) hs' (by omega) (by omega) HN.out FY.out U.out.ey).mono ?_
    rintro e e3 ⟨v3, rfl, hf⟩
    obtain ⟨A3, c3, rfl, _, _, _, hh, _⟩ := own_slice hf.1
    have U := Lib.hid (U.out.up hf.2)
    have H1 := Lib.hid (H1.out.below hf.2)
    have H3 := Lib.hid hh
    clear hf hh
    refine hK _ _ (fun _ => ⟨U.out.x, U.out.y⟩) ?_
    refine early_only (i := 4) (by kernel_rfl) rfl (fun K hK => ?_)
    simp only [opWp, List.getElem?_toArray, List.getElem?_cons_succ, List.getElem?_cons_zero]
    go_simp
    go_at_call 11
    refine (equal_any A1 A3 N15 N15 c1 c3 (told q s ex N15) (told q' s' ey N15) _ N20.out N20.out H1.out H3.out).mono ?_
    rintro e e4 ⟨rfl, k4, hw⟩
    have U := Lib.hid (show Two w e4 a cc n q q' ((s : Int) - 1) ((s' : Int) - 1) Ax Ay cx cy ex ey by rw [hw]; exact U.out.drewN k4)
    clear hw
    rw [HD.out]
    refine hK _ _ (fun _ => ⟨U.out.x, U.out.y⟩) ?_
    refine early_only (i := 7) (by kernel_rfl) rfl (fun K hK => ?_)
    simp only [opWp, List.getElem?_toArray, List.getElem?_cons_succ, List.getElem?_cons_zero]
    go_simp
    go_at_call 13
    refine (same_any q q' ((s : Int) - 1) ((s' : Int) - 1) Ax Ay n n cx cy ex ey _ (by omega) (by omega) U.out.ex U.out.ey).mono ?_
    rintro e e7 ⟨d7, rfl, hd7, hb7⟩
    have U := Lib.hid (U.out.up hb7)
    obtain rfl : d7 = D := by
      have h1 := hd7.trans DD.out
      cases d7 <;> cases D <;> simp at h1 ⊢
    clear hb7 hd7
    refine hK _ _ (fun _ => ⟨U.out.x, U.out.y⟩) ?_
    refine early_take (i := 8) 46 (.bool true) rfl rfl (by kernel_rfl) (by kernel_rfl) (by kernel_rfl) (by kernel_rfl) rfl (fun _ _ _ h => h) (fun w' hw' => by cases d7 <;> go_simp) ⟨U.out.x, U.out.y⟩ ?_
    simp only [Act.put, List.setIfInBounds_toArray, List.set_cons_zero, List.set_cons_succ]
    refine early_take (i := 9) 47 (.bool true) rfl rfl (by kernel_rfl) (by kernel_rfl) (by kernel_rfl) (by kernel_rfl) rfl (fun _ _ _ h => h) (fun w' hw' => by go_simp) ⟨U.out.x, U.out.y⟩ ?_
    simp only [Act.put, List.setIfInBounds_toArray, List.set_cons_zero, List.set_cons_succ]
    refine early_take (i := 10) 48 (.agg #[.int .u64 (q : Int), .int .i64 ((s : Int) - 1), .slice Ax n cx]) rfl rfl (by kernel_rfl) (by kernel_rfl) (by kernel_rfl) (by kernel_rfl) rfl (fun _ _ _ h => h) (fun w' hw' => exec_load_whole (x := .tmp 13) rfl rfl hw'.1 Try.underlying28 size28) ⟨U.out.x, U.out.y⟩ ?_
    simp only [Act.put, List.setIfInBounds_toArray, List.set_cons_zero, List.set_cons_succ]
    refine early_take (i := 12) 50 (.int .u64 (q : Int)) rfl rfl (by kernel_rfl) (by kernel_rfl) (by kernel_rfl) (by kernel_rfl) rfl (fun _ _ _ h => h) (fun w' hw' => by go_simp) ⟨U.out.x, U.out.y⟩ ?_
    simp only [Act.put, List.setIfInBounds_toArray, List.set_cons_zero, List.set_cons_succ]
    refine early_take (i := 13) 51 (.int .u16 (s : Int)) rfl rfl (by kernel_rfl) (by kernel_rfl) (by kernel_rfl) (by kernel_rfl) rfl (fun _ _ _ h => h) (fun w' hw' => by go_simp) ⟨U.out.x, U.out.y⟩ ?_
    simp only [Act.put, List.setIfInBounds_toArray, List.set_cons_zero, List.set_cons_succ]
    refine early_take (i := 14) 52 (.slice A n c) rfl rfl (by kernel_rfl) (by kernel_rfl) (by kernel_rfl) (by kernel_rfl) rfl (fun _ _ _ h => h) (fun w' hw' => by go_simp) ⟨U.out.x, U.out.y⟩ ?_
    simp only [Act.put, List.setIfInBounds_toArray, List.set_cons_zero, List.set_cons_succ]
    refine early_only (i := 11) (by kernel_rfl) rfl (fun K hK => ?_)
    simp only [opWp, List.getElem?_toArray, List.getElem?_cons_succ, List.getElem?_cons_zero]
    go_simp
    go_at_call 9
    refine (encode_any q s ((s : Int) - 1) Ax n cx ex 0 N15 _ hq (by omega) hs (by omega) (by omega) HN.out FX.out U.out.ex).mono ?_
    rintro e e11 ⟨v11, rfl, hf⟩
    obtain ⟨A11, c11, rfl, _, _, _, hh, _⟩ := own_slice hf.1
    have U := Lib.hid (U.out.up hf.2)
    have H11 := Lib.hid hh
    clear hf hh
    refine hK _ _ (fun _ => ⟨U.out.x, U.out.y⟩) ?_
    refine early_only (i := 15) (by kernel_rfl) rfl (fun K hK => ?_)
    simp only [opWp, List.getElem?_toArray, List.getElem?_cons_succ, List.getElem?_cons_zero]
    go_simp
    go_at_call 8
    refine (make_any q s A n c L _ hs (by omega) (SA.out.below U.out.bel)).mono ?_
    rintro e e15 ⟨Az, cz, rfl, hE, hb⟩
    rw [EX.out] at hE
    have U := Lib.hid (U.out.up hb)
    have H11 := Lib.hid (H11.out.below hb)
    have RZ := Lib.hid hE
    clear hE hb
    refine hK _ _ (fun _ => ⟨U.out.x, U.out.y⟩) ?_
    refine early_only (i := 16) (by kernel_rfl) rfl (fun K hK => ?_)
    simp only [opWp, List.getElem?_toArray, List.getElem?_cons_succ, List.getElem?_cons_zero]
    go_simp
    go_at_call 9
    refine (encode_any q s ((s : Int) - 1) Az n cz ex 0 N15 _ hq (by omega) hs (by omega) (by omega) HN.out FX.out RZ.out).mono ?_
    rintro e e16 ⟨v16, rfl, hf⟩
    obtain ⟨A16, c16, rfl, _, _, _, hh, _⟩ := own_slice hf.1
    have U := Lib.hid (U.out.up hf.2)
    have H11 := Lib.hid (H11.out.below hf.2)
    have H16 := Lib.hid hh
    clear hf hh
    refine hK _ _ (fun _ => ⟨U.out.x, U.out.y⟩) ?_
    refine early_only (i := 17) (by kernel_rfl) rfl (fun K hK => ?_)
    simp only [opWp, List.getElem?_toArray, List.getElem?_cons_succ, List.getElem?_cons_zero]
    go_simp
    go_at_call 11
    refine (equal_any A11 A16 N15 N15 c11 c16 (told q s ex N15) (told q s ex N15) _ N20.out N20.out H11.out H16.out).mono ?_
    rintro e e17 ⟨rfl, k17, hw⟩
    have U := Lib.hid (show Two w e17 a cc n q q' ((s : Int) - 1) ((s' : Int) - 1) Ax Ay cx cy ex ey by rw [hw]; exact U.out.drewN k17)
    clear hw
    rw [decide_eq_true rfl]
    refine hK _ _ (fun _ => ⟨U.out.x, U.out.y⟩) ?_
    refine early_take (i := 18) 56 (.bool true) rfl rfl (by kernel_rfl) (by kernel_rfl) (by kernel_rfl) (by kernel_rfl) rfl (fun _ _ _ h => h) (fun w' hw' => by go_simp) ⟨U.out.x, U.out.y⟩ ?_
    simp only [Act.put, List.setIfInBounds_toArray, List.set_cons_zero, List.set_cons_succ]
    refine early_take (i := 19) 12 (.bool true) rfl rfl (by kernel_rfl) (by kernel_rfl) (by kernel_rfl) (by kernel_rfl) rfl (fun _ _ _ h => h) (fun w' hw' => by go_simp) ⟨U.out.x, U.out.y⟩ ?_
    simp only [Act.put, List.setIfInBounds_toArray, List.set_cons_zero, List.set_cons_succ]
    refine early_done (by kernel_rfl) ?_
    go_wp2
    go_ret
    exact ⟨rfl, U.out.bel⟩
theorem apart_in (q q' s s' : Int) (A : Option Addr) (n c : Nat) (L : List Sl) (B : Option Addr) (m d : Nat) (M : List Sl) (w : World) (hq : 0 ≤ q ∧ q ≤ 18446744073709551615) (hq' : 0 ≤ q' ∧ q' ≤ 18446744073709551615) (hs : 0 ≤ s ∧ s ≤ 65535) (hs' : 0 ≤ s' ∧ s' ≤ 65535) (h : Ins w A n c L) (g : Ins w B m d M) :
    Calls Try.prog 6 #[.int .u64 q, .int .u64 q', .int .u16 s, .int .u16 s', .slice A n c, .slice B m d] w fun e w' => e = .returned (.bool true) ∧ Below w.heap.size w w' := by
  obtain ⟨q, rfl⟩ := Int.eq_ofNat_of_zero_le hq.1
  obtain ⟨q', rfl⟩ := Int.eq_ofNat_of_zero_le hq'.1
  obtain ⟨s, rfl⟩ := Int.eq_ofNat_of_zero_le hs.1
  obtain ⟨s', rfl⟩ := Int.eq_ofNat_of_zero_le hs'.1
  obtain ⟨h1, h2, h3⟩ := h
  obtain ⟨g1, g2, g3⟩ := g
  unfold maxLen at h3 g3
  by_cases hn : n ≤ 20 ∧ n ≤ m
  · exact apart_of q q' s s' A B n c m d L M w (by omega) (by omega) (by omega) (by omega) hn.1 hn.2 g2 (by omega) h1 g1
  · clear h1 g1 hq hq' hs hs'
    by_cases hn2 : n ≤ 20
    · have hmn : m < n := by omega
      clear hn
      go_enter Try.func6, Try.ntmps6
      go_wp2_with fail
      refine (awake_any w).mono ?_
      rintro e w0 ⟨rfl, hb0⟩
      have BB := Lib.hid hb0
      clear hb0
      go_wp2
      go_ret
      exact ⟨rfl, BB.out⟩
    · clear hn
      go_enter Try.func6, Try.ntmps6
      go_wp2_with fail
      refine (awake_any w).mono ?_
      rintro e w0 ⟨rfl, hb0⟩
      have BB := Lib.hid hb0
      clear hb0
      go_wp2
      go_ret
      exact ⟨rfl, BB.out⟩
end Go.Proofs.Ytmdgnglefikpjaa
