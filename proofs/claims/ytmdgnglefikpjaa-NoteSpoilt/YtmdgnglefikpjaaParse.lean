/-
  THE WALK OF note.parse.
-/
import Derived.Test.YtmdgnglefikpjaaPar
namespace Go.Proofs.Ytmdgnglefikpjaa
open Go.RowKit
set_option linter.unusedVariables false
set_option maxRecDepth 100000


def Parsed (w : World) (L : List (BitVec 8)) (n : Nat) (e : Ending) (w' : World) : Prop :=
  ∃ A, e = .returned (.tuple #[.int .u64 ((fld L 0 1 : Nat) : Int), .agg #[.int .u64 ((fld L 1 8 : Nat) : Int), .int .i64 ((fld L 9 2 : Int) - 1), .slice A n n]]) ∧ Ers w' A n (enUpto L n) ∧ (∀ x, A = some x → w.heap.size ≤ x.block) ∧ Below w.heap.size w w'

theorem row_some (X : List En) (o : Nat) (h : o < X.length * 2) : ∃ v, (flat X).toArray[o]? = some v := by
  rw [List.getElem?_toArray]
  exact ⟨_, List.getElem?_eq_getElem (by rw [flat_len]; exact h)⟩
theorem wrap_of {x : Int} (h1 : -9223372036854775808 ≤ x) (h2 : x ≤ 9223372036854775807) : IntKind.i64.wrap x = x := by
  simp [IntKind.wrap, IntKind.signed, IntKind.bits]
  omega
set_option maxHeartbeats 4000000 in
theorem parse_any (A : Option Addr) (c n : Nat) (L : List (BitVec 8)) (w : World) (hn : n ≤ 100000) (h : Has w A (11 + 5 * n) L) :
    Calls Try.prog 22 #[.slice A ((11 + 5 * n : Nat) : Int).toNat c, .int .i64 (n : Int)] w (Parsed w L n) := by
  obtain ⟨len, hlen⟩ : ∃ len, len = 11 + 5 * n := ⟨_, rfl⟩
  rw [Int.toNat_natCast]
  rw [← hlen] at h ⊢
  have hL : L.length = len := h.1
  have HL := Lib.hid hL
  have LE := Lib.hid hlen
  have HA := Lib.hid (h.below ((Below.refl _ _).alloc (Nat.le_refl _) (.cells #[.int .u64 0, .int .i64 0, .slice none 0 0] 28)))
  have RS := Lib.hid (At.new (w := w) (g := w.heap.size) #[.int .u64 0, .int .i64 0, .slice none 0 0] 28 rfl)
  have BB := Lib.hid ((Below.refl w.heap.size w).alloc (Nat.le_refl _) (.cells #[.int .u64 0, .int .i64 0, .slice none 0 0] 28))
  clear h hL hlen
  go_enter Try.func22, Try.ntmps22
  go_wp2_with fail
  refine (read_any A len c L _ (by have := LE.out; omega) HA.out).mono ?_
  rintro e w1 ⟨g, A1, c1, rfl, hr, hb1, hg1, hx1⟩
  have hsz : (w.alloc (.cells #[.int .u64 0, .int .i64 0, .slice none 0 0] 28)).heap.size = w.heap.size + 1 := by simp
  rw [hsz] at hg1
  obtain ⟨b1, o1, hA1⟩ := hr.has.some_ (by have := LE.out; omega)
  have hD : w.heap.size < b1 := by have := hx1 _ hA1; rw [hsz] at this; exact this
  have E := Lib.hid (show Psr w w1 w.heap.size g b1 L 0 from ⟨RS.out.below hb1 RS.out.lt, ⟨A1, c1, by rw [List.drop_zero, HL.out]; exact hr, fun x e => by rw [hA1] at e; injection e with e; rw [← e]⟩, ⟨by omega, hD, by rw [hA1] at hr; exact hr.has.lt (by have := LE.out; omega)⟩, BB.out.trans (hb1.mono (by omega))⟩)
  clear hr hb1 hx1 hsz hA1 hD RS BB HA hg1
  obtain ⟨Aq, cq, hr, hA⟩ := E.out.rd
  go_wp2_with fail
  refine (take_fld g Aq cq L 0 1 w1 (by omega) (by rw [HL.out, LE.out]; omega) (by rw [HL.out, LE.out]; omega) hr).mono ?_
  rintro e w2 ⟨rfl, hS⟩
  have E := Lib.hid (E.out.take hA hS rfl)
  clear hS hr hA
  have hf0 : fld L 0 1 < 256 := fld_lt L 0 1
  obtain ⟨y0, hy0⟩ : ∃ y, y = fld L 0 1 := ⟨_, rfl⟩
  rw [← hy0] at hf0 ⊢
  have Y0 := Lib.hid hy0
  clear hy0
  go_upto_region 3 with (fail)
  go_cut [8] (fun s8 wc => ∃ P R : Nat, s8 = .pointer (some ⟨P, 0, none⟩) ∧ Pst w wc w.heap.size g b1 P R L 11 (fld L 1 8) ((fld L 9 2 : Int) - 1) n (rowE L n 0))
  case first =>
    refine wp_region_early (fun _ => True) (fun _ => true) (by kernel_rfl) ?_
    change wpEarly _ _ _ _ _ _ 11 (Array.replicate 11 false) _ w2.drew
    have E := Lib.hid (E.out.up (But.refl _ _).drew)
    obtain ⟨u1, hu1⟩ : ∃ u, u = w2.drew := ⟨_, rfl⟩
    rw [← hu1] at E ⊢
    clear hu1
    have hq : fld L 1 8 < 18446744073709551616 := fld_lt L 1 8
    have hz : fld L 9 2 < 65536 := fld_lt L 9 2
    obtain ⟨q, hq'⟩ : ∃ y, y = fld L 1 8 := ⟨_, rfl⟩
    obtain ⟨z, hz'⟩ : ∃ y, y = fld L 9 2 := ⟨_, rfl⟩
    rw [← hq'] at hq
    rw [← hz'] at hz
    have QQ := Lib.hid hq'
    have ZZ := Lib.hid hz'
    clear hq' hz'
    refine early_take (i := 0) 14 (.pointer (some ⟨g, 0, none⟩)) rfl rfl (by kernel_rfl) (by kernel_rfl) (by kernel_rfl) (by kernel_rfl) rfl (fun _ _ _ h => h) (fun w' hw' => by go_simp) trivial ?_
    simp only [Act.put, List.setIfInBounds_toArray, List.set_cons_zero, List.set_cons_succ]
    refine early_take (i := 2) 16 (.pointer (some ⟨g, 0, none⟩)) rfl rfl (by kernel_rfl) (by kernel_rfl) (by kernel_rfl) (by kernel_rfl) rfl (fun _ _ _ h => h) (fun w' hw' => by go_simp) trivial ?_
    simp only [Act.put, List.setIfInBounds_toArray, List.set_cons_zero, List.set_cons_succ]
    refine early_take (i := 6) 20 (.int .i64 (n : Int)) rfl rfl (by kernel_rfl) (by kernel_rfl) (by kernel_rfl) (by kernel_rfl) rfl (fun _ _ _ h => h) (fun w' hw' => by go_simp) trivial ?_
    simp only [Act.put, List.setIfInBounds_toArray, List.set_cons_zero, List.set_cons_succ]
    refine early_three (i := 1) (j := 7) (k := 9) (by kernel_rfl) ⟨rfl, fun K hK => ?_⟩ ⟨rfl, fun K hK => ?_⟩ ⟨rfl, fun K hK => ?_⟩
    · simp only [opWp, List.getElem?_toArray, List.getElem?_cons_succ, List.getElem?_cons_zero]
      go_simp
      go_at_call 34
      obtain ⟨Aq, cq, hr, hA⟩ := E.out.rd
      refine (take_fld g Aq cq L 1 8 _ (by omega) (by rw [HL.out, LE.out]; omega) (by rw [HL.out, LE.out]; omega) hr).mono ?_
      rintro e u2 ⟨rfl, hS⟩
      have GL := Lib.hid E.out.glt
      have E := Lib.hid (E.out.take hA hS rfl)
      clear hS hr hA
      rw [← QQ.out]
      refine hK _ _ (fun _ => trivial) ?_
      refine early_three (i := 3) (j := 7) (k := 9) (by kernel_rfl) ⟨rfl, fun K hK => ?_⟩ ⟨rfl, fun K hK => ?_⟩ ⟨rfl, fun K hK => ?_⟩
      · simp only [opWp, List.getElem?_toArray, List.getElem?_cons_succ, List.getElem?_cons_zero]
        go_simp
        go_at_call 34
        obtain ⟨Aq, cq, hr, hA⟩ := E.out.rd
        refine (take_fld g Aq cq L 9 2 _ (by omega) (by rw [HL.out, LE.out]; omega) (by rw [HL.out, LE.out]; omega) hr).mono ?_
        rintro e u3 ⟨rfl, hS⟩
        have GL := Lib.hid E.out.glt
        have E := Lib.hid (E.out.take hA hS rfl)
        clear hS hr hA
        rw [← ZZ.out]
        refine hK _ _ (fun _ => trivial) ?_
        refine early_take (i := 4) 18 (.int .i64 (z : Int)) rfl rfl (by kernel_rfl) (by kernel_rfl) (by kernel_rfl) (by kernel_rfl) rfl (fun _ _ _ h => h) (fun w' hw' => by go_simp; exact wrap_of (by omega) (by omega)) trivial ?_
        simp only [Act.put, List.setIfInBounds_toArray, List.set_cons_zero, List.set_cons_succ]
        refine early_take (i := 5) 19 (.int .i64 ((z : Int) - 1)) rfl rfl (by kernel_rfl) (by kernel_rfl) (by kernel_rfl) (by kernel_rfl) rfl (fun _ _ _ h => h) (fun w' hw' => by go_simp; exact wrap_of (by omega) (by omega)) trivial ?_
        simp only [Act.put, List.setIfInBounds_toArray, List.set_cons_zero, List.set_cons_succ]
        refine early_two (i := 7) (j := 9) (by kernel_rfl) ⟨rfl, fun K hK => ?_⟩ ⟨rfl, fun K hK => ?_⟩
        · simp only [opWp, List.getElem?_toArray, List.getElem?_cons_succ, List.getElem?_cons_zero]
          refine wp_make_ent (.tmp 20) (.tmp 20) rfl n rfl rfl (by omega) ?_
          intro u4 hat hb
          have NR := Lib.hid (show w.heap.size < u3.heap.size ∧ ¬ u3.heap.size = g ∧ ¬ u3.heap.size = b1 from ⟨E.out.res.lt, by have := E.out.glt; omega, by have := E.out.ne.2.2; omega⟩)
          have E := Lib.hid (E.out.up (But.of_below hb))
          have ZR := Lib.hid hat
          clear hat hb
          generalize u3.heap.size = a4 at *
          refine hK _ _ (fun _ => trivial) ?_
          simp only [Act.put, List.setIfInBounds_toArray, List.set_cons_zero, List.set_cons_succ]
          refine early_take (i := 8) 22 (.agg #[.int .u64 (q : Int), .int .i64 ((z : Int) - 1), .slice (some ⟨a4, 0, none⟩) n n]) rfl rfl (by kernel_rfl) (by kernel_rfl) (by kernel_rfl) (by kernel_rfl) rfl (fun _ _ _ h => h) (fun w' hw' => by go_simp) trivial ?_
          simp only [Act.put, List.setIfInBounds_toArray, List.set_cons_zero, List.set_cons_succ]
          refine early_only (i := 9) (by kernel_rfl) rfl (fun K hK => ?_)
          simp only [opWp, List.getElem?_toArray, List.getElem?_cons_succ, List.getElem?_cons_zero]
          go_simp
          have NP := Lib.hid (show w.heap.size < u4.heap.size ∧ ¬ u4.heap.size = g ∧ ¬ u4.heap.size = b1 from ⟨E.out.res.lt, by have := E.out.glt; omega, by have := E.out.ne.2.2; omega⟩)
          have E := Lib.hid (E.out.up ((But.refl _ _).alloc (.cells #[.int .u64 0, .int .i64 0, .slice none 0 0] 28)))
          have NE := Lib.hid (show a4 < u4.heap.size from ZR.out.lt)
          have ZR := Lib.hid (ZR.out.alloc (.cells #[.int .u64 0, .int .i64 0, .slice none 0 0] 28))
          have ZP := Lib.hid (At.new (w := u4) (g := u4.heap.size) #[.int .u64 0, .int .i64 0, .slice none 0 0] 28 rfl)
          generalize u4.alloc (.cells #[.int .u64 0, .int .i64 0, .slice none 0 0] 28) = u5 at *
          generalize u4.heap.size = a5 at *
          refine hK _ _ (fun _ => trivial) ?_
          refine early_only (i := 10) (by kernel_rfl) rfl (fun K hK => ?_)
          simp only [opWp, List.getElem?_toArray, List.getElem?_cons_succ, List.getElem?_cons_zero]
          refine wp_store_part 28 (.tmp 8) (.tmp 22) rfl a5 0 28 #[.int .u64 0, .int .i64 0, .slice none 0 0] #[.int .u64 (q : Int), .int .i64 ((z : Int) - 1), .slice (some ⟨a4, 0, none⟩) n n] rfl rfl ZP.out size28 (by simp) (note_all _ _ _ _ _) ?_
          intro u6 hat hb
          rw [note_part] at hat
          have N1 := NP.out
          have N2 := NR.out
          have N3 := NE.out
          have E := Lib.hid (E.out.but hb (by omega) (fun e => N1.2.1 e.symm) (fun e => N1.2.2 e.symm) (fun k e => by omega))
          have ZR := Lib.hid (ZR.out.but hb (by omega))
          have ZP := Lib.hid hat
          clear hat hb
          refine hK _ _ (fun _ => trivial) ?_
          refine early_done (by kernel_rfl) ?_
          have N4 := Lib.hid (show w.heap.size < a5 ∧ w.heap.size < a4 ∧ a5 ≠ a4 ∧ g ≠ a5 ∧ g ≠ a4 ∧ b1 ≠ a5 ∧ b1 ≠ a4 from ⟨N1.1, N2.1, by omega, fun e => N1.2.1 e.symm, fun e => N2.2.1 e.symm, fun e => N1.2.2 e.symm, fun e => N2.2.2 e.symm⟩)
          clear N1 N2 N3
          go_wp2_with fail
          go_meet
          rw [← QQ.out, ← ZZ.out, rowE_zero]
          exact ⟨_, _, rfl, E.out, ZP.out, ZR.out, N4.out⟩
        · simp only [opWp, List.getElem?_toArray, List.getElem?_cons_succ, List.getElem?_cons_zero]
          go_simp
          have NP := Lib.hid (show w.heap.size < u3.heap.size ∧ ¬ u3.heap.size = g ∧ ¬ u3.heap.size = b1 from ⟨E.out.res.lt, by have := E.out.glt; omega, by have := E.out.ne.2.2; omega⟩)
          have E := Lib.hid (E.out.up ((But.refl _ _).alloc (.cells #[.int .u64 0, .int .i64 0, .slice none 0 0] 28)))
          have ZP := Lib.hid (At.new (w := u3) (g := u3.heap.size) #[.int .u64 0, .int .i64 0, .slice none 0 0] 28 rfl)
          generalize u3.alloc (.cells #[.int .u64 0, .int .i64 0, .slice none 0 0] 28) = u7 at *
          generalize u3.heap.size = a7 at *
          refine hK _ _ (fun _ => trivial) ?_
          refine early_only (i := 7) (by kernel_rfl) rfl (fun K hK => ?_)
          simp only [opWp, List.getElem?_toArray, List.getElem?_cons_succ, List.getElem?_cons_zero]
          refine wp_make_ent (.tmp 20) (.tmp 20) rfl n rfl rfl (by omega) ?_
          intro u8 hat hb
          have NR := Lib.hid (show w.heap.size < u7.heap.size ∧ ¬ u7.heap.size = g ∧ ¬ u7.heap.size = b1 from ⟨E.out.res.lt, by have := E.out.glt; omega, by have := E.out.ne.2.2; omega⟩)
          have E := Lib.hid (E.out.up (But.of_below hb))
          have NE := Lib.hid (show a7 < u7.heap.size from ZP.out.lt)
          have ZP := Lib.hid (ZP.out.below hb ZP.out.lt)
          have ZR := Lib.hid hat
          clear hat hb
          generalize u7.heap.size = a8 at *
          refine hK _ _ (fun _ => trivial) ?_
          simp only [Act.put, List.setIfInBounds_toArray, List.set_cons_zero, List.set_cons_succ]
          refine early_take (i := 8) 22 (.agg #[.int .u64 (q : Int), .int .i64 ((z : Int) - 1), .slice (some ⟨a8, 0, none⟩) n n]) rfl rfl (by kernel_rfl) (by kernel_rfl) (by kernel_rfl) (by kernel_rfl) rfl (fun _ _ _ h => h) (fun w' hw' => by go_simp) trivial ?_
          simp only [Act.put, List.setIfInBounds_toArray, List.set_cons_zero, List.set_cons_succ]
          refine early_only (i := 10) (by kernel_rfl) rfl (fun K hK => ?_)
          simp only [opWp, List.getElem?_toArray, List.getElem?_cons_succ, List.getElem?_cons_zero]
          refine wp_store_part 28 (.tmp 8) (.tmp 22) rfl a7 0 28 #[.int .u64 0, .int .i64 0, .slice none 0 0] #[.int .u64 (q : Int), .int .i64 ((z : Int) - 1), .slice (some ⟨a8, 0, none⟩) n n] rfl rfl ZP.out size28 (by simp) (note_all _ _ _ _ _) ?_
          intro u9 hat hb
          rw [note_part] at hat
          have N1 := NP.out
          have N2 := NR.out
          have N3 := NE.out
          have E := Lib.hid (E.out.but hb (by omega) (fun e => N1.2.1 e.symm) (fun e => N1.2.2 e.symm) (fun k e => by omega))
          have ZR := Lib.hid (ZR.out.but hb (by omega))
          have ZP := Lib.hid hat
          clear hat hb
          refine hK _ _ (fun _ => trivial) ?_
          refine early_done (by kernel_rfl) ?_
          have N4 := Lib.hid (show w.heap.size < a7 ∧ w.heap.size < a8 ∧ a7 ≠ a8 ∧ g ≠ a7 ∧ g ≠ a8 ∧ b1 ≠ a7 ∧ b1 ≠ a8 from ⟨N1.1, N2.1, by omega, fun e => N1.2.1 e.symm, fun e => N2.2.1 e.symm, fun e => N1.2.2 e.symm, fun e => N2.2.2 e.symm⟩)
          clear N1 N2 N3
          go_wp2_with fail
          go_meet
          rw [← QQ.out, ← ZZ.out, rowE_zero]
          exact ⟨_, _, rfl, E.out, ZP.out, ZR.out, N4.out⟩
      · simp only [opWp, List.getElem?_toArray, List.getElem?_cons_succ, List.getElem?_cons_zero]
        refine wp_make_ent (.tmp 20) (.tmp 20) rfl n rfl rfl (by omega) ?_
        intro u10 hat hb
        have NR := Lib.hid (show w.heap.size < u2.heap.size ∧ ¬ u2.heap.size = g ∧ ¬ u2.heap.size = b1 from ⟨E.out.res.lt, by have := E.out.glt; omega, by have := E.out.ne.2.2; omega⟩)
        have E := Lib.hid (E.out.up (But.of_below hb))
        have ZR := Lib.hid hat
        clear hat hb
        generalize u2.heap.size = a10 at *
        refine hK _ _ (fun _ => trivial) ?_
        simp only [Act.put, List.setIfInBounds_toArray, List.set_cons_zero, List.set_cons_succ]
        refine early_two (i := 3) (j := 9) (by kernel_rfl) ⟨rfl, fun K hK => ?_⟩ ⟨rfl, fun K hK => ?_⟩
        · simp only [opWp, List.getElem?_toArray, List.getElem?_cons_succ, List.getElem?_cons_zero]
          go_simp
          go_at_call 34
          obtain ⟨Aq, cq, hr, hA⟩ := E.out.rd
          refine (take_fld g Aq cq L 9 2 _ (by omega) (by rw [HL.out, LE.out]; omega) (by rw [HL.out, LE.out]; omega) hr).mono ?_
          rintro e u11 ⟨rfl, hS⟩
          have GL := Lib.hid E.out.glt
          have E := Lib.hid (E.out.take hA hS rfl)
          have ZR := Lib.hid (ZR.out.but hS.2 NR.out.2.1)
          clear hS hr hA
          rw [← ZZ.out]
          refine hK _ _ (fun _ => trivial) ?_
          refine early_take (i := 4) 18 (.int .i64 (z : Int)) rfl rfl (by kernel_rfl) (by kernel_rfl) (by kernel_rfl) (by kernel_rfl) rfl (fun _ _ _ h => h) (fun w' hw' => by go_simp; exact wrap_of (by omega) (by omega)) trivial ?_
          simp only [Act.put, List.setIfInBounds_toArray, List.set_cons_zero, List.set_cons_succ]
          refine early_take (i := 5) 19 (.int .i64 ((z : Int) - 1)) rfl rfl (by kernel_rfl) (by kernel_rfl) (by kernel_rfl) (by kernel_rfl) rfl (fun _ _ _ h => h) (fun w' hw' => by go_simp; exact wrap_of (by omega) (by omega)) trivial ?_
          simp only [Act.put, List.setIfInBounds_toArray, List.set_cons_zero, List.set_cons_succ]
          refine early_take (i := 8) 22 (.agg #[.int .u64 (q : Int), .int .i64 ((z : Int) - 1), .slice (some ⟨a10, 0, none⟩) n n]) rfl rfl (by kernel_rfl) (by kernel_rfl) (by kernel_rfl) (by kernel_rfl) rfl (fun _ _ _ h => h) (fun w' hw' => by go_simp) trivial ?_
          simp only [Act.put, List.setIfInBounds_toArray, List.set_cons_zero, List.set_cons_succ]
          refine early_only (i := 9) (by kernel_rfl) rfl (fun K hK => ?_)
          simp only [opWp, List.getElem?_toArray, List.getElem?_cons_succ, List.getElem?_cons_zero]
          go_simp
          have NP := Lib.hid (show w.heap.size < u11.heap.size ∧ ¬ u11.heap.size = g ∧ ¬ u11.heap.size = b1 from ⟨E.out.res.lt, by have := E.out.glt; omega, by have := E.out.ne.2.2; omega⟩)
          have E := Lib.hid (E.out.up ((But.refl _ _).alloc (.cells #[.int .u64 0, .int .i64 0, .slice none 0 0] 28)))
          have NE := Lib.hid (show a10 < u11.heap.size from ZR.out.lt)
          have ZR := Lib.hid (ZR.out.alloc (.cells #[.int .u64 0, .int .i64 0, .slice none 0 0] 28))
          have ZP := Lib.hid (At.new (w := u11) (g := u11.heap.size) #[.int .u64 0, .int .i64 0, .slice none 0 0] 28 rfl)
          generalize u11.alloc (.cells #[.int .u64 0, .int .i64 0, .slice none 0 0] 28) = u12 at *
          generalize u11.heap.size = a12 at *
          refine hK _ _ (fun _ => trivial) ?_
          refine early_only (i := 10) (by kernel_rfl) rfl (fun K hK => ?_)
          simp only [opWp, List.getElem?_toArray, List.getElem?_cons_succ, List.getElem?_cons_zero]
          refine wp_store_part 28 (.tmp 8) (.tmp 22) rfl a12 0 28 #[.int .u64 0, .int .i64 0, .slice none 0 0] #[.int .u64 (q : Int), .int .i64 ((z : Int) - 1), .slice (some ⟨a10, 0, none⟩) n n] rfl rfl ZP.out size28 (by simp) (note_all _ _ _ _ _) ?_
          intro u13 hat hb
          rw [note_part] at hat
          have N1 := NP.out
          have N2 := NR.out
          have N3 := NE.out
          have E := Lib.hid (E.out.but hb (by omega) (fun e => N1.2.1 e.symm) (fun e => N1.2.2 e.symm) (fun k e => by omega))
          have ZR := Lib.hid (ZR.out.but hb (by omega))
          have ZP := Lib.hid hat
          clear hat hb
          refine hK _ _ (fun _ => trivial) ?_
          refine early_done (by kernel_rfl) ?_
          have N4 := Lib.hid (show w.heap.size < a12 ∧ w.heap.size < a10 ∧ a12 ≠ a10 ∧ g ≠ a12 ∧ g ≠ a10 ∧ b1 ≠ a12 ∧ b1 ≠ a10 from ⟨N1.1, N2.1, by omega, fun e => N1.2.1 e.symm, fun e => N2.2.1 e.symm, fun e => N1.2.2 e.symm, fun e => N2.2.2 e.symm⟩)
          clear N1 N2 N3
          go_wp2_with fail
          go_meet
          rw [← QQ.out, ← ZZ.out, rowE_zero]
          exact ⟨_, _, rfl, E.out, ZP.out, ZR.out, N4.out⟩
        · simp only [opWp, List.getElem?_toArray, List.getElem?_cons_succ, List.getElem?_cons_zero]
          go_simp
          have NP := Lib.hid (show w.heap.size < u10.heap.size ∧ ¬ u10.heap.size = g ∧ ¬ u10.heap.size = b1 from ⟨E.out.res.lt, by have := E.out.glt; omega, by have := E.out.ne.2.2; omega⟩)
          have E := Lib.hid (E.out.up ((But.refl _ _).alloc (.cells #[.int .u64 0, .int .i64 0, .slice none 0 0] 28)))
          have NE := Lib.hid (show a10 < u10.heap.size from ZR.out.lt)
          have ZR := Lib.hid (ZR.out.alloc (.cells #[.int .u64 0, .int .i64 0, .slice none 0 0] 28))
          have ZP := Lib.hid (At.new (w := u10) (g := u10.heap.size) #[.int .u64 0, .int .i64 0, .slice none 0 0] 28 rfl)
          generalize u10.alloc (.cells #[.int .u64 0, .int .i64 0, .slice none 0 0] 28) = u14 at *
          generalize u10.heap.size = a14 at *
          refine hK _ _ (fun _ => trivial) ?_
          refine early_only (i := 3) (by kernel_rfl) rfl (fun K hK => ?_)
          simp only [opWp, List.getElem?_toArray, List.getElem?_cons_succ, List.getElem?_cons_zero]
          go_simp
          go_at_call 34
          obtain ⟨Aq, cq, hr, hA⟩ := E.out.rd
          refine (take_fld g Aq cq L 9 2 _ (by omega) (by rw [HL.out, LE.out]; omega) (by rw [HL.out, LE.out]; omega) hr).mono ?_
          rintro e u15 ⟨rfl, hS⟩
          have GL := Lib.hid E.out.glt
          have E := Lib.hid (E.out.take hA hS rfl)
          have ZR := Lib.hid (ZR.out.but hS.2 NR.out.2.1)
          have ZP := Lib.hid (ZP.out.but hS.2 NP.out.2.1)
          clear hS hr hA
          rw [← ZZ.out]
          refine hK _ _ (fun _ => trivial) ?_
          refine early_take (i := 4) 18 (.int .i64 (z : Int)) rfl rfl (by kernel_rfl) (by kernel_rfl) (by kernel_rfl) (by kernel_rfl) rfl (fun _ _ _ h => h) (fun w' hw' => by go_simp; exact wrap_of (by omega) (by omega)) trivial ?_
          simp only [Act.put, List.setIfInBounds_toArray, List.set_cons_zero, List.set_cons_succ]
          refine early_take (i := 5) 19 (.int .i64 ((z : Int) - 1)) rfl rfl (by kernel_rfl) (by kernel_rfl) (by kernel_rfl) (by kernel_rfl) rfl (fun _ _ _ h => h) (fun w' hw' => by go_simp; exact wrap_of (by omega) (by omega)) trivial ?_
          simp only [Act.put, List.setIfInBounds_toArray, List.set_cons_zero, List.set_cons_succ]
          refine early_take (i := 8) 22 (.agg #[.int .u64 (q : Int), .int .i64 ((z : Int) - 1), .slice (some ⟨a10, 0, none⟩) n n]) rfl rfl (by kernel_rfl) (by kernel_rfl) (by kernel_rfl) (by kernel_rfl) rfl (fun _ _ _ h => h) (fun w' hw' => by go_simp) trivial ?_
          simp only [Act.put, List.setIfInBounds_toArray, List.set_cons_zero, List.set_cons_succ]
          refine early_only (i := 10) (by kernel_rfl) rfl (fun K hK => ?_)
          simp only [opWp, List.getElem?_toArray, List.getElem?_cons_succ, List.getElem?_cons_zero]
          refine wp_store_part 28 (.tmp 8) (.tmp 22) rfl a14 0 28 #[.int .u64 0, .int .i64 0, .slice none 0 0] #[.int .u64 (q : Int), .int .i64 ((z : Int) - 1), .slice (some ⟨a10, 0, none⟩) n n] rfl rfl ZP.out size28 (by simp) (note_all _ _ _ _ _) ?_
          intro u16 hat hb
          rw [note_part] at hat
          have N1 := NP.out
          have N2 := NR.out
          have N3 := NE.out
          have E := Lib.hid (E.out.but hb (by omega) (fun e => N1.2.1 e.symm) (fun e => N1.2.2 e.symm) (fun k e => by omega))
          have ZR := Lib.hid (ZR.out.but hb (by omega))
          have ZP := Lib.hid hat
          clear hat hb
          refine hK _ _ (fun _ => trivial) ?_
          refine early_done (by kernel_rfl) ?_
          have N4 := Lib.hid (show w.heap.size < a14 ∧ w.heap.size < a10 ∧ a14 ≠ a10 ∧ g ≠ a14 ∧ g ≠ a10 ∧ b1 ≠ a14 ∧ b1 ≠ a10 from ⟨N1.1, N2.1, by omega, fun e => N1.2.1 e.symm, fun e => N2.2.1 e.symm, fun e => N1.2.2 e.symm, fun e => N2.2.2 e.symm⟩)
          clear N1 N2 N3
          go_wp2_with fail
          go_meet
          rw [← QQ.out, ← ZZ.out, rowE_zero]
          exact ⟨_, _, rfl, E.out, ZP.out, ZR.out, N4.out⟩
      · simp only [opWp, List.getElem?_toArray, List.getElem?_cons_succ, List.getElem?_cons_zero]
        go_simp
        have NP := Lib.hid (show w.heap.size < u2.heap.size ∧ ¬ u2.heap.size = g ∧ ¬ u2.heap.size = b1 from ⟨E.out.res.lt, by have := E.out.glt; omega, by have := E.out.ne.2.2; omega⟩)
        have E := Lib.hid (E.out.up ((But.refl _ _).alloc (.cells #[.int .u64 0, .int .i64 0, .slice none 0 0] 28)))
        have ZP := Lib.hid (At.new (w := u2) (g := u2.heap.size) #[.int .u64 0, .int .i64 0, .slice none 0 0] 28 rfl)
        generalize u2.alloc (.cells #[.int .u64 0, .int .i64 0, .slice none 0 0] 28) = u17 at *
        generalize u2.heap.size = a17 at *
        refine hK _ _ (fun _ => trivial) ?_
        refine early_two (i := 3) (j := 7) (by kernel_rfl) ⟨rfl, fun K hK => ?_⟩ ⟨rfl, fun K hK => ?_⟩
        · simp only [opWp, List.getElem?_toArray, List.getElem?_cons_succ, List.getElem?_cons_zero]
          go_simp
          go_at_call 34
          obtain ⟨Aq, cq, hr, hA⟩ := E.out.rd
          refine (take_fld g Aq cq L 9 2 _ (by omega) (by rw [HL.out, LE.out]; omega) (by rw [HL.out, LE.out]; omega) hr).mono ?_
          rintro e u18 ⟨rfl, hS⟩
          have GL := Lib.hid E.out.glt
          have E := Lib.hid (E.out.take hA hS rfl)
          have ZP := Lib.hid (ZP.out.but hS.2 NP.out.2.1)
          clear hS hr hA
          rw [← ZZ.out]
          refine hK _ _ (fun _ => trivial) ?_
          refine early_take (i := 4) 18 (.int .i64 (z : Int)) rfl rfl (by kernel_rfl) (by kernel_rfl) (by kernel_rfl) (by kernel_rfl) rfl (fun _ _ _ h => h) (fun w' hw' => by go_simp; exact wrap_of (by omega) (by omega)) trivial ?_
          simp only [Act.put, List.setIfInBounds_toArray, List.set_cons_zero, List.set_cons_succ]
          refine early_take (i := 5) 19 (.int .i64 ((z : Int) - 1)) rfl rfl (by kernel_rfl) (by kernel_rfl) (by kernel_rfl) (by kernel_rfl) rfl (fun _ _ _ h => h) (fun w' hw' => by go_simp; exact wrap_of (by omega) (by omega)) trivial ?_
          simp only [Act.put, List.setIfInBounds_toArray, List.set_cons_zero, List.set_cons_succ]
          refine early_only (i := 7) (by kernel_rfl) rfl (fun K hK => ?_)
          simp only [opWp, List.getElem?_toArray, List.getElem?_cons_succ, List.getElem?_cons_zero]
          refine wp_make_ent (.tmp 20) (.tmp 20) rfl n rfl rfl (by omega) ?_
          intro u19 hat hb
          have NR := Lib.hid (show w.heap.size < u18.heap.size ∧ ¬ u18.heap.size = g ∧ ¬ u18.heap.size = b1 from ⟨E.out.res.lt, by have := E.out.glt; omega, by have := E.out.ne.2.2; omega⟩)
          have E := Lib.hid (E.out.up (But.of_below hb))
          have NE := Lib.hid (show a17 < u18.heap.size from ZP.out.lt)
          have ZP := Lib.hid (ZP.out.below hb ZP.out.lt)
          have ZR := Lib.hid hat
          clear hat hb
          generalize u18.heap.size = a19 at *
          refine hK _ _ (fun _ => trivial) ?_
          simp only [Act.put, List.setIfInBounds_toArray, List.set_cons_zero, List.set_cons_succ]
          refine early_take (i := 8) 22 (.agg #[.int .u64 (q : Int), .int .i64 ((z : Int) - 1), .slice (some ⟨a19, 0, none⟩) n n]) rfl rfl (by kernel_rfl) (by kernel_rfl) (by kernel_rfl) (by kernel_rfl) rfl (fun _ _ _ h => h) (fun w' hw' => by go_simp) trivial ?_
          simp only [Act.put, List.setIfInBounds_toArray, List.set_cons_zero, List.set_cons_succ]
          refine early_only (i := 10) (by kernel_rfl) rfl (fun K hK => ?_)
          simp only [opWp, List.getElem?_toArray, List.getElem?_cons_succ, List.getElem?_cons_zero]
          refine wp_store_part 28 (.tmp 8) (.tmp 22) rfl a17 0 28 #[.int .u64 0, .int .i64 0, .slice none 0 0] #[.int .u64 (q : Int), .int .i64 ((z : Int) - 1), .slice (some ⟨a19, 0, none⟩) n n] rfl rfl ZP.out size28 (by simp) (note_all _ _ _ _ _) ?_
          intro u20 hat hb
          rw [note_part] at hat
          have N1 := NP.out
          have N2 := NR.out
          have N3 := NE.out
          have E := Lib.hid (E.out.but hb (by omega) (fun e => N1.2.1 e.symm) (fun e => N1.2.2 e.symm) (fun k e => by omega))
          have ZR := Lib.hid (ZR.out.but hb (by omega))
          have ZP := Lib.hid hat
          clear hat hb
          refine hK _ _ (fun _ => trivial) ?_
          refine early_done (by kernel_rfl) ?_
          have N4 := Lib.hid (show w.heap.size < a17 ∧ w.heap.size < a19 ∧ a17 ≠ a19 ∧ g ≠ a17 ∧ g ≠ a19 ∧ b1 ≠ a17 ∧ b1 ≠ a19 from ⟨N1.1, N2.1, by omega, fun e => N1.2.1 e.symm, fun e => N2.2.1 e.symm, fun e => N1.2.2 e.symm, fun e => N2.2.2 e.symm⟩)
          clear N1 N2 N3
          go_wp2_with fail
          go_meet
          rw [← QQ.out, ← ZZ.out, rowE_zero]
          exact ⟨_, _, rfl, E.out, ZP.out, ZR.out, N4.out⟩
        · simp only [opWp, List.getElem?_toArray, List.getElem?_cons_succ, List.getElem?_cons_zero]
          refine wp_make_ent (.tmp 20) (.tmp 20) rfl n rfl rfl (by omega) ?_
          intro u21 hat hb
          have NR := Lib.hid (show w.heap.size < u17.heap.size ∧ ¬ u17.heap.size = g ∧ ¬ u17.heap.size = b1 from ⟨E.out.res.lt, by have := E.out.glt; omega, by have := E.out.ne.2.2; omega⟩)
          have E := Lib.hid (E.out.up (But.of_below hb))
          have NE := Lib.hid (show a17 < u17.heap.size from ZP.out.lt)
          have ZP := Lib.hid (ZP.out.below hb ZP.out.lt)
          have ZR := Lib.hid hat
          clear hat hb
          generalize u17.heap.size = a21 at *
          refine hK _ _ (fun _ => trivial) ?_
          simp only [Act.put, List.setIfInBounds_toArray, List.set_cons_zero, List.set_cons_succ]
          refine early_only (i := 3) (by kernel_rfl) rfl (fun K hK => ?_)
          simp only [opWp, List.getElem?_toArray, List.getElem?_cons_succ, List.getElem?_cons_zero]
          go_simp
          go_at_call 34
          obtain ⟨Aq, cq, hr, hA⟩ := E.out.rd
          refine (take_fld g Aq cq L 9 2 _ (by omega) (by rw [HL.out, LE.out]; omega) (by rw [HL.out, LE.out]; omega) hr).mono ?_
          rintro e u22 ⟨rfl, hS⟩
          have GL := Lib.hid E.out.glt
          have E := Lib.hid (E.out.take hA hS rfl)
          have ZR := Lib.hid (ZR.out.but hS.2 NR.out.2.1)
          have ZP := Lib.hid (ZP.out.but hS.2 NP.out.2.1)
          clear hS hr hA
          rw [← ZZ.out]
          refine hK _ _ (fun _ => trivial) ?_
          refine early_take (i := 4) 18 (.int .i64 (z : Int)) rfl rfl (by kernel_rfl) (by kernel_rfl) (by kernel_rfl) (by kernel_rfl) rfl (fun _ _ _ h => h) (fun w' hw' => by go_simp; exact wrap_of (by omega) (by omega)) trivial ?_
          simp only [Act.put, List.setIfInBounds_toArray, List.set_cons_zero, List.set_cons_succ]
          refine early_take (i := 5) 19 (.int .i64 ((z : Int) - 1)) rfl rfl (by kernel_rfl) (by kernel_rfl) (by kernel_rfl) (by kernel_rfl) rfl (fun _ _ _ h => h) (fun w' hw' => by go_simp; exact wrap_of (by omega) (by omega)) trivial ?_
          simp only [Act.put, List.setIfInBounds_toArray, List.set_cons_zero, List.set_cons_succ]
          refine early_take (i := 8) 22 (.agg #[.int .u64 (q : Int), .int .i64 ((z : Int) - 1), .slice (some ⟨a21, 0, none⟩) n n]) rfl rfl (by kernel_rfl) (by kernel_rfl) (by kernel_rfl) (by kernel_rfl) rfl (fun _ _ _ h => h) (fun w' hw' => by go_simp) trivial ?_
          simp only [Act.put, List.setIfInBounds_toArray, List.set_cons_zero, List.set_cons_succ]
          refine early_only (i := 10) (by kernel_rfl) rfl (fun K hK => ?_)
          simp only [opWp, List.getElem?_toArray, List.getElem?_cons_succ, List.getElem?_cons_zero]
          refine wp_store_part 28 (.tmp 8) (.tmp 22) rfl a17 0 28 #[.int .u64 0, .int .i64 0, .slice none 0 0] #[.int .u64 (q : Int), .int .i64 ((z : Int) - 1), .slice (some ⟨a21, 0, none⟩) n n] rfl rfl ZP.out size28 (by simp) (note_all _ _ _ _ _) ?_
          intro u23 hat hb
          rw [note_part] at hat
          have N1 := NP.out
          have N2 := NR.out
          have N3 := NE.out
          have E := Lib.hid (E.out.but hb (by omega) (fun e => N1.2.1 e.symm) (fun e => N1.2.2 e.symm) (fun k e => by omega))
          have ZR := Lib.hid (ZR.out.but hb (by omega))
          have ZP := Lib.hid hat
          clear hat hb
          refine hK _ _ (fun _ => trivial) ?_
          refine early_done (by kernel_rfl) ?_
          have N4 := Lib.hid (show w.heap.size < a17 ∧ w.heap.size < a21 ∧ a17 ≠ a21 ∧ g ≠ a17 ∧ g ≠ a21 ∧ b1 ≠ a17 ∧ b1 ≠ a21 from ⟨N1.1, N2.1, by omega, fun e => N1.2.1 e.symm, fun e => N2.2.1 e.symm, fun e => N1.2.2 e.symm, fun e => N2.2.2 e.symm⟩)
          clear N1 N2 N3
          go_wp2_with fail
          go_meet
          rw [← QQ.out, ← ZZ.out, rowE_zero]
          exact ⟨_, _, rfl, E.out, ZP.out, ZR.out, N4.out⟩
    · simp only [opWp, List.getElem?_toArray, List.getElem?_cons_succ, List.getElem?_cons_zero]
      refine wp_make_ent (.tmp 20) (.tmp 20) rfl n rfl rfl (by omega) ?_
      intro u24 hat hb
      have NR := Lib.hid (show w.heap.size < u1.heap.size ∧ ¬ u1.heap.size = g ∧ ¬ u1.heap.size = b1 from ⟨E.out.res.lt, by have := E.out.glt; omega, by have := E.out.ne.2.2; omega⟩)
      have E := Lib.hid (E.out.up (But.of_below hb))
      have ZR := Lib.hid hat
      clear hat hb
      generalize u1.heap.size = a24 at *
      refine hK _ _ (fun _ => trivial) ?_
      simp only [Act.put, List.setIfInBounds_toArray, List.set_cons_zero, List.set_cons_succ]
      refine early_two (i := 1) (j := 9) (by kernel_rfl) ⟨rfl, fun K hK => ?_⟩ ⟨rfl, fun K hK => ?_⟩
      · simp only [opWp, List.getElem?_toArray, List.getElem?_cons_succ, List.getElem?_cons_zero]
        go_simp
        go_at_call 34
        obtain ⟨Aq, cq, hr, hA⟩ := E.out.rd
        refine (take_fld g Aq cq L 1 8 _ (by omega) (by rw [HL.out, LE.out]; omega) (by rw [HL.out, LE.out]; omega) hr).mono ?_
        rintro e u25 ⟨rfl, hS⟩
        have GL := Lib.hid E.out.glt
        have E := Lib.hid (E.out.take hA hS rfl)
        have ZR := Lib.hid (ZR.out.but hS.2 NR.out.2.1)
        clear hS hr hA
        rw [← QQ.out]
        refine hK _ _ (fun _ => trivial) ?_
        refine early_two (i := 3) (j := 9) (by kernel_rfl) ⟨rfl, fun K hK => ?_⟩ ⟨rfl, fun K hK => ?_⟩
        · simp only [opWp, List.getElem?_toArray, List.getElem?_cons_succ, List.getElem?_cons_zero]
          go_simp
          go_at_call 34
          obtain ⟨Aq, cq, hr, hA⟩ := E.out.rd
          refine (take_fld g Aq cq L 9 2 _ (by omega) (by rw [HL.out, LE.out]; omega) (by rw [HL.out, LE.out]; omega) hr).mono ?_
          rintro e u26 ⟨rfl, hS⟩
          have GL := Lib.hid E.out.glt
          have E := Lib.hid (E.out.take hA hS rfl)
          have ZR := Lib.hid (ZR.out.but hS.2 NR.out.2.1)
          clear hS hr hA
          rw [← ZZ.out]
          refine hK _ _ (fun _ => trivial) ?_
          refine early_take (i := 4) 18 (.int .i64 (z : Int)) rfl rfl (by kernel_rfl) (by kernel_rfl) (by kernel_rfl) (by kernel_rfl) rfl (fun _ _ _ h => h) (fun w' hw' => by go_simp; exact wrap_of (by omega) (by omega)) trivial ?_
          simp only [Act.put, List.setIfInBounds_toArray, List.set_cons_zero, List.set_cons_succ]
          refine early_take (i := 5) 19 (.int .i64 ((z : Int) - 1)) rfl rfl (by kernel_rfl) (by kernel_rfl) (by kernel_rfl) (by kernel_rfl) rfl (fun _ _ _ h => h) (fun w' hw' => by go_simp; exact wrap_of (by omega) (by omega)) trivial ?_
          simp only [Act.put, List.setIfInBounds_toArray, List.set_cons_zero, List.set_cons_succ]
          refine early_take (i := 8) 22 (.agg #[.int .u64 (q : Int), .int .i64 ((z : Int) - 1), .slice (some ⟨a24, 0, none⟩) n n]) rfl rfl (by kernel_rfl) (by kernel_rfl) (by kernel_rfl) (by kernel_rfl) rfl (fun _ _ _ h => h) (fun w' hw' => by go_simp) trivial ?_
          simp only [Act.put, List.setIfInBounds_toArray, List.set_cons_zero, List.set_cons_succ]
          refine early_only (i := 9) (by kernel_rfl) rfl (fun K hK => ?_)
          simp only [opWp, List.getElem?_toArray, List.getElem?_cons_succ, List.getElem?_cons_zero]
          go_simp
          have NP := Lib.hid (show w.heap.size < u26.heap.size ∧ ¬ u26.heap.size = g ∧ ¬ u26.heap.size = b1 from ⟨E.out.res.lt, by have := E.out.glt; omega, by have := E.out.ne.2.2; omega⟩)
          have E := Lib.hid (E.out.up ((But.refl _ _).alloc (.cells #[.int .u64 0, .int .i64 0, .slice none 0 0] 28)))
          have NE := Lib.hid (show a24 < u26.heap.size from ZR.out.lt)
          have ZR := Lib.hid (ZR.out.alloc (.cells #[.int .u64 0, .int .i64 0, .slice none 0 0] 28))
          have ZP := Lib.hid (At.new (w := u26) (g := u26.heap.size) #[.int .u64 0, .int .i64 0, .slice none 0 0] 28 rfl)
          generalize u26.alloc (.cells #[.int .u64 0, .int .i64 0, .slice none 0 0] 28) = u27 at *
          generalize u26.heap.size = a27 at *
          refine hK _ _ (fun _ => trivial) ?_
          refine early_only (i := 10) (by kernel_rfl) rfl (fun K hK => ?_)
          simp only [opWp, List.getElem?_toArray, List.getElem?_cons_succ, List.getElem?_cons_zero]
          refine wp_store_part 28 (.tmp 8) (.tmp 22) rfl a27 0 28 #[.int .u64 0, .int .i64 0, .slice none 0 0] #[.int .u64 (q : Int), .int .i64 ((z : Int) - 1), .slice (some ⟨a24, 0, none⟩) n n] rfl rfl ZP.out size28 (by simp) (note_all _ _ _ _ _) ?_
          intro u28 hat hb
          rw [note_part] at hat
          have N1 := NP.out
          have N2 := NR.out
          have N3 := NE.out
          have E := Lib.hid (E.out.but hb (by omega) (fun e => N1.2.1 e.symm) (fun e => N1.2.2 e.symm) (fun k e => by omega))
          have ZR := Lib.hid (ZR.out.but hb (by omega))
          have ZP := Lib.hid hat
          clear hat hb
          refine hK _ _ (fun _ => trivial) ?_
          refine early_done (by kernel_rfl) ?_
          have N4 := Lib.hid (show w.heap.size < a27 ∧ w.heap.size < a24 ∧ a27 ≠ a24 ∧ g ≠ a27 ∧ g ≠ a24 ∧ b1 ≠ a27 ∧ b1 ≠ a24 from ⟨N1.1, N2.1, by omega, fun e => N1.2.1 e.symm, fun e => N2.2.1 e.symm, fun e => N1.2.2 e.symm, fun e => N2.2.2 e.symm⟩)
          clear N1 N2 N3
          go_wp2_with fail
          go_meet
          rw [← QQ.out, ← ZZ.out, rowE_zero]
          exact ⟨_, _, rfl, E.out, ZP.out, ZR.out, N4.out⟩
        · simp only [opWp, List.getElem?_toArray, List.getElem?_cons_succ, List.getElem?_cons_zero]
          go_simp
          have NP := Lib.hid (show w.heap.size < u25.heap.size ∧ ¬ u25.heap.size = g ∧ ¬ u25.heap.size = b1 from ⟨E.out.res.lt, by have := E.out.glt; omega, by have := E.out.ne.2.2; omega⟩)
          have E := Lib.hid (E.out.up ((But.refl _ _).alloc (.cells #[.int .u64 0, .int .i64 0, .slice none 0 0] 28)))
          have NE := Lib.hid (show a24 < u25.heap.size from ZR.out.lt)
          have ZR := Lib.hid (ZR.out.alloc (.cells #[.int .u64 0, .int .i64 0, .slice none 0 0] 28))
          have ZP := Lib.hid (At.new (w := u25) (g := u25.heap.size) #[.int .u64 0, .int .i64 0, .slice none 0 0] 28 rfl)
          generalize u25.alloc (.cells #[.int .u64 0, .int .i64 0, .slice none 0 0] 28) = u29 at *
          generalize u25.heap.size = a29 at *
          refine hK _ _ (fun _ => trivial) ?_
          refine early_only (i := 3) (by kernel_rfl) rfl (fun K hK => ?_)
          simp only [opWp, List.getElem?_toArray, List.getElem?_cons_succ, List.getElem?_cons_zero]
          go_simp
          go_at_call 34
          obtain ⟨Aq, cq, hr, hA⟩ := E.out.rd
          refine (take_fld g Aq cq L 9 2 _ (by omega) (by rw [HL.out, LE.out]; omega) (by rw [HL.out, LE.out]; omega) hr).mono ?_
          rintro e u30 ⟨rfl, hS⟩
          have GL := Lib.hid E.out.glt
          have E := Lib.hid (E.out.take hA hS rfl)
          have ZR := Lib.hid (ZR.out.but hS.2 NR.out.2.1)
          have ZP := Lib.hid (ZP.out.but hS.2 NP.out.2.1)
          clear hS hr hA
          rw [← ZZ.out]
          refine hK _ _ (fun _ => trivial) ?_
          refine early_take (i := 4) 18 (.int .i64 (z : Int)) rfl rfl (by kernel_rfl) (by kernel_rfl) (by kernel_rfl) (by kernel_rfl) rfl (fun _ _ _ h => h) (fun w' hw' => by go_simp; exact wrap_of (by omega) (by omega)) trivial ?_
          simp only [Act.put, List.setIfInBounds_toArray, List.set_cons_zero, List.set_cons_succ]
          refine early_take (i := 5) 19 (.int .i64 ((z : Int) - 1)) rfl rfl (by kernel_rfl) (by kernel_rfl) (by kernel_rfl) (by kernel_rfl) rfl (fun _ _ _ h => h) (fun w' hw' => by go_simp; exact wrap_of (by omega) (by omega)) trivial ?_
          simp only [Act.put, List.setIfInBounds_toArray, List.set_cons_zero, List.set_cons_succ]
          refine early_take (i := 8) 22 (.agg #[.int .u64 (q : Int), .int .i64 ((z : Int) - 1), .slice (some ⟨a24, 0, none⟩) n n]) rfl rfl (by kernel_rfl) (by kernel_rfl) (by kernel_rfl) (by kernel_rfl) rfl (fun _ _ _ h => h) (fun w' hw' => by go_simp) trivial ?_
          simp only [Act.put, List.setIfInBounds_toArray, List.set_cons_zero, List.set_cons_succ]
          refine early_only (i := 10) (by kernel_rfl) rfl (fun K hK => ?_)
          simp only [opWp, List.getElem?_toArray, List.getElem?_cons_succ, List.getElem?_cons_zero]
          refine wp_store_part 28 (.tmp 8) (.tmp 22) rfl a29 0 28 #[.int .u64 0, .int .i64 0, .slice none 0 0] #[.int .u64 (q : Int), .int .i64 ((z : Int) - 1), .slice (some ⟨a24, 0, none⟩) n n] rfl rfl ZP.out size28 (by simp) (note_all _ _ _ _ _) ?_
          intro u31 hat hb
          rw [note_part] at hat
          have N1 := NP.out
          have N2 := NR.out
          have N3 := NE.out
          have E := Lib.hid (E.out.but hb (by omega) (fun e => N1.2.1 e.symm) (fun e => N1.2.2 e.symm) (fun k e => by omega))
          have ZR := Lib.hid (ZR.out.but hb (by omega))
          have ZP := Lib.hid hat
          clear hat hb
          refine hK _ _ (fun _ => trivial) ?_
          refine early_done (by kernel_rfl) ?_
          have N4 := Lib.hid (show w.heap.size < a29 ∧ w.heap.size < a24 ∧ a29 ≠ a24 ∧ g ≠ a29 ∧ g ≠ a24 ∧ b1 ≠ a29 ∧ b1 ≠ a24 from ⟨N1.1, N2.1, by omega, fun e => N1.2.1 e.symm, fun e => N2.2.1 e.symm, fun e => N1.2.2 e.symm, fun e => N2.2.2 e.symm⟩)
          clear N1 N2 N3
          go_wp2_with fail
          go_meet
          rw [← QQ.out, ← ZZ.out, rowE_zero]
          exact ⟨_, _, rfl, E.out, ZP.out, ZR.out, N4.out⟩
      · simp only [opWp, List.getElem?_toArray, List.getElem?_cons_succ, List.getElem?_cons_zero]
        go_simp
        have NP := Lib.hid (show w.heap.size < u24.heap.size ∧ ¬ u24.heap.size = g ∧ ¬ u24.heap.size = b1 from ⟨E.out.res.lt, by have := E.out.glt; omega, by have := E.out.ne.2.2; omega⟩)
        have E := Lib.hid (E.out.up ((But.refl _ _).alloc (.cells #[.int .u64 0, .int .i64 0, .slice none 0 0] 28)))
        have NE := Lib.hid (show a24 < u24.heap.size from ZR.out.lt)
        have ZR := Lib.hid (ZR.out.alloc (.cells #[.int .u64 0, .int .i64 0, .slice none 0 0] 28))
        have ZP := Lib.hid (At.new (w := u24) (g := u24.heap.size) #[.int .u64 0, .int .i64 0, .slice none 0 0] 28 rfl)
        generalize u24.alloc (.cells #[.int .u64 0, .int .i64 0, .slice none 0 0] 28) = u32 at *
        generalize u24.heap.size = a32 at *
        refine hK _ _ (fun _ => trivial) ?_
        refine early_only (i := 1) (by kernel_rfl) rfl (fun K hK => ?_)
        simp only [opWp, List.getElem?_toArray, List.getElem?_cons_succ, List.getElem?_cons_zero]
        go_simp
        go_at_call 34
        obtain ⟨Aq, cq, hr, hA⟩ := E.out.rd
        refine (take_fld g Aq cq L 1 8 _ (by omega) (by rw [HL.out, LE.out]; omega) (by rw [HL.out, LE.out]; omega) hr).mono ?_
        rintro e u33 ⟨rfl, hS⟩
        have GL := Lib.hid E.out.glt
        have E := Lib.hid (E.out.take hA hS rfl)
        have ZR := Lib.hid (ZR.out.but hS.2 NR.out.2.1)
        have ZP := Lib.hid (ZP.out.but hS.2 NP.out.2.1)
        clear hS hr hA
        rw [← QQ.out]
        refine hK _ _ (fun _ => trivial) ?_
        refine early_only (i := 3) (by kernel_rfl) rfl (fun K hK => ?_)
        simp only [opWp, List.getElem?_toArray, List.getElem?_cons_succ, List.getElem?_cons_zero]
        go_simp
        go_at_call 34
        obtain ⟨Aq, cq, hr, hA⟩ := E.out.rd
        refine (take_fld g Aq cq L 9 2 _ (by omega) (by rw [HL.out, LE.out]; omega) (by rw [HL.out, LE.out]; omega) hr).mono ?_
        rintro e u34 ⟨rfl, hS⟩
        have GL := Lib.hid E.out.glt
        have E := Lib.hid (E.out.take hA hS rfl)
        have ZR := Lib.hid (ZR.out.but hS.2 NR.out.2.1)
        have ZP := Lib.hid (ZP.out.but hS.2 NP.out.2.1)
        clear hS hr hA
        rw [← ZZ.out]
        refine hK _ _ (fun _ => trivial) ?_
        refine early_take (i := 4) 18 (.int .i64 (z : Int)) rfl rfl (by kernel_rfl) (by kernel_rfl) (by kernel_rfl) (by kernel_rfl) rfl (fun _ _ _ h => h) (fun w' hw' => by go_simp; exact wrap_of (by omega) (by omega)) trivial ?_
        simp only [Act.put, List.setIfInBounds_toArray, List.set_cons_zero, List.set_cons_succ]
        refine early_take (i := 5) 19 (.int .i64 ((z : Int) - 1)) rfl rfl (by kernel_rfl) (by kernel_rfl) (by kernel_rfl) (by kernel_rfl) rfl (fun _ _ _ h => h) (fun w' hw' => by go_simp; exact wrap_of (by omega) (by omega)) trivial ?_
        simp only [Act.put, List.setIfInBounds_toArray, List.set_cons_zero, List.set_cons_succ]
        refine early_take (i := 8) 22 (.agg #[.int .u64 (q : Int), .int .i64 ((z : Int) - 1), .slice (some ⟨a24, 0, none⟩) n n]) rfl rfl (by kernel_rfl) (by kernel_rfl) (by kernel_rfl) (by kernel_rfl) rfl (fun _ _ _ h => h) (fun w' hw' => by go_simp) trivial ?_
        simp only [Act.put, List.setIfInBounds_toArray, List.set_cons_zero, List.set_cons_succ]
        refine early_only (i := 10) (by kernel_rfl) rfl (fun K hK => ?_)
        simp only [opWp, List.getElem?_toArray, List.getElem?_cons_succ, List.getElem?_cons_zero]
        refine wp_store_part 28 (.tmp 8) (.tmp 22) rfl a32 0 28 #[.int .u64 0, .int .i64 0, .slice none 0 0] #[.int .u64 (q : Int), .int .i64 ((z : Int) - 1), .slice (some ⟨a24, 0, none⟩) n n] rfl rfl ZP.out size28 (by simp) (note_all _ _ _ _ _) ?_
        intro u35 hat hb
        rw [note_part] at hat
        have N1 := NP.out
        have N2 := NR.out
        have N3 := NE.out
        have E := Lib.hid (E.out.but hb (by omega) (fun e => N1.2.1 e.symm) (fun e => N1.2.2 e.symm) (fun k e => by omega))
        have ZR := Lib.hid (ZR.out.but hb (by omega))
        have ZP := Lib.hid hat
        clear hat hb
        refine hK _ _ (fun _ => trivial) ?_
        refine early_done (by kernel_rfl) ?_
        have N4 := Lib.hid (show w.heap.size < a32 ∧ w.heap.size < a24 ∧ a32 ≠ a24 ∧ g ≠ a32 ∧ g ≠ a24 ∧ b1 ≠ a32 ∧ b1 ≠ a24 from ⟨N1.1, N2.1, by omega, fun e => N1.2.1 e.symm, fun e => N2.2.1 e.symm, fun e => N1.2.2 e.symm, fun e => N2.2.2 e.symm⟩)
        clear N1 N2 N3
        go_wp2_with fail
        go_meet
        rw [← QQ.out, ← ZZ.out, rowE_zero]
        exact ⟨_, _, rfl, E.out, ZP.out, ZR.out, N4.out⟩
    · simp only [opWp, List.getElem?_toArray, List.getElem?_cons_succ, List.getElem?_cons_zero]
      go_simp
      have NP := Lib.hid (show w.heap.size < u1.heap.size ∧ ¬ u1.heap.size = g ∧ ¬ u1.heap.size = b1 from ⟨E.out.res.lt, by have := E.out.glt; omega, by have := E.out.ne.2.2; omega⟩)
      have E := Lib.hid (E.out.up ((But.refl _ _).alloc (.cells #[.int .u64 0, .int .i64 0, .slice none 0 0] 28)))
      have ZP := Lib.hid (At.new (w := u1) (g := u1.heap.size) #[.int .u64 0, .int .i64 0, .slice none 0 0] 28 rfl)
      generalize u1.alloc (.cells #[.int .u64 0, .int .i64 0, .slice none 0 0] 28) = u36 at *
      generalize u1.heap.size = a36 at *
      refine hK _ _ (fun _ => trivial) ?_
      refine early_two (i := 1) (j := 7) (by kernel_rfl) ⟨rfl, fun K hK => ?_⟩ ⟨rfl, fun K hK => ?_⟩
      · simp only [opWp, List.getElem?_toArray, List.getElem?_cons_succ, List.getElem?_cons_zero]
        go_simp
        go_at_call 34
        obtain ⟨Aq, cq, hr, hA⟩ := E.out.rd
        refine (take_fld g Aq cq L 1 8 _ (by omega) (by rw [HL.out, LE.out]; omega) (by rw [HL.out, LE.out]; omega) hr).mono ?_
        rintro e u37 ⟨rfl, hS⟩
        have GL := Lib.hid E.out.glt
        have E := Lib.hid (E.out.take hA hS rfl)
        have ZP := Lib.hid (ZP.out.but hS.2 NP.out.2.1)
        clear hS hr hA
        rw [← QQ.out]
        refine hK _ _ (fun _ => trivial) ?_
        refine early_two (i := 3) (j := 7) (by kernel_rfl) ⟨rfl, fun K hK => ?_⟩ ⟨rfl, fun K hK => ?_⟩
        · simp only [opWp, List.getElem?_toArray, List.getElem?_cons_succ, List.getElem?_cons_zero]
          go_simp
          go_at_call 34
          obtain ⟨Aq, cq, hr, hA⟩ := E.out.rd
          refine (take_fld g Aq cq L 9 2 _ (by omega) (by rw [HL.out, LE.out]; omega) (by rw [HL.out, LE.out]; omega) hr).mono ?_
          rintro e u38 ⟨rfl, hS⟩
          have GL := Lib.hid E.out.glt
          have E := Lib.hid (E.out.take hA hS rfl)
          have ZP := Lib.hid (ZP.out.but hS.2 NP.out.2.1)
          clear hS hr hA
          rw [← ZZ.out]
          refine hK _ _ (fun _ => trivial) ?_
          refine early_take (i := 4) 18 (.int .i64 (z : Int)) rfl rfl (by kernel_rfl) (by kernel_rfl) (by kernel_rfl) (by kernel_rfl) rfl (fun _ _ _ h => h) (fun w' hw' => by go_simp; exact wrap_of (by omega) (by omega)) trivial ?_
          simp only [Act.put, List.setIfInBounds_toArray, List.set_cons_zero, List.set_cons_succ]
          refine early_take (i := 5) 19 (.int .i64 ((z : Int) - 1)) rfl rfl (by kernel_rfl) (by kernel_rfl) (by kernel_rfl) (by kernel_rfl) rfl (fun _ _ _ h => h) (fun w' hw' => by go_simp; exact wrap_of (by omega) (by omega)) trivial ?_
          simp only [Act.put, List.setIfInBounds_toArray, List.set_cons_zero, List.set_cons_succ]
          refine early_only (i := 7) (by kernel_rfl) rfl (fun K hK => ?_)
          simp only [opWp, List.getElem?_toArray, List.getElem?_cons_succ, List.getElem?_cons_zero]
          refine wp_make_ent (.tmp 20) (.tmp 20) rfl n rfl rfl (by omega) ?_
          intro u39 hat hb
          have NR := Lib.hid (show w.heap.size < u38.heap.size ∧ ¬ u38.heap.size = g ∧ ¬ u38.heap.size = b1 from ⟨E.out.res.lt, by have := E.out.glt; omega, by have := E.out.ne.2.2; omega⟩)
          have E := Lib.hid (E.out.up (But.of_below hb))
          have NE := Lib.hid (show a36 < u38.heap.size from ZP.out.lt)
          have ZP := Lib.hid (ZP.out.below hb ZP.out.lt)
          have ZR := Lib.hid hat
          clear hat hb
          generalize u38.heap.size = a39 at *
          refine hK _ _ (fun _ => trivial) ?_
          simp only [Act.put, List.setIfInBounds_toArray, List.set_cons_zero, List.set_cons_succ]
          refine early_take (i := 8) 22 (.agg #[.int .u64 (q : Int), .int .i64 ((z : Int) - 1), .slice (some ⟨a39, 0, none⟩) n n]) rfl rfl (by kernel_rfl) (by kernel_rfl) (by kernel_rfl) (by kernel_rfl) rfl (fun _ _ _ h => h) (fun w' hw' => by go_simp) trivial ?_
          simp only [Act.put, List.setIfInBounds_toArray, List.set_cons_zero, List.set_cons_succ]
          refine early_only (i := 10) (by kernel_rfl) rfl (fun K hK => ?_)
          simp only [opWp, List.getElem?_toArray, List.getElem?_cons_succ, List.getElem?_cons_zero]
          refine wp_store_part 28 (.tmp 8) (.tmp 22) rfl a36 0 28 #[.int .u64 0, .int .i64 0, .slice none 0 0] #[.int .u64 (q : Int), .int .i64 ((z : Int) - 1), .slice (some ⟨a39, 0, none⟩) n n] rfl rfl ZP.out size28 (by simp) (note_all _ _ _ _ _) ?_
          intro u40 hat hb
          rw [note_part] at hat
          have N1 := NP.out
          have N2 := NR.out
          have N3 := NE.out
          have E := Lib.hid (E.out.but hb (by omega) (fun e => N1.2.1 e.symm) (fun e => N1.2.2 e.symm) (fun k e => by omega))
          have ZR := Lib.hid (ZR.out.but hb (by omega))
          have ZP := Lib.hid hat
          clear hat hb
          refine hK _ _ (fun _ => trivial) ?_
          refine early_done (by kernel_rfl) ?_
          have N4 := Lib.hid (show w.heap.size < a36 ∧ w.heap.size < a39 ∧ a36 ≠ a39 ∧ g ≠ a36 ∧ g ≠ a39 ∧ b1 ≠ a36 ∧ b1 ≠ a39 from ⟨N1.1, N2.1, by omega, fun e => N1.2.1 e.symm, fun e => N2.2.1 e.symm, fun e => N1.2.2 e.symm, fun e => N2.2.2 e.symm⟩)
          clear N1 N2 N3
          go_wp2_with fail
          go_meet
          rw [← QQ.out, ← ZZ.out, rowE_zero]
          exact ⟨_, _, rfl, E.out, ZP.out, ZR.out, N4.out⟩
        · simp only [opWp, List.getElem?_toArray, List.getElem?_cons_succ, List.getElem?_cons_zero]
          refine wp_make_ent (.tmp 20) (.tmp 20) rfl n rfl rfl (by omega) ?_
          intro u41 hat hb
          have NR := Lib.hid (show w.heap.size < u37.heap.size ∧ ¬ u37.heap.size = g ∧ ¬ u37.heap.size = b1 from ⟨E.out.res.lt, by have := E.out.glt; omega, by have := E.out.ne.2.2; omega⟩)
          have E := Lib.hid (E.out.up (But.of_below hb))
          have NE := Lib.hid (show a36 < u37.heap.size from ZP.out.lt)
          have ZP := Lib.hid (ZP.out.below hb ZP.out.lt)
          have ZR := Lib.hid hat
          clear hat hb
          generalize u37.heap.size = a41 at *
          refine hK _ _ (fun _ => trivial) ?_
          simp only [Act.put, List.setIfInBounds_toArray, List.set_cons_zero, List.set_cons_succ]
          refine early_only (i := 3) (by kernel_rfl) rfl (fun K hK => ?_)
          simp only [opWp, List.getElem?_toArray, List.getElem?_cons_succ, List.getElem?_cons_zero]
          go_simp
          go_at_call 34
          obtain ⟨Aq, cq, hr, hA⟩ := E.out.rd
          refine (take_fld g Aq cq L 9 2 _ (by omega) (by rw [HL.out, LE.out]; omega) (by rw [HL.out, LE.out]; omega) hr).mono ?_
          rintro e u42 ⟨rfl, hS⟩
          have GL := Lib.hid E.out.glt
          have E := Lib.hid (E.out.take hA hS rfl)
          have ZR := Lib.hid (ZR.out.but hS.2 NR.out.2.1)
          have ZP := Lib.hid (ZP.out.but hS.2 NP.out.2.1)
          clear hS hr hA
          rw [← ZZ.out]
          refine hK _ _ (fun _ => trivial) ?_
          refine early_take (i := 4) 18 (.int .i64 (z : Int)) rfl rfl (by kernel_rfl) (by kernel_rfl) (by kernel_rfl) (by kernel_rfl) rfl (fun _ _ _ h => h) (fun w' hw' => by go_simp; exact wrap_of (by omega) (by omega)) trivial ?_
          simp only [Act.put, List.setIfInBounds_toArray, List.set_cons_zero, List.set_cons_succ]
          refine early_take (i := 5) 19 (.int .i64 ((z : Int) - 1)) rfl rfl (by kernel_rfl) (by kernel_rfl) (by kernel_rfl) (by kernel_rfl) rfl (fun _ _ _ h => h) (fun w' hw' => by go_simp; exact wrap_of (by omega) (by omega)) trivial ?_
          simp only [Act.put, List.setIfInBounds_toArray, List.set_cons_zero, List.set_cons_succ]
          refine early_take (i := 8) 22 (.agg #[.int .u64 (q : Int), .int .i64 ((z : Int) - 1), .slice (some ⟨a41, 0, none⟩) n n]) rfl rfl (by kernel_rfl) (by kernel_rfl) (by kernel_rfl) (by kernel_rfl) rfl (fun _ _ _ h => h) (fun w' hw' => by go_simp) trivial ?_
          simp only [Act.put, List.setIfInBounds_toArray, List.set_cons_zero, List.set_cons_succ]
          refine early_only (i := 10) (by kernel_rfl) rfl (fun K hK => ?_)
          simp only [opWp, List.getElem?_toArray, List.getElem?_cons_succ, List.getElem?_cons_zero]
          refine wp_store_part 28 (.tmp 8) (.tmp 22) rfl a36 0 28 #[.int .u64 0, .int .i64 0, .slice none 0 0] #[.int .u64 (q : Int), .int .i64 ((z : Int) - 1), .slice (some ⟨a41, 0, none⟩) n n] rfl rfl ZP.out size28 (by simp) (note_all _ _ _ _ _) ?_
          intro u43 hat hb
          rw [note_part] at hat
          have N1 := NP.out
          have N2 := NR.out
          have N3 := NE.out
          have E := Lib.hid (E.out.but hb (by omega) (fun e => N1.2.1 e.symm) (fun e => N1.2.2 e.symm) (fun k e => by omega))
          have ZR := Lib.hid (ZR.out.but hb (by omega))
          have ZP := Lib.hid hat
          clear hat hb
          refine hK _ _ (fun _ => trivial) ?_
          refine early_done (by kernel_rfl) ?_
          have N4 := Lib.hid (show w.heap.size < a36 ∧ w.heap.size < a41 ∧ a36 ≠ a41 ∧ g ≠ a36 ∧ g ≠ a41 ∧ b1 ≠ a36 ∧ b1 ≠ a41 from ⟨N1.1, N2.1, by omega, fun e => N1.2.1 e.symm, fun e => N2.2.1 e.symm, fun e => N1.2.2 e.symm, fun e => N2.2.2 e.symm⟩)
          clear N1 N2 N3
          go_wp2_with fail
          go_meet
          rw [← QQ.out, ← ZZ.out, rowE_zero]
          exact ⟨_, _, rfl, E.out, ZP.out, ZR.out, N4.out⟩
      · simp only [opWp, List.getElem?_toArray, List.getElem?_cons_succ, List.getElem?_cons_zero]
        refine wp_make_ent (.tmp 20) (.tmp 20) rfl n rfl rfl (by omega) ?_
        intro u44 hat hb
        have NR := Lib.hid (show w.heap.size < u36.heap.size ∧ ¬ u36.heap.size = g ∧ ¬ u36.heap.size = b1 from ⟨E.out.res.lt, by have := E.out.glt; omega, by have := E.out.ne.2.2; omega⟩)
        have E := Lib.hid (E.out.up (But.of_below hb))
        have NE := Lib.hid (show a36 < u36.heap.size from ZP.out.lt)
        have ZP := Lib.hid (ZP.out.below hb ZP.out.lt)
        have ZR := Lib.hid hat
        clear hat hb
        generalize u36.heap.size = a44 at *
        refine hK _ _ (fun _ => trivial) ?_
        simp only [Act.put, List.setIfInBounds_toArray, List.set_cons_zero, List.set_cons_succ]
        refine early_only (i := 1) (by kernel_rfl) rfl (fun K hK => ?_)
        simp only [opWp, List.getElem?_toArray, List.getElem?_cons_succ, List.getElem?_cons_zero]
        go_simp
        go_at_call 34
        obtain ⟨Aq, cq, hr, hA⟩ := E.out.rd
        refine (take_fld g Aq cq L 1 8 _ (by omega) (by rw [HL.out, LE.out]; omega) (by rw [HL.out, LE.out]; omega) hr).mono ?_
        rintro e u45 ⟨rfl, hS⟩
        have GL := Lib.hid E.out.glt
        have E := Lib.hid (E.out.take hA hS rfl)
        have ZR := Lib.hid (ZR.out.but hS.2 NR.out.2.1)
        have ZP := Lib.hid (ZP.out.but hS.2 NP.out.2.1)
        clear hS hr hA
        rw [← QQ.out]
        refine hK _ _ (fun _ => trivial) ?_
        refine early_only (i := 3) (by kernel_rfl) rfl (fun K hK => ?_)
        simp only [opWp, List.getElem?_toArray, List.getElem?_cons_succ, List.getElem?_cons_zero]
        go_simp
        go_at_call 34
        obtain ⟨Aq, cq, hr, hA⟩ := E.out.rd
        refine (take_fld g Aq cq L 9 2 _ (by omega) (by rw [HL.out, LE.out]; omega) (by rw [HL.out, LE.out]; omega) hr).mono ?_
        rintro e u46 ⟨rfl, hS⟩
        have GL := Lib.hid E.out.glt
        have E := Lib.hid (E.out.take hA hS rfl)
        have ZR := Lib.hid (ZR.out.but hS.2 NR.out.2.1)
        have ZP := Lib.hid (ZP.out.but hS.2 NP.out.2.1)
        clear hS hr hA
        rw [← ZZ.out]
        refine hK _ _ (fun _ => trivial) ?_
        refine early_take (i := 4) 18 (.int .i64 (z : Int)) rfl rfl (by kernel_rfl) (by kernel_rfl) (by kernel_rfl) (by kernel_rfl) rfl (fun _ _ _ h => h) (fun w' hw' => by go_simp; exact wrap_of (by omega) (by omega)) trivial ?_
        simp only [Act.put, List.setIfInBounds_toArray, List.set_cons_zero, List.set_cons_succ]
        refine early_take (i := 5) 19 (.int .i64 ((z : Int) - 1)) rfl rfl (by kernel_rfl) (by kernel_rfl) (by kernel_rfl) (by kernel_rfl) rfl (fun _ _ _ h => h) (fun w' hw' => by go_simp; exact wrap_of (by omega) (by omega)) trivial ?_
        simp only [Act.put, List.setIfInBounds_toArray, List.set_cons_zero, List.set_cons_succ]
        refine early_take (i := 8) 22 (.agg #[.int .u64 (q : Int), .int .i64 ((z : Int) - 1), .slice (some ⟨a44, 0, none⟩) n n]) rfl rfl (by kernel_rfl) (by kernel_rfl) (by kernel_rfl) (by kernel_rfl) rfl (fun _ _ _ h => h) (fun w' hw' => by go_simp) trivial ?_
        simp only [Act.put, List.setIfInBounds_toArray, List.set_cons_zero, List.set_cons_succ]
        refine early_only (i := 10) (by kernel_rfl) rfl (fun K hK => ?_)
        simp only [opWp, List.getElem?_toArray, List.getElem?_cons_succ, List.getElem?_cons_zero]
        refine wp_store_part 28 (.tmp 8) (.tmp 22) rfl a36 0 28 #[.int .u64 0, .int .i64 0, .slice none 0 0] #[.int .u64 (q : Int), .int .i64 ((z : Int) - 1), .slice (some ⟨a44, 0, none⟩) n n] rfl rfl ZP.out size28 (by simp) (note_all _ _ _ _ _) ?_
        intro u47 hat hb
        rw [note_part] at hat
        have N1 := NP.out
        have N2 := NR.out
        have N3 := NE.out
        have E := Lib.hid (E.out.but hb (by omega) (fun e => N1.2.1 e.symm) (fun e => N1.2.2 e.symm) (fun k e => by omega))
        have ZR := Lib.hid (ZR.out.but hb (by omega))
        have ZP := Lib.hid hat
        clear hat hb
        refine hK _ _ (fun _ => trivial) ?_
        refine early_done (by kernel_rfl) ?_
        have N4 := Lib.hid (show w.heap.size < a36 ∧ w.heap.size < a44 ∧ a36 ≠ a44 ∧ g ≠ a36 ∧ g ≠ a44 ∧ b1 ≠ a36 ∧ b1 ≠ a44 from ⟨N1.1, N2.1, by omega, fun e => N1.2.1 e.symm, fun e => N2.2.1 e.symm, fun e => N1.2.2 e.symm, fun e => N2.2.2 e.symm⟩)
        clear N1 N2 N3
        go_wp2_with fail
        go_meet
        rw [← QQ.out, ← ZZ.out, rowE_zero]
        exact ⟨_, _, rfl, E.out, ZP.out, ZR.out, N4.out⟩
  case rest =>
    clear E
    obtain ⟨P, R, rfl, hP⟩ := hcut
    have hq : fld L 1 8 < 18446744073709551616 := fld_lt L 1 8
    have hz : fld L 9 2 < 65536 := fld_lt L 9 2
    obtain ⟨q, hq'⟩ : ∃ y, y = fld L 1 8 := ⟨_, rfl⟩
    obtain ⟨z, hz'⟩ : ∃ y, y = fld L 9 2 := ⟨_, rfl⟩
    rw [← hq'] at hq hP
    rw [← hz'] at hz hP
    have QQ := Lib.hid hq'
    have ZZ := Lib.hid hz'
    have E := Lib.hid hP
    have c2 := hP.box.cell 2
    clear hq' hz' hP
    go_wp2
    clear c2
    go_loopw [26] (fun i wr => ∃ k : Nat, k ≤ n ∧ i = .int .i64 k ∧ Pst w wr w.heap.size g b1 P R L (11 + 5 * k) q ((z : Int) - 1) n (rowE L n k)) (fun i _ => n - (intOf i).toNat)
    case atStart => exact ⟨0, Nat.zero_le _, rfl, E.out⟩
    case round =>
      clear E
      obtain ⟨k, hk, rfl, hE⟩ := hrel
      have E := Lib.hid hE
      clear hE
      by_cases hlt : k < n
      · go_wp2_with fail
        have E := Lib.hid (E.out.drew)
        refine wp_region_early (fun w' : World => At w' P #[.int .u64 (q : Int), .int .i64 ((z : Int) - 1), .slice (some ⟨R, 0, none⟩) n n] 28) (fun _ => true) (by kernel_rfl) ?_
        change wpEarly _ _ _ _ _ _ 9 (Array.replicate 9 false) _ wr.drew
        obtain ⟨w3, hu⟩ : ∃ u, u = wr.drew := ⟨_, rfl⟩
        rw [← hu] at E ⊢
        clear hu
        refine early_take (i := 0) 29 (.pointer (some ⟨P, 2, none⟩)) rfl rfl (by kernel_rfl) (by kernel_rfl) (by kernel_rfl) (by kernel_rfl) rfl (fun _ _ _ h => h) (fun w' hw' => by go_simp) E.out.box ?_
        simp only [Act.put, List.setIfInBounds_toArray, List.set_cons_zero, List.set_cons_succ]
        refine early_take (i := 1) 30 (.slice (some ⟨R, 0, none⟩) n n) rfl rfl (by kernel_rfl) (by kernel_rfl) (by kernel_rfl) (by kernel_rfl) rfl (fun _ _ _ h => h) (fun w' hw' => by have hc0 := hw'.cell 2; go_simp) E.out.box ?_
        simp only [Act.put, List.setIfInBounds_toArray, List.set_cons_zero, List.set_cons_succ]
        refine early_take (i := 2) 31 (.int .i64 (k : Int)) rfl rfl (by kernel_rfl) (by kernel_rfl) (by kernel_rfl) (by kernel_rfl) rfl (fun _ _ _ h => h) (fun w' hw' => by go_simp) E.out.box ?_
        simp only [Act.put, List.setIfInBounds_toArray, List.set_cons_zero, List.set_cons_succ]
        refine early_take (i := 3) 32 (.pointer (some ⟨g, 0, none⟩)) rfl rfl (by kernel_rfl) (by kernel_rfl) (by kernel_rfl) (by kernel_rfl) rfl (fun _ _ _ h => h) (fun w' hw' => by go_simp) E.out.box ?_
        simp only [Act.put, List.setIfInBounds_toArray, List.set_cons_zero, List.set_cons_succ]
        refine early_only (i := 4) (by kernel_rfl) rfl (fun K hK => ?_)
        simp only [opWp, List.getElem?_toArray, List.getElem?_cons_succ, List.getElem?_cons_zero]
        go_simp
        go_at_call 34
        obtain ⟨Aq, cq, hr, hA⟩ := E.out.p.rd
        refine (take_fld g Aq cq L (11 + 5 * k) 1 _ (by omega) (by rw [HL.out, LE.out]; omega) (by rw [HL.out, LE.out]; omega) hr).mono ?_
        rintro e w4 ⟨rfl, hS⟩
        have E := Lib.hid (E.out.take hA hS rfl)
        clear hS hr hA
        have hX : fld L (11 + 5 * k) 1 < 256 ^ 1 := fld_lt L (11 + 5 * k) 1
        have EQX := Lib.hid (rowE_set L n k hlt)
        generalize hG : fld L (11 + 5 * k) 1 = X at *
        clear hG
        refine hK _ _ (fun _ => E.out.box) ?_
        refine early_take (i := 5) 34 (.int .i64 (X : Int)) rfl rfl (by kernel_rfl) (by kernel_rfl) (by kernel_rfl) (by kernel_rfl) rfl (fun _ _ _ h => h) (fun w' hw' => by go_simp; exact wrap_of (by omega) (by omega)) E.out.box ?_
        simp only [Act.put, List.setIfInBounds_toArray, List.set_cons_zero, List.set_cons_succ]
        refine early_take (i := 6) 35 (.pointer (some ⟨R, k * 2, none⟩)) rfl rfl (by kernel_rfl) (by kernel_rfl) (by kernel_rfl) (by kernel_rfl) rfl (fun _ _ _ h => h) (fun w' hw' => by go_simp) E.out.box ?_
        simp only [Act.put, List.setIfInBounds_toArray, List.set_cons_zero, List.set_cons_succ]
        refine early_take (i := 7) 36 (.pointer (some ⟨R, k * 2, none⟩)) rfl rfl (by kernel_rfl) (by kernel_rfl) (by kernel_rfl) (by kernel_rfl) rfl (fun _ _ _ h => h) (fun w' hw' => by go_simp) E.out.box ?_
        simp only [Act.put, List.setIfInBounds_toArray, List.set_cons_zero, List.set_cons_succ]
        have hc : w4.cell? ⟨R, k * 2, none⟩ = _ := E.out.row.cell (k * 2)
        have hfz := E.out.row.frozen (k * 2)
        obtain ⟨old, hold⟩ : ∃ v, (flat (rowE L n k)).toArray[k * 2]? = some v := row_some _ _ (by rw [rowE_len L n k (by omega)]; omega)
        rw [hold] at hc
        refine early_only (i := 8) (by kernel_rfl) rfl (fun K hK => ?_)
        simp only [opWp, List.getElem?_toArray, List.getElem?_cons_succ, List.getElem?_cons_zero]
        go_simp
        have E := Lib.hid (E.out.set (Y := rowM L n k) (k * 2) (.int .i64 (X : Int)) EQX.out)
        clear hc hfz hold
        generalize w4.setCell ⟨R, k * 2, none⟩ (.int .i64 (X : Int)) = w5 at *
        refine hK _ _ (fun _ => E.out.box) ?_
        refine early_done (by kernel_rfl) ?_
        go_wp2_with fail
        rw [show 11 + 5 * k + 1 = 12 + 5 * k by omega] at E
        have E := Lib.hid (E.out.drew)
        refine wp_region_early (fun w' : World => At w' P #[.int .u64 (q : Int), .int .i64 ((z : Int) - 1), .slice (some ⟨R, 0, none⟩) n n] 28) (fun _ => true) (by kernel_rfl) ?_
        change wpEarly _ _ _ _ _ _ 9 (Array.replicate 9 false) _ w5.drew
        obtain ⟨w6, hu⟩ : ∃ u, u = w5.drew := ⟨_, rfl⟩
        rw [← hu] at E ⊢
        clear hu
        refine early_take (i := 0) 37 (.pointer (some ⟨P, 2, none⟩)) rfl rfl (by kernel_rfl) (by kernel_rfl) (by kernel_rfl) (by kernel_rfl) rfl (fun _ _ _ h => h) (fun w' hw' => by go_simp) E.out.box ?_
        simp only [Act.put, List.setIfInBounds_toArray, List.set_cons_zero, List.set_cons_succ]
        refine early_take (i := 1) 38 (.slice (some ⟨R, 0, none⟩) n n) rfl rfl (by kernel_rfl) (by kernel_rfl) (by kernel_rfl) (by kernel_rfl) rfl (fun _ _ _ h => h) (fun w' hw' => by have hc0 := hw'.cell 2; go_simp) E.out.box ?_
        simp only [Act.put, List.setIfInBounds_toArray, List.set_cons_zero, List.set_cons_succ]
        refine early_take (i := 2) 39 (.int .i64 (k : Int)) rfl rfl (by kernel_rfl) (by kernel_rfl) (by kernel_rfl) (by kernel_rfl) rfl (fun _ _ _ h => h) (fun w' hw' => by go_simp) E.out.box ?_
        simp only [Act.put, List.setIfInBounds_toArray, List.set_cons_zero, List.set_cons_succ]
        refine early_take (i := 3) 40 (.pointer (some ⟨g, 0, none⟩)) rfl rfl (by kernel_rfl) (by kernel_rfl) (by kernel_rfl) (by kernel_rfl) rfl (fun _ _ _ h => h) (fun w' hw' => by go_simp) E.out.box ?_
        simp only [Act.put, List.setIfInBounds_toArray, List.set_cons_zero, List.set_cons_succ]
        refine early_only (i := 4) (by kernel_rfl) rfl (fun K hK => ?_)
        simp only [opWp, List.getElem?_toArray, List.getElem?_cons_succ, List.getElem?_cons_zero]
        go_simp
        go_at_call 34
        obtain ⟨Aq, cq, hr, hA⟩ := E.out.p.rd
        refine (take_fld g Aq cq L (12 + 5 * k) 4 _ (by omega) (by rw [HL.out, LE.out]; omega) (by rw [HL.out, LE.out]; omega) hr).mono ?_
        rintro e w7 ⟨rfl, hS⟩
        have E := Lib.hid (E.out.take hA hS rfl)
        clear hS hr hA
        have hY : fld L (12 + 5 * k) 4 < 256 ^ 4 := fld_lt L (12 + 5 * k) 4
        have EQY := Lib.hid (rowM_set L n k hlt)
        generalize hG : fld L (12 + 5 * k) 4 = Y at *
        clear hG
        refine hK _ _ (fun _ => E.out.box) ?_
        refine early_take (i := 5) 42 (.int .i64 (Y : Int)) rfl rfl (by kernel_rfl) (by kernel_rfl) (by kernel_rfl) (by kernel_rfl) rfl (fun _ _ _ h => h) (fun w' hw' => by go_simp; exact wrap_of (by omega) (by omega)) E.out.box ?_
        simp only [Act.put, List.setIfInBounds_toArray, List.set_cons_zero, List.set_cons_succ]
        refine early_take (i := 6) 43 (.pointer (some ⟨R, k * 2, none⟩)) rfl rfl (by kernel_rfl) (by kernel_rfl) (by kernel_rfl) (by kernel_rfl) rfl (fun _ _ _ h => h) (fun w' hw' => by go_simp) E.out.box ?_
        simp only [Act.put, List.setIfInBounds_toArray, List.set_cons_zero, List.set_cons_succ]
        refine early_take (i := 7) 44 (.pointer (some ⟨R, k * 2 + 1, none⟩)) rfl rfl (by kernel_rfl) (by kernel_rfl) (by kernel_rfl) (by kernel_rfl) rfl (fun _ _ _ h => h) (fun w' hw' => by go_simp) E.out.box ?_
        simp only [Act.put, List.setIfInBounds_toArray, List.set_cons_zero, List.set_cons_succ]
        have hc : w7.cell? ⟨R, k * 2 + 1, none⟩ = _ := E.out.row.cell (k * 2 + 1)
        have hfz := E.out.row.frozen (k * 2 + 1)
        obtain ⟨old, hold⟩ : ∃ v, (flat (rowM L n k)).toArray[k * 2 + 1]? = some v := row_some _ _ (by rw [rowM_len L n k hlt]; omega)
        rw [hold] at hc
        refine early_only (i := 8) (by kernel_rfl) rfl (fun K hK => ?_)
        simp only [opWp, List.getElem?_toArray, List.getElem?_cons_succ, List.getElem?_cons_zero]
        go_simp
        have E := Lib.hid (E.out.set (Y := rowE L n (k + 1)) (k * 2 + 1) (.int .i64 (Y : Int)) EQY.out)
        clear hc hfz hold
        generalize w7.setCell ⟨R, k * 2 + 1, none⟩ (.int .i64 (Y : Int)) = w8 at *
        refine hK _ _ (fun _ => E.out.box) ?_
        refine early_done (by kernel_rfl) ?_
        go_wp2_with fail
        rw [show 12 + 5 * k + 4 = 11 + 5 * (k + 1) by omega] at E
        exact ⟨⟨k + 1, by omega, by go_num, E.out⟩, by simp [intOf]; omega⟩
      · obtain rfl : k = n := by omega
        have E := Lib.hid (show Pst w wr w.heap.size g b1 P R L (11 + 5 * k) q ((z : Int) - 1) k (enUpto L k) by have := E.out; rw [rowE_all] at this; exact this)
        go_wp2_with fail
        have E := Lib.hid (E.out.drew)
        refine wp_region_early (fun w' : World => At w' P #[.int .u64 (q : Int), .int .i64 ((z : Int) - 1), .slice (some ⟨R, 0, none⟩) k k] 28) (fun _ => true) (by kernel_rfl) ?_
        change wpEarly _ _ _ _ _ _ 4 (Array.replicate 4 false) _ wr.drew
        obtain ⟨w3, hu⟩ : ∃ u, u = wr.drew := ⟨_, rfl⟩
        rw [← hu] at E ⊢
        clear hu
        refine early_take (i := 0) 46 (.int .u64 (y0 : Int)) rfl rfl (by kernel_rfl) (by kernel_rfl) (by kernel_rfl) (by kernel_rfl) rfl (fun _ _ _ h => h) (fun w' hw' => by go_simp) E.out.box ?_
        simp only [Act.put, List.setIfInBounds_toArray, List.set_cons_zero, List.set_cons_succ]
        refine early_take (i := 1) 47 (.agg #[.int .u64 (q : Int), .int .i64 ((z : Int) - 1), .slice (some ⟨R, 0, none⟩) k k]) rfl rfl (by kernel_rfl) (by kernel_rfl) (by kernel_rfl) (by kernel_rfl) rfl (fun _ _ _ h => h) (fun w' hw' => exec_load_whole (x := .tmp 8) rfl rfl hw' Try.underlying28 size28) E.out.box ?_
        simp only [Act.put, List.setIfInBounds_toArray, List.set_cons_zero, List.set_cons_succ]
        refine early_take (i := 2) 4 (.int .u64 (y0 : Int)) rfl rfl (by kernel_rfl) (by kernel_rfl) (by kernel_rfl) (by kernel_rfl) rfl (fun _ _ _ h => h) (fun w' hw' => by go_simp) E.out.box ?_
        simp only [Act.put, List.setIfInBounds_toArray, List.set_cons_zero, List.set_cons_succ]
        refine early_only (i := 3) (by kernel_rfl) rfl (fun K hK => ?_)
        simp only [opWp, List.getElem?_toArray, List.getElem?_cons_succ, List.getElem?_cons_zero]
        refine wp_store_part 28 (.tmp 5) (.tmp 47) rfl w.heap.size 0 28 #[.int .u64 0, .int .i64 0, .slice none 0 0] #[.int .u64 (q : Int), .int .i64 ((z : Int) - 1), .slice (some ⟨R, 0, none⟩) k k] rfl rfl E.out.p.res size28 (by simp) (note_all _ _ _ _ _) ?_
        intro w4 hat4 hb4
        rw [note_part] at hat4
        have NE := E.out.ne
        have NR := Lib.hid NE.2.1
        refine hK _ _ (fun _ => E.out.box.but hb4 (by omega)) ?_
        have RR := Lib.hid hat4
        have ER := Lib.hid (row_ers (E.out.row.but hb4 (by omega)) (enUpto_len L k))
        have BB := Lib.hid (E.out.p.bel.trans (hb4.below (B := w.heap.size) (fun j e => by omega) (Nat.le_of_lt E.out.p.res.lt)))
        clear hat4 hb4 NE
        refine early_done (by kernel_rfl) ?_
        go_wp2
        refine bodyPost_ret (results_slot_cell (p := 5) (u := 4) (ty := 28) rfl _ _ w.heap.size _ _ rfl RR.out Try.underlying28 size28) rfl ?_
        refine ⟨some ⟨R, 0, none⟩, ?_, ER.out, fun x e => by injection e with e; subst e; exact Nat.le_of_lt NR.out, BB.out⟩
        rw [← Y0.out, ← QQ.out, ← ZZ.out]
        rfl
end Go.Proofs.Ytmdgnglefikpjaa
