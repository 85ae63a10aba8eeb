/-
  THE WALK OF Reads: the note of bytes, as the document has it.
-/
import Derived.Test.YtmdgnglefikpjaaRds
import Derived.Deep.CutRange
import Derived.Deep.CutBlock
import Derived.Deep.DeepCutAuto
namespace Go.Proofs.Ytmdgnglefikpjaa
open Go.RowKit
set_option linter.unusedVariables false
set_option maxRecDepth 100000


theorem BB2 (w : World) (o p : Obj) : Below w.heap.size w ((w.alloc o).alloc p) := ((Below.refl _ _).alloc (Nat.le_refl _) _).alloc (by simp) _
theorem ok_step {L : List (BitVec 8)} {k X Y : Nat} {o o2 : Bool} (OO : o = true ↔ fld L 0 1 = 78 ∧ Fine (enUpto L k)) (e : enAt L k = ⟨X, Y⟩) (h : o2 = true ↔ o = true ∧ X ≤ 3 ∧ (X = 0 → Y = 0)) : o2 = true ↔ fld L 0 1 = 78 ∧ Fine (enUpto L (k + 1)) := by
  rw [h, OO, fine_next, e, and_assoc]
  rfl
theorem ok_true {L : List (BitVec 8)} {k X Y : Nat} {o2 : Bool} (base : fld L 0 1 = 78 ∧ Fine (enUpto L k)) (e : enAt L k = ⟨X, Y⟩) (h : o2 = true ↔ X ≤ 3 ∧ (X = 0 → Y = 0)) : o2 = true ↔ fld L 0 1 = 78 ∧ Fine (enUpto L (k + 1)) := by
  rw [h, fine_next, e]
  exact ⟨fun h => ⟨base.1, base.2, h⟩, fun h => h.2.2⟩
set_option maxHeartbeats 4000000 in
theorem reads_go (ab off n c m J : Nat) (L : List (BitVec 8)) (w : World) (hn : n ≤ 500000) (hc : n ≤ c) (hcm : c ≤ 9223372036854775807) (hK : J = 11 + 5 * m + 4) (hKn : J ≤ n) (h : Has w (some ⟨ab, off, none⟩) n L) :
    Calls Try.prog 15 #[(.slice (some ⟨ab, off, none⟩) n c), .int .i64 (m : Int)] w fun e w' => (¬ L.take J = sealL (L.take (11 + 5 * m)) → Answer w (Nt.zero, 5) e w') ∧ (L.take J = sealL (L.take (11 + 5 * m)) → (good L m → Answer w (note L m, 0) e w') ∧ (¬ good L m → Answer w (Nt.zero, 4) e w')) := by
  have T := Lib.hid (Rds.start w (.slice (some ⟨ab, off, none⟩) n c))
  have H := Lib.hid h
  have HL := Lib.hid h.1
  have hKi : 15 + 5 * (m : Int) = (J : Int) := by omega
  have KK := Lib.hid hK
  have K4 : (J : Int) - 4 = ((11 + 5 * m : Nat) : Int) := by omega
  obtain ⟨len, hlen⟩ : ∃ len, len = 11 + 5 * m := ⟨_, rfl⟩
  rw [← hlen] at K4 ⊢
  have LE := Lib.hid hlen
  have K4b : len ≤ n := by omega
  have f1 : decide ((m : Int) < 0) = false := decide_eq_false (by omega)
  have f2 : decide (n < m) = false := decide_eq_false (by omega)
  have f3 : decide (n < J) = false := decide_eq_false (by omega)
  clear h hK hlen
  have b0 := T.out.box.cell 0
  go_enter Try.func15, Try.ntmps15
  go_upto_region 4 with (fail)
  obtain ⟨D, hD⟩ : ∃ D : Bool, decide (L.take J = sealL (L.take len)) = D := ⟨_, rfl⟩
  have HD := Lib.hid hD
  clear hD b0

  have T := Lib.hid (T.out.drewN 1)
  have L4 := Lib.hid (show J = len + 4 by have := LE.out; have := KK.out; omega)
  refine wp_region_early (fun w' : World => At w' w.heap.size #[(.slice (some ⟨ab, off, none⟩) n c)] 30) (fun _ => true) (by kernel_rfl) ?_
  change wpEarly _ _ _ _ _ _ 10 (Array.replicate 10 false) _ ((w.alloc (.cells #[(.slice (some ⟨ab, off, none⟩) n c)] 30)).alloc (.cells #[.int .u64 0, .int .i64 0, .slice none 0 0] 28)).drew
  obtain ⟨u1, hu1⟩ : ∃ u, u = ((w.alloc (.cells #[(.slice (some ⟨ab, off, none⟩) n c)] 30)).alloc (.cells #[.int .u64 0, .int .i64 0, .slice none 0 0] 28)).drew := ⟨_, rfl⟩
  have T := Lib.hid (show Rds w u1 (.slice (some ⟨ab, off, none⟩) n c) by rw [hu1]; exact T.out)
  rw [← hu1]
  clear hu1
  refine early_take (i := 0) 34 (.slice (some ⟨ab, off, none⟩) n c) rfl rfl (by kernel_rfl) (by kernel_rfl) (by kernel_rfl) (by kernel_rfl) rfl (fun _ _ _ h => h) (fun w' hw' => by have hc0 := hw'.cell 0; go_simp) T.out.box ?_
  simp only [Act.put, List.setIfInBounds_toArray, List.set_cons_zero, List.set_cons_succ]
  refine early_take (i := 1) 35 (.int .i64 (J : Int)) rfl rfl (by kernel_rfl) (by kernel_rfl) (by kernel_rfl) (by kernel_rfl) rfl (fun _ _ _ h => h) (fun w' hw' => by go_simp) T.out.box ?_
  simp only [Act.put, List.setIfInBounds_toArray, List.set_cons_zero, List.set_cons_succ]
  refine early_take (i := 2) 36 (.slice (some ⟨ab, off, none⟩) J c) rfl rfl (by kernel_rfl) (by kernel_rfl) (by kernel_rfl) (by kernel_rfl) rfl (fun _ _ _ h => h) (fun w' hw' => by go_simp <;> (intro hlt; exact absurd hlt (by omega))) T.out.box ?_
  simp only [Act.put, List.setIfInBounds_toArray, List.set_cons_zero, List.set_cons_succ]
  refine early_take (i := 3) 37 (.slice (some ⟨ab, off, none⟩) n c) rfl rfl (by kernel_rfl) (by kernel_rfl) (by kernel_rfl) (by kernel_rfl) rfl (fun _ _ _ h => h) (fun w' hw' => by have hc0 := hw'.cell 0; go_simp) T.out.box ?_
  simp only [Act.put, List.setIfInBounds_toArray, List.set_cons_zero, List.set_cons_succ]
  refine early_take (i := 4) 38 (.int .i64 (J : Int)) rfl rfl (by kernel_rfl) (by kernel_rfl) (by kernel_rfl) (by kernel_rfl) rfl (fun _ _ _ h => h) (fun w' hw' => by go_simp) T.out.box ?_
  simp only [Act.put, List.setIfInBounds_toArray, List.set_cons_zero, List.set_cons_succ]
  refine early_take (i := 5) 39 (.int .i64 (len : Int)) rfl rfl (by kernel_rfl) (by kernel_rfl) (by kernel_rfl) (by kernel_rfl) rfl (fun _ _ _ h => h) (fun w' hw' => by go_simp; exact wrap_of (by omega) (by omega)) T.out.box ?_
  simp only [Act.put, List.setIfInBounds_toArray, List.set_cons_zero, List.set_cons_succ]
  refine early_take (i := 6) 40 (.slice (some ⟨ab, off, none⟩) len c) rfl rfl (by kernel_rfl) (by kernel_rfl) (by kernel_rfl) (by kernel_rfl) rfl (fun _ _ _ h => h) (fun w' hw' => by go_simp <;> (intro hlt; exact absurd hlt (by omega))) T.out.box ?_
  simp only [Act.put, List.setIfInBounds_toArray, List.set_cons_zero, List.set_cons_succ]
  refine early_only (i := 7) (by kernel_rfl) rfl (fun K hK => ?_)
  simp only [opWp, List.getElem?_toArray, List.getElem?_cons_succ, List.getElem?_cons_zero]
  go_simp
  go_at_call 14
  refine (sealed_any _ len c (L.take len) _ (by omega) ((H.out.below T.out.bel).take len K4b)).mono ?_
  rintro e u2 ⟨v2, rfl, hf⟩
  obtain ⟨A2, c2, rfl, _, _, _, hh, _⟩ := own_slice hf.1
  have T := Lib.hid (T.out.up hf.2)
  have H2 := Lib.hid hh
  clear hf hh
  refine hK _ _ (fun _ => T.out.box) ?_
  refine early_only (i := 8) (by kernel_rfl) rfl (fun K hK => ?_)
  simp only [opWp, List.getElem?_toArray, List.getElem?_cons_succ, List.getElem?_cons_zero]
  go_simp
  go_at_call 11
  refine (equal_any _ A2 J (len + 4) c c2 (L.take J) _ _ (by omega) (by omega) ((H.out.below T.out.bel).take J hKn) H2.out).mono ?_
  rintro e u3 ⟨rfl, k3, hw⟩
  have T := Lib.hid (show Rds w u3 (.slice (some ⟨ab, off, none⟩) n c) by rw [hw]; exact T.out.drewN k3)
  clear hw H2
  rw [HD.out]
  refine hK _ _ (fun _ => T.out.box) ?_
  refine early_take (i := 9) 43 (.bool (!D)) rfl rfl (by kernel_rfl) (by kernel_rfl) (by kernel_rfl) (by kernel_rfl) rfl (fun _ _ _ h => h) (fun w' hw' => by cases D <;> go_simp) T.out.box ?_
  simp only [Act.put, List.setIfInBounds_toArray, List.set_cons_zero, List.set_cons_succ]
  refine early_done (by kernel_rfl) ?_
  cases D with
  | false =>
    go_wp2_with (refine wpList_store_part rfl 28 (.tmp 4) (.tmp 44) rfl (w.heap.size + 1) 0 28 #[.int .u64 0, .int .i64 0, .slice none 0 0] #[.int .u64 0, .int .i64 0, .slice none 0 0] rfl rfl T.out.res size28 (by simp) (note_all 0 _ _ _ _) ?_; intro w9 hat9 hb9; have R := Lib.hid (show At w9 (w.heap.size + 1) #[.int .u64 0, .int .i64 0, .slice none 0 0] 28 from hat9); have BB := Lib.hid (T.out.done hb9); clear hat9 hb9)
    refine bodyPost_ret (results_cell_slot (p := 4) (u := 5) (ty := 28) rfl _ _ (w.heap.size + 1) #[.int .u64 0, .int .i64 0, .slice none 0 0] _ rfl R.out Try.underlying28 size28) rfl ?_
    exact ⟨fun _ => rfail_made BB.out, fun h => absurd h (of_decide_eq_false HD.out)⟩
  | true =>
    have SE := Lib.hid (of_decide_eq_true HD.out)
    clear HD
    go_upto_region 7 with (fail)
    have hq : fld L 1 8 < 18446744073709551616 := fld_lt L 1 8
    have hz : fld L 9 2 < 65536 := fld_lt L 9 2
    obtain ⟨q, hq'⟩ : ∃ y, fld L 1 8 = y := ⟨_, rfl⟩
    obtain ⟨z, hz'⟩ : ∃ y, fld L 9 2 = y := ⟨_, rfl⟩
    rw [hq'] at hq
    rw [hz'] at hz
    have QQ := Lib.hid hq'
    have ZZ := Lib.hid hz'
    clear hq' hz'
    go_cut [8, 9] (fun s8 s9 wc => ∃ (P : Nat) (o : Bool), s8 = .pointer (some ⟨P, 0, none⟩) ∧ s9 = .bool o ∧ (o = true ↔ fld L 0 1 = 78) ∧ Rdp w wc (.slice (some ⟨ab, off, none⟩) n c) P q ((z : Int) - 1) (.slice none 0 0) [])
    case first =>
      have hL0 : 0 < L.length := by rw [HL.out]; omega
      have F1 := Lib.hid (fld_one L hL0)
      obtain ⟨y, hy⟩ : ∃ y, L[0].toNat = y := ⟨_, rfl⟩
      have CY := Lib.hid (show ∀ w', Below w.heap.size w w' → w'.cell? ⟨ab, off, none⟩ = some (.int .u8 (y : Int)) from fun w' hb => by have := (H.out.below hb).cell 0 (by omega); rw [hy] at this; exact this)
      rw [hy] at F1
      have hy8 : y < 256 := by rw [← hy]; exact L[0].isLt
      obtain ⟨o, ho⟩ : ∃ o : Bool, ((y : Int) == 78) = o := ⟨_, rfl⟩
      have OO := Lib.hid (show o = true ↔ fld L 0 1 = 78 by rw [F1.out, ← ho]; simp; omega)
      clear hy hL0 F1
      have T := Lib.hid (T.out.drewN 1)
      refine wp_region_early (fun w' : World => At w' w.heap.size #[(.slice (some ⟨ab, off, none⟩) n c)] 30 ∧ w'.cell? ⟨ab, off, none⟩ = some (.int .u8 (y : Int))) (fun _ => true) (by kernel_rfl) ?_
      change wpEarly _ _ _ _ _ _ 14 (Array.replicate 14 false) _ u3.drew
      obtain ⟨u4, hu4⟩ : ∃ u, u = u3.drew := ⟨_, rfl⟩
      have T := Lib.hid (show Rds w u4 (.slice (some ⟨ab, off, none⟩) n c) by rw [hu4]; exact T.out)
      rw [← hu4]
      clear hu4
      refine early_take (i := 0) 46 (.func (.func 30) #[] #[.pointer (some ⟨w.heap.size, 0, none⟩)]) rfl rfl (by kernel_rfl) (by kernel_rfl) (by kernel_rfl) (by kernel_rfl) rfl (fun _ _ _ h => h) (fun w' hw' => by go_simp) ⟨T.out.box, CY.out _ T.out.bel⟩ ?_
      simp only [Act.put, List.setIfInBounds_toArray, List.set_cons_zero, List.set_cons_succ]
      refine early_take (i := 2) 48 (.func (.func 30) #[] #[.pointer (some ⟨w.heap.size, 0, none⟩)]) rfl rfl (by kernel_rfl) (by kernel_rfl) (by kernel_rfl) (by kernel_rfl) rfl (fun _ _ _ h => h) (fun w' hw' => by go_simp) ⟨T.out.box, CY.out _ T.out.bel⟩ ?_
      simp only [Act.put, List.setIfInBounds_toArray, List.set_cons_zero, List.set_cons_succ]
      refine early_take (i := 7) 53 (.slice (some ⟨ab, off, none⟩) n c) rfl rfl (by kernel_rfl) (by kernel_rfl) (by kernel_rfl) (by kernel_rfl) rfl (fun _ _ _ h => h) (fun w' hw' => by have hc0 := hw'.1.cell 0; go_simp) ⟨T.out.box, CY.out _ T.out.bel⟩ ?_
      simp only [Act.put, List.setIfInBounds_toArray, List.set_cons_zero, List.set_cons_succ]
      refine early_take (i := 8) 54 (.pointer (some ⟨ab, off, none⟩)) rfl rfl (by kernel_rfl) (by kernel_rfl) (by kernel_rfl) (by kernel_rfl) rfl (fun _ _ _ h => h) (fun w' hw' => by go_simp; intro h0; exact absurd h0 (by omega)) ⟨T.out.box, CY.out _ T.out.bel⟩ ?_
      simp only [Act.put, List.setIfInBounds_toArray, List.set_cons_zero, List.set_cons_succ]
      refine early_take (i := 9) 55 (.int .u8 (y : Int)) rfl rfl (by kernel_rfl) (by kernel_rfl) (by kernel_rfl) (by kernel_rfl) rfl (fun _ _ _ h => h) (fun w' hw' => by have hc0 := hw'.2; go_simp) ⟨T.out.box, CY.out _ T.out.bel⟩ ?_
      simp only [Act.put, List.setIfInBounds_toArray, List.set_cons_zero, List.set_cons_succ]
      refine early_take (i := 10) 56 (.bool o) rfl rfl (by kernel_rfl) (by kernel_rfl) (by kernel_rfl) (by kernel_rfl) rfl (fun _ _ _ h => h) (fun w' hw' => by go_simp) ⟨T.out.box, CY.out _ T.out.bel⟩ ?_
      simp only [Act.put, List.setIfInBounds_toArray, List.set_cons_zero, List.set_cons_succ]
      refine early_two (i := 1) (j := 11) (by kernel_rfl) ⟨rfl, fun K hK => ?_⟩ ⟨rfl, fun K hK => ?_⟩
      · simp only [opWp, List.getElem?_toArray, List.getElem?_cons_succ, List.getElem?_cons_zero]
        go_simp
        go_at_call 30
        refine (at_any w.heap.size _ n c L 1 8 _ (by omega) (by omega) (by omega) T.out.box (H.out.below T.out.bel)).mono ?_
        rintro e x ⟨rfl, rfl⟩
        rw [QQ.out]
        refine hK _ _ (fun _ => ⟨T.out.box, CY.out _ T.out.bel⟩) ?_
        refine early_two (i := 3) (j := 11) (by kernel_rfl) ⟨rfl, fun K hK => ?_⟩ ⟨rfl, fun K hK => ?_⟩
        · simp only [opWp, List.getElem?_toArray, List.getElem?_cons_succ, List.getElem?_cons_zero]
          go_simp
          go_at_call 30
          refine (at_any w.heap.size _ n c L 9 2 _ (by omega) (by omega) (by omega) T.out.box (H.out.below T.out.bel)).mono ?_
          rintro e x ⟨rfl, rfl⟩
          rw [ZZ.out]
          refine hK _ _ (fun _ => ⟨T.out.box, CY.out _ T.out.bel⟩) ?_
          refine early_take (i := 4) 50 (.int .i64 (z : Int)) rfl rfl (by kernel_rfl) (by kernel_rfl) (by kernel_rfl) (by kernel_rfl) rfl (fun _ _ _ h => h) (fun w' hw' => by go_simp; exact wrap_of (by omega) (by omega)) ⟨T.out.box, CY.out _ T.out.bel⟩ ?_
          simp only [Act.put, List.setIfInBounds_toArray, List.set_cons_zero, List.set_cons_succ]
          refine early_take (i := 5) 51 (.int .i64 ((z : Int) - 1)) rfl rfl (by kernel_rfl) (by kernel_rfl) (by kernel_rfl) (by kernel_rfl) rfl (fun _ _ _ h => h) (fun w' hw' => by go_simp; exact wrap_of (by omega) (by omega)) ⟨T.out.box, CY.out _ T.out.bel⟩ ?_
          simp only [Act.put, List.setIfInBounds_toArray, List.set_cons_zero, List.set_cons_succ]
          refine early_take (i := 6) 52 (.agg #[.int .u64 (q : Int), .int .i64 ((z : Int) - 1), .slice none 0 0]) rfl rfl (by kernel_rfl) (by kernel_rfl) (by kernel_rfl) (by kernel_rfl) rfl (fun _ _ _ h => h) (fun w' hw' => by go_simp) ⟨T.out.box, CY.out _ T.out.bel⟩ ?_
          simp only [Act.put, List.setIfInBounds_toArray, List.set_cons_zero, List.set_cons_succ]
          refine early_only (i := 11) (by kernel_rfl) rfl (fun K hK => ?_)
          simp only [opWp, List.getElem?_toArray, List.getElem?_cons_succ, List.getElem?_cons_zero]
          go_simp
          have NP := Lib.hid (show w.heap.size + 1 < u4.heap.size from T.out.base)
          have T := Lib.hid (T.out.up ((Below.refl _ _).alloc (Nat.le_refl _) (.cells #[.int .u64 0, .int .i64 0, .slice none 0 0] 28)))
          have ZP := Lib.hid (At.new (w := u4) (g := u4.heap.size) #[.int .u64 0, .int .i64 0, .slice none 0 0] 28 rfl)
          generalize u4.alloc (.cells #[.int .u64 0, .int .i64 0, .slice none 0 0] 28) = u5 at *
          generalize u4.heap.size = a5 at *
          refine hK _ _ (fun _ => ⟨T.out.box, CY.out _ T.out.bel⟩) ?_
          refine early_only (i := 12) (by kernel_rfl) rfl (fun K hK => ?_)
          simp only [opWp, List.getElem?_toArray, List.getElem?_cons_succ, List.getElem?_cons_zero]
          refine wp_store_part 28 (.tmp 8) (.tmp 52) rfl a5 0 28 #[.int .u64 0, .int .i64 0, .slice none 0 0] #[.int .u64 (q : Int), .int .i64 ((z : Int) - 1), .slice none 0 0] rfl rfl ZP.out size28 (by simp) (note_all _ _ _ _ _) ?_
          intro u6 hat hb
          rw [note_part] at hat
          have T := Lib.hid (T.out.but hb (fun k e => by have := NP.out; omega))
          have ZP := Lib.hid hat
          clear hat hb
          refine hK _ _ (fun _ => ⟨T.out.box, CY.out _ T.out.bel⟩) ?_
          refine early_take (i := 13) 9 (.bool o) rfl rfl (by kernel_rfl) (by kernel_rfl) (by kernel_rfl) (by kernel_rfl) rfl (fun _ _ _ h => h) (fun w' hw' => by go_simp) ⟨T.out.box, CY.out _ T.out.bel⟩ ?_
          simp only [Act.put, List.setIfInBounds_toArray, List.set_cons_zero, List.set_cons_succ]
          refine early_done (by kernel_rfl) ?_
          go_wp2_with fail
          go_meet
          exact ⟨_, _, rfl, rfl, OO.out, T.out, ZP.out, World.ownsRow_nil _ _ _ _, NP.out, by simp [Value.ownBlock]⟩
        · simp only [opWp, List.getElem?_toArray, List.getElem?_cons_succ, List.getElem?_cons_zero]
          go_simp
          have NP := Lib.hid (show w.heap.size + 1 < u4.heap.size from T.out.base)
          have T := Lib.hid (T.out.up ((Below.refl _ _).alloc (Nat.le_refl _) (.cells #[.int .u64 0, .int .i64 0, .slice none 0 0] 28)))
          have ZP := Lib.hid (At.new (w := u4) (g := u4.heap.size) #[.int .u64 0, .int .i64 0, .slice none 0 0] 28 rfl)
          generalize u4.alloc (.cells #[.int .u64 0, .int .i64 0, .slice none 0 0] 28) = u7 at *
          generalize u4.heap.size = a7 at *
          refine hK _ _ (fun _ => ⟨T.out.box, CY.out _ T.out.bel⟩) ?_
          refine early_only (i := 3) (by kernel_rfl) rfl (fun K hK => ?_)
          simp only [opWp, List.getElem?_toArray, List.getElem?_cons_succ, List.getElem?_cons_zero]
          go_simp
          go_at_call 30
          refine (at_any w.heap.size _ n c L 9 2 _ (by omega) (by omega) (by omega) T.out.box (H.out.below T.out.bel)).mono ?_
          rintro e x ⟨rfl, rfl⟩
          rw [ZZ.out]
          refine hK _ _ (fun _ => ⟨T.out.box, CY.out _ T.out.bel⟩) ?_
          refine early_take (i := 4) 50 (.int .i64 (z : Int)) rfl rfl (by kernel_rfl) (by kernel_rfl) (by kernel_rfl) (by kernel_rfl) rfl (fun _ _ _ h => h) (fun w' hw' => by go_simp; exact wrap_of (by omega) (by omega)) ⟨T.out.box, CY.out _ T.out.bel⟩ ?_
          simp only [Act.put, List.setIfInBounds_toArray, List.set_cons_zero, List.set_cons_succ]
          refine early_take (i := 5) 51 (.int .i64 ((z : Int) - 1)) rfl rfl (by kernel_rfl) (by kernel_rfl) (by kernel_rfl) (by kernel_rfl) rfl (fun _ _ _ h => h) (fun w' hw' => by go_simp; exact wrap_of (by omega) (by omega)) ⟨T.out.box, CY.out _ T.out.bel⟩ ?_
          simp only [Act.put, List.setIfInBounds_toArray, List.set_cons_zero, List.set_cons_succ]
          refine early_take (i := 6) 52 (.agg #[.int .u64 (q : Int), .int .i64 ((z : Int) - 1), .slice none 0 0]) rfl rfl (by kernel_rfl) (by kernel_rfl) (by kernel_rfl) (by kernel_rfl) rfl (fun _ _ _ h => h) (fun w' hw' => by go_simp) ⟨T.out.box, CY.out _ T.out.bel⟩ ?_
          simp only [Act.put, List.setIfInBounds_toArray, List.set_cons_zero, List.set_cons_succ]
          refine early_only (i := 12) (by kernel_rfl) rfl (fun K hK => ?_)
          simp only [opWp, List.getElem?_toArray, List.getElem?_cons_succ, List.getElem?_cons_zero]
          refine wp_store_part 28 (.tmp 8) (.tmp 52) rfl a7 0 28 #[.int .u64 0, .int .i64 0, .slice none 0 0] #[.int .u64 (q : Int), .int .i64 ((z : Int) - 1), .slice none 0 0] rfl rfl ZP.out size28 (by simp) (note_all _ _ _ _ _) ?_
          intro u8 hat hb
          rw [note_part] at hat
          have T := Lib.hid (T.out.but hb (fun k e => by have := NP.out; omega))
          have ZP := Lib.hid hat
          clear hat hb
          refine hK _ _ (fun _ => ⟨T.out.box, CY.out _ T.out.bel⟩) ?_
          refine early_take (i := 13) 9 (.bool o) rfl rfl (by kernel_rfl) (by kernel_rfl) (by kernel_rfl) (by kernel_rfl) rfl (fun _ _ _ h => h) (fun w' hw' => by go_simp) ⟨T.out.box, CY.out _ T.out.bel⟩ ?_
          simp only [Act.put, List.setIfInBounds_toArray, List.set_cons_zero, List.set_cons_succ]
          refine early_done (by kernel_rfl) ?_
          go_wp2_with fail
          go_meet
          exact ⟨_, _, rfl, rfl, OO.out, T.out, ZP.out, World.ownsRow_nil _ _ _ _, NP.out, by simp [Value.ownBlock]⟩
      · simp only [opWp, List.getElem?_toArray, List.getElem?_cons_succ, List.getElem?_cons_zero]
        go_simp
        have NP := Lib.hid (show w.heap.size + 1 < u4.heap.size from T.out.base)
        have T := Lib.hid (T.out.up ((Below.refl _ _).alloc (Nat.le_refl _) (.cells #[.int .u64 0, .int .i64 0, .slice none 0 0] 28)))
        have ZP := Lib.hid (At.new (w := u4) (g := u4.heap.size) #[.int .u64 0, .int .i64 0, .slice none 0 0] 28 rfl)
        generalize u4.alloc (.cells #[.int .u64 0, .int .i64 0, .slice none 0 0] 28) = u9 at *
        generalize u4.heap.size = a9 at *
        refine hK _ _ (fun _ => ⟨T.out.box, CY.out _ T.out.bel⟩) ?_
        refine early_only (i := 1) (by kernel_rfl) rfl (fun K hK => ?_)
        simp only [opWp, List.getElem?_toArray, List.getElem?_cons_succ, List.getElem?_cons_zero]
        go_simp
        go_at_call 30
        refine (at_any w.heap.size _ n c L 1 8 _ (by omega) (by omega) (by omega) T.out.box (H.out.below T.out.bel)).mono ?_
        rintro e x ⟨rfl, rfl⟩
        rw [QQ.out]
        refine hK _ _ (fun _ => ⟨T.out.box, CY.out _ T.out.bel⟩) ?_
        refine early_only (i := 3) (by kernel_rfl) rfl (fun K hK => ?_)
        simp only [opWp, List.getElem?_toArray, List.getElem?_cons_succ, List.getElem?_cons_zero]
        go_simp
        go_at_call 30
        refine (at_any w.heap.size _ n c L 9 2 _ (by omega) (by omega) (by omega) T.out.box (H.out.below T.out.bel)).mono ?_
        rintro e x ⟨rfl, rfl⟩
        rw [ZZ.out]
        refine hK _ _ (fun _ => ⟨T.out.box, CY.out _ T.out.bel⟩) ?_
        refine early_take (i := 4) 50 (.int .i64 (z : Int)) rfl rfl (by kernel_rfl) (by kernel_rfl) (by kernel_rfl) (by kernel_rfl) rfl (fun _ _ _ h => h) (fun w' hw' => by go_simp; exact wrap_of (by omega) (by omega)) ⟨T.out.box, CY.out _ T.out.bel⟩ ?_
        simp only [Act.put, List.setIfInBounds_toArray, List.set_cons_zero, List.set_cons_succ]
        refine early_take (i := 5) 51 (.int .i64 ((z : Int) - 1)) rfl rfl (by kernel_rfl) (by kernel_rfl) (by kernel_rfl) (by kernel_rfl) rfl (fun _ _ _ h => h) (fun w' hw' => by go_simp; exact wrap_of (by omega) (by omega)) ⟨T.out.box, CY.out _ T.out.bel⟩ ?_
        simp only [Act.put, List.setIfInBounds_toArray, List.set_cons_zero, List.set_cons_succ]
        refine early_take (i := 6) 52 (.agg #[.int .u64 (q : Int), .int .i64 ((z : Int) - 1), .slice none 0 0]) rfl rfl (by kernel_rfl) (by kernel_rfl) (by kernel_rfl) (by kernel_rfl) rfl (fun _ _ _ h => h) (fun w' hw' => by go_simp) ⟨T.out.box, CY.out _ T.out.bel⟩ ?_
        simp only [Act.put, List.setIfInBounds_toArray, List.set_cons_zero, List.set_cons_succ]
        refine early_only (i := 12) (by kernel_rfl) rfl (fun K hK => ?_)
        simp only [opWp, List.getElem?_toArray, List.getElem?_cons_succ, List.getElem?_cons_zero]
        refine wp_store_part 28 (.tmp 8) (.tmp 52) rfl a9 0 28 #[.int .u64 0, .int .i64 0, .slice none 0 0] #[.int .u64 (q : Int), .int .i64 ((z : Int) - 1), .slice none 0 0] rfl rfl ZP.out size28 (by simp) (note_all _ _ _ _ _) ?_
        intro u10 hat hb
        rw [note_part] at hat
        have T := Lib.hid (T.out.but hb (fun k e => by have := NP.out; omega))
        have ZP := Lib.hid hat
        clear hat hb
        refine hK _ _ (fun _ => ⟨T.out.box, CY.out _ T.out.bel⟩) ?_
        refine early_take (i := 13) 9 (.bool o) rfl rfl (by kernel_rfl) (by kernel_rfl) (by kernel_rfl) (by kernel_rfl) rfl (fun _ _ _ h => h) (fun w' hw' => by go_simp) ⟨T.out.box, CY.out _ T.out.bel⟩ ?_
        simp only [Act.put, List.setIfInBounds_toArray, List.set_cons_zero, List.set_cons_succ]
        refine early_done (by kernel_rfl) ?_
        go_wp2_with fail
        go_meet
        exact ⟨_, _, rfl, rfl, OO.out, T.out, ZP.out, World.ownsRow_nil _ _ _ _, NP.out, by simp [Value.ownBlock]⟩
    case rest =>
      clear T
      obtain ⟨P, o, rfl, rfl, hO, hP⟩ := hcut
      have OO := Lib.hid hO
      have RP := Lib.hid hP
      clear hO hP
      go_wp2
      go_loopw [9, 58] (fun ok i wr => ∃ (k : Nat) (o : Bool) (u : Value), k ≤ m ∧ i = .int .i64 k ∧ ok = .bool o ∧ (o = true ↔ fld L 0 1 = 78 ∧ Fine (enUpto L k)) ∧ Rdp w wr (.slice (some ⟨ab, off, none⟩) n c) P q ((z : Int) - 1) u (enUpto L k)) (fun _ i _ => m - (intOf i).toNat)
      case atStart => exact ⟨0, o, _, Nat.zero_le _, rfl, rfl, ⟨fun h => ⟨OO.out.1 h, fun x hx => (by simp [enUpto] at hx)⟩, fun h => OO.out.2 h.1⟩, RP.out⟩
      case round =>
        clear OO RP
        obtain ⟨k, o2, u, hk, rfl, rfl, hO, hP⟩ := hrel
        have OO := Lib.hid hO
        have RP := Lib.hid hP
        have HH := Lib.hid (H.out.below hP.r.bel)
        clear hO hP
        by_cases hlt : k < m
        · obtain ⟨i1, hi1⟩ : ∃ i, i = 11 + 5 * k := ⟨_, rfl⟩
          obtain ⟨i2, hi2⟩ : ∃ i, i = 12 + 5 * k := ⟨_, rfl⟩
          have e1 : 11 + 5 * (k : Int) = (i1 : Int) := by omega
          have e2 : 12 + 5 * (k : Int) = (i2 : Int) := by omega
          have hX : fld L i1 1 < 256 := fld_lt L i1 1
          have hY : fld L i2 4 < 4294967296 := fld_lt L i2 4
          have EN := Lib.hid (show enAt L k = ⟨fld L i1 1, fld L i2 4⟩ by rw [hi1, hi2]; rfl)
          have b1 : i1 + 1 ≤ n := by omega
          have b2 : i2 + 4 ≤ n := by omega
          clear hi1 hi2
          go_wp2_with fail
          refine (at_any w.heap.size _ n c L i1 1 _ (by omega) (by omega) b1 RP.out.r.box HH.out).mono ?_
          rintro e x ⟨rfl, rfl⟩
          generalize fld L i1 1 = X at *
          go_wp2_with fail
          refine (at_any w.heap.size _ n c L i2 4 _ (by omega) (by omega) b2 RP.out.r.box HH.out).mono ?_
          rintro e x ⟨rfl, rfl⟩
          generalize fld L i2 4 = Y at *
          have OW := Lib.hid (show wr.ownsRow (w.heap.size + 1 + 1) 48 2 u k (flat (enUpto L k)) by have := RP.out.own; rw [enUpto_len] at this; exact this)
          have EU := Lib.hid (show enUpto L (k + 1) = enUpto L k ++ [⟨X, Y⟩] by rw [enUpto_next, EN.out])
          have hfree : ∀ oo, (wr.alloc oo).cell? ⟨P, 2, none⟩ = some u := fun oo => (RP.out.pb.alloc oo).cell 2
          clear e1 e2 b1 b2
          cases o2 with
          | false =>
            go_wp2_with (at_builtin; refine wpList_append_ent2 rfl (.tmp 91) (.tmp 93) rfl (w.heap.size + 1 + 1) u k (enUpto L k) rfl (own_below OW.out (BB2 wr _ _)) ⟨wr.heap.size + 1, 0, none⟩ 1 1 [⟨X, Y⟩] rfl (Src.one _ (At.new _ 48 (by simp))) (by omega) (by have := RP.out.r.base; simp; omega) ?_; intro A3 c3 w3 hown3 hg3 hf3; have at3 := RP.out.after (BB2 wr _ _) hg3; have ce3 := at3.cell 2; have f3 := at3.frozen 2; have R := Lib.hid (RP.out.push (BB2 wr _ _) hown3 hg3 hf3); clear hown3 hg3 hf3 at3)
            all_goals
              have R2 := R.out
              rw [← EU.out] at R2
              exact ⟨⟨k + 1, _, _, by omega, by go_num, rfl, ok_step OO.out EN.out (by simp; try omega), R2⟩, by simp [intOf]; omega⟩
          | true =>
            have BASE := Lib.hid (show fld L 0 1 = 78 ∧ Fine (enUpto L k) from OO.out.1 rfl)
            clear OO
            by_cases hX0 : X = 0
            · subst hX0
              by_cases hY0 : Y = 0
              · subst hY0
                go_wp2_with (at_builtin; refine wpList_append_ent2 rfl (.tmp 91) (.tmp 93) rfl (w.heap.size + 1 + 1) u k (enUpto L k) rfl (own_below OW.out (BB2 wr _ _)) ⟨wr.heap.size + 1, 0, none⟩ 1 1 [⟨0, 0⟩] rfl (Src.one _ (At.new _ 48 (by simp))) (by omega) (by have := RP.out.r.base; simp; omega) ?_; intro A3 c3 w3 hown3 hg3 hf3; have at3 := RP.out.after (BB2 wr _ _) hg3; have ce3 := at3.cell 2; have f3 := at3.frozen 2; have R := Lib.hid (RP.out.push (BB2 wr _ _) hown3 hg3 hf3); clear hown3 hg3 hf3 at3)
                all_goals
                  have R2 := R.out
                  rw [← EU.out] at R2
                  exact ⟨⟨k + 1, _, _, by omega, by go_num, rfl, ok_true BASE.out EN.out (by simp), R2⟩, by simp [intOf]; omega⟩
              · have hd : ((Y : Int) == 0) = false := by simpa using hY0
                go_wp2_with (at_builtin; refine wpList_append_ent2 rfl (.tmp 91) (.tmp 93) rfl (w.heap.size + 1 + 1) u k (enUpto L k) rfl (own_below OW.out (BB2 wr _ _)) ⟨wr.heap.size + 1, 0, none⟩ 1 1 [⟨0, Y⟩] rfl (Src.one _ (At.new _ 48 (by simp))) (by omega) (by have := RP.out.r.base; simp; omega) ?_; intro A3 c3 w3 hown3 hg3 hf3; have at3 := RP.out.after (BB2 wr _ _) hg3; have ce3 := at3.cell 2; have f3 := at3.frozen 2; have R := Lib.hid (RP.out.push (BB2 wr _ _) hown3 hg3 hf3); clear hown3 hg3 hf3 at3)
                all_goals
                  have R2 := R.out
                  rw [← EU.out] at R2
                  exact ⟨⟨k + 1, _, _, by omega, by go_num, rfl, ok_true BASE.out EN.out (by simp; try omega), R2⟩, by simp [intOf]; omega⟩
            · have g1 : decide (0 < (X : Int)) = true := decide_eq_true (by omega)
              by_cases hX4 : X < 4
              · have g2 : decide ((X : Int) < 4) = true := decide_eq_true (by omega)
                go_wp2_with (at_builtin; refine wpList_append_ent2 rfl (.tmp 91) (.tmp 93) rfl (w.heap.size + 1 + 1) u k (enUpto L k) rfl (own_below OW.out (BB2 wr _ _)) ⟨wr.heap.size + 1, 0, none⟩ 1 1 [⟨X, Y⟩] rfl (Src.one _ (At.new _ 48 (by simp))) (by omega) (by have := RP.out.r.base; simp; omega) ?_; intro A3 c3 w3 hown3 hg3 hf3; have at3 := RP.out.after (BB2 wr _ _) hg3; have ce3 := at3.cell 2; have f3 := at3.frozen 2; have R := Lib.hid (RP.out.push (BB2 wr _ _) hown3 hg3 hf3); clear hown3 hg3 hf3 at3)
                all_goals
                  have R2 := R.out
                  rw [← EU.out] at R2
                  exact ⟨⟨k + 1, _, _, by omega, by go_num, rfl, ok_true BASE.out EN.out (by simp; try omega), R2⟩, by simp [intOf]; omega⟩
              · have g2 : decide ((X : Int) < 4) = false := decide_eq_false (by omega)
                go_wp2_with (at_builtin; refine wpList_append_ent2 rfl (.tmp 91) (.tmp 93) rfl (w.heap.size + 1 + 1) u k (enUpto L k) rfl (own_below OW.out (BB2 wr _ _)) ⟨wr.heap.size + 1, 0, none⟩ 1 1 [⟨X, Y⟩] rfl (Src.one _ (At.new _ 48 (by simp))) (by omega) (by have := RP.out.r.base; simp; omega) ?_; intro A3 c3 w3 hown3 hg3 hf3; have at3 := RP.out.after (BB2 wr _ _) hg3; have ce3 := at3.cell 2; have f3 := at3.frozen 2; have R := Lib.hid (RP.out.push (BB2 wr _ _) hown3 hg3 hf3); clear hown3 hg3 hf3 at3)
                all_goals
                  have R2 := R.out
                  rw [← EU.out] at R2
                  exact ⟨⟨k + 1, _, _, by omega, by go_num, rfl, ok_true BASE.out EN.out (by simp; try omega), R2⟩, by simp [intOf]; omega⟩
        · obtain rfl : m = k := by omega
          clear hlt
          obtain ⟨A5, c5, rfl, hE5, hA5⟩ := Ers.of_own (show wr.ownsRow (w.heap.size + 1 + 1) 48 2 u m (flat (enUpto L m)) by have := RP.out.own; rw [enUpto_len] at this; exact this)
          have E5 := Lib.hid hE5
          have A5h := Lib.hid (show 0 < m → ∀ x, A5 = some x → ¬ x.block = w.heap.size + 1 from fun _ x e => by have := hA5 x e; omega)
          clear hE5 hA5
          have T := Lib.hid RP.out.r
          have b0 := T.out.box.cell 0
          by_cases hck : c = J
          · subst hck
            obtain rfl : n = c := by omega
            have ED := Lib.hid (show L.drop n = [] from List.drop_of_length_le (by rw [HL.out]; omega))
            go_wp2_with fail
            go_loop [9, 101] (fun ok i => ∃ (j : Nat) (o : Bool), j ≤ 0 ∧ i = .int .i64 j ∧ ok = .bool o ∧ (o = true ↔ (fld L 0 1 = 78 ∧ Fine (enUpto L m)) ∧ None0 ((L.drop n).take j))) (fun _ i => 0 - (intOf i).toNat)
            case atStart => exact ⟨0, o2, Nat.zero_le _, rfl, rfl, ⟨fun h => ⟨OO.out.1 h, fun x hx => (by simp at hx)⟩, fun h => OO.out.2 h.1⟩⟩
            case round =>
              obtain ⟨j, o, hj, rfl, rfl, hO⟩ := hrel
              have ON := Lib.hid hO
              clear hO
              obtain rfl : j = 0 := by omega
              have NN := Lib.hid (show None0 (L.drop n) ↔ None0 ((L.drop n).take 0) by rw [ED.out, List.take_nil])
              cases o with
              | false =>
                have NG := Lib.hid (show ¬ good L m from fun hg => by have := ON.out.2 ⟨⟨hg.1, hg.2.1⟩, NN.out.1 (by have := hg.2.2; rw [show 15 + 5 * m = n by omega] at this; exact this)⟩; cases this)
                clear ON NN
                go_wp2_with (refine wpList_store_part rfl 28 (.tmp 4) (.tmp 113) rfl (w.heap.size + 1) 0 28 #[.int .u64 0, .int .i64 0, .slice none 0 0] #[.int .u64 0, .int .i64 0, .slice none 0 0] rfl rfl T.out.res size28 (by simp) (note_all 0 _ _ _ _) ?_; intro w9 hat9 hb9; have R := Lib.hid (show At w9 (w.heap.size + 1) #[.int .u64 0, .int .i64 0, .slice none 0 0] 28 from hat9); have BB := Lib.hid (T.out.done hb9); clear hat9 hb9)
                refine bodyPost_ret (results_cell_slot (p := 4) (u := 5) (ty := 28) rfl _ _ (w.heap.size + 1) #[.int .u64 0, .int .i64 0, .slice none 0 0] _ rfl R.out Try.underlying28 size28) rfl ?_
                exact ⟨fun h => absurd SE.out h, fun _ => ⟨fun hg => (NG.out hg).elim, fun _ => rfail_made BB.out⟩⟩
              | true =>
                have GG := Lib.hid (show good L m from ⟨(ON.out.1 rfl).1.1, (ON.out.1 rfl).1.2, by rw [show 15 + 5 * m = n by omega]; exact NN.out.2 (ON.out.1 rfl).2⟩)
                clear ON NN
                have d0 := RP.out.pb.cell 0; have d1 := RP.out.pb.cell 1; have d2 := RP.out.pb.cell 2
                go_wp2_with (refine wpList_store_part rfl 28 (.tmp 4) (.tmp 114) rfl (w.heap.size + 1) 0 28 #[.int .u64 0, .int .i64 0, .slice none 0 0] (#[.int .u64 (q : Int), .int .i64 ((z : Int) - 1), .slice A5 m c5] : Array Value) rfl rfl T.out.res size28 (by simp) (note_all _ _ _ _ _) ?_; intro w9 hat9 hb9; rw [note_part] at hat9; have R := Lib.hid hat9; have BB := Lib.hid (T.out.done hb9); have ER := Lib.hid (E5.out.but hb9 (fun h0 x hx => A5h.out h0 x hx)); clear hat9 hb9)
                refine bodyPost_ret (results_cell_slot (p := 4) (u := 5) (ty := 28) rfl _ _ (w.heap.size + 1) (#[.int .u64 (q : Int), .int .i64 ((z : Int) - 1), .slice A5 m c5] : Array Value) _ rfl R.out Try.underlying28 size28) rfl ?_
                refine ⟨fun h => absurd SE.out h, fun _ => ⟨fun _ => ⟨A5, c5, ?_, ?_, BB.out⟩, fun hg => (hg GG.out).elim⟩⟩
                · rw [show (note L m).es.length = m from enUpto_len L m, show (note L m).q = q from QQ.out, show (note L m).z = (z : Int) - 1 by show (fld L 9 2 : Int) - 1 = _; rw [ZZ.out]]
                  rfl
                · rw [show (note L m).es.length = m from enUpto_len L m]
                  exact ER.out
          · have hcn : ¬ c - J = 0 := by omega
            have HD2 := Lib.hid (HH.out.drop J hKn)
            go_wp2_with fail
            go_loop [9, 101] (fun ok i => ∃ (j : Nat) (o : Bool), j ≤ (n - J) ∧ i = .int .i64 j ∧ ok = .bool o ∧ (o = true ↔ (fld L 0 1 = 78 ∧ Fine (enUpto L m)) ∧ None0 ((L.drop J).take j))) (fun _ i => (n - J) - (intOf i).toNat)
            case atStart => exact ⟨0, o2, Nat.zero_le _, rfl, rfl, ⟨fun h => ⟨OO.out.1 h, fun x hx => (by simp at hx)⟩, fun h => OO.out.2 h.1⟩⟩
            case round =>
              obtain ⟨j, o, hj, rfl, rfl, hO⟩ := hrel
              have ON := Lib.hid hO
              clear hO
              by_cases hlt : j < n - J
              · have hjl : j < (L.drop J).length := by rw [HD2.out.1]; exact hlt
                have hcj : wr.cell? ⟨ab, off + J + j, none⟩ = some (.int .u8 ((L.drop J)[j].toNat : Int)) := HD2.out.cell j hlt
                have NX := Lib.hid (none0_next (L.drop J) j hjl)
                obtain ⟨x, hx⟩ : ∃ x, (L.drop J)[j] = x := ⟨_, rfl⟩
                rw [hx] at hcj NX
                clear hx hjl
                cases o with
                | false =>
                  have NO := Lib.hid (show ¬ ((fld L 0 1 = 78 ∧ Fine (enUpto L m)) ∧ None0 ((L.drop J).take (j + 1))) from fun h => by have := ON.out.2 ⟨h.1, (NX.out.1 h.2).1⟩; cases this)
                  clear ON NX
                  go_wp2_with fail
                  go_round
                  case rel => exact ⟨j + 1, false, by omega, by go_num, rfl, ⟨fun h => (by cases h), fun h => (NO.out h).elim⟩⟩
                  case measure => simp [intOf]; omega
                | true =>
                  have YE := Lib.hid (ON.out.1 rfl)
                  clear ON
                  by_cases hx0 : x = 0#8
                  · have he : ((x.toNat : Int) == 0) = true := by rw [hx0]; rfl
                    have NY := Lib.hid (NX.out.2 ⟨YE.out.2, hx0⟩)
                    clear NX hx0
                    go_wp2_with fail
                    go_round
                    case rel => exact ⟨j + 1, true, by omega, by go_num, rfl, ⟨fun h => ⟨YE.out.1, NY.out⟩, fun h => rfl⟩⟩
                    case measure => simp [intOf]; omega
                  · have he : ((x.toNat : Int) == 0) = false := by simp; intro e; exact hx0 (BitVec.eq_of_toNat_eq e)
                    have NO := Lib.hid (show ¬ None0 ((L.drop J).take (j + 1)) from fun h => hx0 (NX.out.1 h).2)
                    clear NX hx0
                    go_wp2_with fail
                    go_round
                    case rel => exact ⟨j + 1, false, by omega, by go_num, rfl, ⟨fun h => (by cases h), fun h => (NO.out h.2).elim⟩⟩
                    case measure => simp [intOf]; omega
              · obtain rfl : j = n - J := by omega
                have NN := Lib.hid (show None0 (L.drop J) ↔ None0 ((L.drop J).take (n - J)) by rw [List.take_of_length_le (by rw [HD2.out.1]; exact Nat.le_refl _)])
                cases o with
                | false =>
                  have NG := Lib.hid (show ¬ good L m from fun hg => by have := ON.out.2 ⟨⟨hg.1, hg.2.1⟩, NN.out.1 (by have := hg.2.2; rw [show 15 + 5 * m = J by omega] at this; exact this)⟩; cases this)
                  clear ON NN
                  go_wp2_with (refine wpList_store_part rfl 28 (.tmp 4) (.tmp 113) rfl (w.heap.size + 1) 0 28 #[.int .u64 0, .int .i64 0, .slice none 0 0] #[.int .u64 0, .int .i64 0, .slice none 0 0] rfl rfl T.out.res size28 (by simp) (note_all 0 _ _ _ _) ?_; intro w9 hat9 hb9; have R := Lib.hid (show At w9 (w.heap.size + 1) #[.int .u64 0, .int .i64 0, .slice none 0 0] 28 from hat9); have BB := Lib.hid (T.out.done hb9); clear hat9 hb9)
                  refine bodyPost_ret (results_cell_slot (p := 4) (u := 5) (ty := 28) rfl _ _ (w.heap.size + 1) #[.int .u64 0, .int .i64 0, .slice none 0 0] _ rfl R.out Try.underlying28 size28) rfl ?_
                  exact ⟨fun h => absurd SE.out h, fun _ => ⟨fun hg => (NG.out hg).elim, fun _ => rfail_made BB.out⟩⟩
                | true =>
                  have GG := Lib.hid (show good L m from ⟨(ON.out.1 rfl).1.1, (ON.out.1 rfl).1.2, by rw [show 15 + 5 * m = J by omega]; exact NN.out.2 (ON.out.1 rfl).2⟩)
                  clear ON NN
                  have d0 := RP.out.pb.cell 0; have d1 := RP.out.pb.cell 1; have d2 := RP.out.pb.cell 2
                  go_wp2_with (refine wpList_store_part rfl 28 (.tmp 4) (.tmp 114) rfl (w.heap.size + 1) 0 28 #[.int .u64 0, .int .i64 0, .slice none 0 0] (#[.int .u64 (q : Int), .int .i64 ((z : Int) - 1), .slice A5 m c5] : Array Value) rfl rfl T.out.res size28 (by simp) (note_all _ _ _ _ _) ?_; intro w9 hat9 hb9; rw [note_part] at hat9; have R := Lib.hid hat9; have BB := Lib.hid (T.out.done hb9); have ER := Lib.hid (E5.out.but hb9 (fun h0 x hx => A5h.out h0 x hx)); clear hat9 hb9)
                  refine bodyPost_ret (results_cell_slot (p := 4) (u := 5) (ty := 28) rfl _ _ (w.heap.size + 1) (#[.int .u64 (q : Int), .int .i64 ((z : Int) - 1), .slice A5 m c5] : Array Value) _ rfl R.out Try.underlying28 size28) rfl ?_
                  refine ⟨fun h => absurd SE.out h, fun _ => ⟨fun _ => ⟨A5, c5, ?_, ?_, BB.out⟩, fun hg => (hg GG.out).elim⟩⟩
                  · rw [show (note L m).es.length = m from enUpto_len L m, show (note L m).q = q from QQ.out, show (note L m).z = (z : Int) - 1 by show (fld L 9 2 : Int) - 1 = _; rw [ZZ.out]]
                    rfl
                  · rw [show (note L m).es.length = m from enUpto_len L m]
                    exact ER.out

theorem reads_any (A : Option Addr) (n c : Nat) (L : List (BitVec 8)) (s : Int) (w : World) (hn : n ≤ 500000) (hc : n ≤ c) (hcm : c ≤ maxLen) (hs : -9223372036854775808 ≤ s ∧ s ≤ 9223372036854775807) (h : Has w A n L) :
    Calls Try.prog 15 #[.slice A n c, .int .i64 s] w (Answer w (dec L s)) := by
  have hl := h.1
  by_cases hr : Room L s
  · have hr' := hr
    obtain ⟨h0, h1⟩ := hr'
    obtain ⟨m, rfl⟩ := Int.eq_ofNat_of_zero_le h0
    rw [hl] at h1
    obtain ⟨ab, off, rfl⟩ := h.some_ (by omega)
    refine (reads_go ab off n c m (11 + 5 * m + 4) L w hn hc hcm rfl (by omega) h).mono fun e w' hh => ?_
    rw [sealed_iff L (11 + 5 * m) (by rw [hl]; omega)] at hh
    by_cases hs : Crc.held (L.drop (11 + 5 * m)) 4 = Crc.sum (L.take (11 + 5 * m))
    · by_cases hg : good L m
      · rw [dec_good hr hs hg]
        exact (hh.2 hs).1 hg
      · rw [dec_bad hr hs hg]
        exact (hh.2 hs).2 hg
    · rw [dec_sum hr hs]
      exact hh.1 hs
  · rw [dec_size hr]
    refine reads_size A n c s w hn ?_ hs
    rw [← hl]
    exact hr
end Go.Proofs.Ytmdgnglefikpjaa
