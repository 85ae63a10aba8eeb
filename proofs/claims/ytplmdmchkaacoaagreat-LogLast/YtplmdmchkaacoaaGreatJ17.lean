/-
  TEXTS JOINED: New.
-/
import Derived.Test.YtplmdmchkaacoaaGreatJ16

/-
  THE WALK OF THE LAW'S New.
-/
namespace Go.Proofs.YtplmdmchkaacoaaGreat
open Go.RowKit Go.Maps
set_option linter.unusedVariables false
set_option maxRecDepth 100000

/-- 'append' of one value to a row of the call's own, as one operation. -/
theorem wp_append_one {w : World} {o : Oper} {a : Act} {K : Act → World → Prop} {Q : Exit → Act → World → Prop} {t e : TypeId} {z y : Value} {by_ : Nat} (s x : Operand)
    (ho : o.op = .call { callee := .builtin .append, args := #[s, x], argTypes := #[t, t] }) (ht : Tryz.prog.underlying t = some (.slice e)) (hi : (Tryz.prog.info? e).map (fun i => (i.zero, i.size, i.bytes)) = some (some z, 1, by_)) (hz : z.cells.size = 1) (hy : y.oneCell' = true) (h16 : by_ ≤ 16)
    (base : Nat) (v : Value) (xs : List Value) (n : Nat) (hs : a.eval s = v) (hown : w.ownsRow base e 1 v n xs) (g : Nat) (hx : a.eval x = .slice (some ⟨g, 0, none⟩) 1 1) (hg : w.cell? ⟨g, 0, none⟩ = some y) (hn : n ≤ 100) (hbase : base ≤ w.heap.size)
    (h : ∀ A cap w', w'.ownsRow base e 1 (.slice A (n + 1) cap) (n + 1) (xs ++ [y]) → w.grownBy w' v.ownBlock → (∀ k, (Value.slice A (n + 1) cap).ownBlock = some k → v.ownBlock = some k ∨ w.heap.size ≤ k) → K (a.put o.dst (.slice A (n + 1) cap)) w') :
    Oper.wp Tryz.prog o a w K Q := by
  obtain ⟨A, cap, w', hr, h2, h3, h4⟩ := append_run (w := w) o.type ht hi hz hy h16 base v xs n hown g hg hn hbase
  unfold Oper.wp execOp
  simp only [ho, resolve, invoke, builtin, Sem.run_bind, Sem.run_pure, Result.andThen_ok, List.map_toArray, List.map_cons, List.map_nil, hs, hx, hr]
  exact h A cap w' h2 h3 h4
theorem rc_one (M : Nat) (b g s n l : Int) (p : Nat) (v nv a : Value) : (rcells M b g s n l p v nv a).size = 10 := rfl

set_option maxHeartbeats 3200000 in
theorem New_any (M : Nat) (b g s n l : Int) (hs : Small (M : Int) b g s n l) (w : World) : Calls Tryz.prog 45 #[sv (M : Int) b g s n l] w fun e w' =>
    ∃ R q cap P O S z, e = .returned (.tuple #[ptr R, .bool true]) ∧ Sys w.heap.size w w' R q cap P O (AS.init M b g s n l S z) ∧ (S : Int) = 1 + 2 * pgs b g l + g * s ∧ (z : Int) = b := by
  have HS := Lib.hid hs
  have hM := hs.hm
  have hM5 : M ≤ 5 ∧ 3 ≤ M := by omega
  have hp0 : 0 < pgs b g l ∧ pgs b g l ≤ 500000 := pgs_bounds b g l (by have := hs.hb; omega) (by have := hs.hg; omega) (by have := hs.hl; omega)
  have hgs : 0 ≤ g * s ∧ g * s ≤ 18 := by
    have h1 := hs.hg
    have h2 := hs.hs
    rcases (show s = 2 ∨ s = 3 by omega) with e | e <;> rw [e] <;> omega
  obtain ⟨S, hS⟩ : ∃ S : Nat, (S : Int) = 1 + 2 * pgs b g l + g * s := ⟨(1 + 2 * pgs b g l + g * s).toNat, by omega⟩
  obtain ⟨z, hz⟩ : ∃ z : Nat, (z : Int) = b := ⟨b.toNat, by have := hs.hb; omega⟩
  have HP0 := Lib.hid hp0
  have HSS := Lib.hid hS
  have HZ := Lib.hid hz
  have SM := Lib.hid (show S ≤ 1000000000 ∧ z ≤ 1000000 by have := hs.hb; omega)
  have hf := field_shape
  obtain ⟨W, hW⟩ : ∃ W, W = w.alloc (.cells #[.int .i64 (M : Int), .int .i64 b, .int .i64 g, .int .i64 s, .int .i64 n, .int .i64 l] 27) := ⟨_, rfl⟩
  have BX := Lib.hid (show At W w.heap.size #[.int .i64 (M : Int), .int .i64 b, .int .i64 g, .int .i64 s, .int .i64 n, .int .i64 l] 27 by rw [hW]; exact At.new _ 27 rfl)
  have B0 := Lib.hid (show Below w.heap.size w W by rw [hW]; exact (Below.refl _ _).alloc (Nat.le_refl _) _)
  have Z0 := Lib.hid (show W.heap.size = w.heap.size + 1 by rw [hW]; simp)
  have HW := Lib.hid hW
  clear hs hp0 hgs hS hz hW
  unfold sv
  go_enter Tryz.func45, Tryz.ntmps45
  go_wp2_with fail
  rw [← HW.out]
  have S0 : (fun w' : World => At w' w.heap.size #[.int .i64 (M : Int), .int .i64 b, .int .i64 g, .int .i64 s, .int .i64 n, .int .i64 l] 27) W.drew := BX.out
  refine wp_region_early (fun w' : World => At w' w.heap.size #[.int .i64 (M : Int), .int .i64 b, .int .i64 g, .int .i64 s, .int .i64 n, .int .i64 l] 27) (fun _ => true) (by kernel_rfl) ?_
  change wpEarly _ _ _ _ _ _ 5 (Array.replicate 5 false) _ W.drew
  refine early_take (i := 0) 7 (.agg #[.int .i64 (M : Int), .int .i64 b, .int .i64 g, .int .i64 s, .int .i64 n, .int .i64 l]) rfl rfl (by kernel_rfl) (by kernel_rfl) (by kernel_rfl) (by kernel_rfl) rfl (fun _ _ _ h => h) (fun w' hw' => exec_load_whole (x := .tmp 1) rfl rfl hw' Tryz.underlying27 shape_size) S0 ?_
  simp only [Act.put, List.setIfInBounds_toArray, List.set_cons_zero, List.set_cons_succ]
  refine early_only (i := 1) (by kernel_rfl) rfl (fun K hK => ?_)
  simp only [opWp, List.getElem?_toArray, List.getElem?_cons_succ, List.getElem?_cons_zero]
  go_simp
  go_at_call 97
  refine (new_any (-1) W.drew).mono ?_
  rintro e w1 ⟨rfl, hw1⟩
  have hsz : W.drew.heap.size = w.heap.size + 1 := Z0.out
  rw [hsz]
  have belp : Below w.heap.size w w1 := by rw [hw1]; exact (show Below w.heap.size w W.drew from ⟨B0.out.os, B0.out.tape, B0.out.output, B0.out.size, B0.out.block⟩).alloc B0.out.size _
  have S1 : (fun w' : World => At w' w.heap.size #[.int .i64 (M : Int), .int .i64 b, .int .i64 g, .int .i64 s, .int .i64 n, .int .i64 l] 27) w1 := by rw [hw1]; exact S0.alloc _
  have P1 := Lib.hid (show Pw w1 (w.heap.size + 1) 0 (-1) by rw [hw1, ← hsz]; exact At.new _ 147 rfl)
  have B1 := Lib.hid belp
  have Z1 := Lib.hid (show w1.heap.size = w.heap.size + 1 + 1 by rw [hw1]; simp; exact hsz)
  clear hw1 hsz belp
  refine hK _ _ (fun _ => S1) ?_
  refine early_take (i := 2) 9 (.agg (rcells M b g s n l (w.heap.size + 1) (.slice none 0 0) (.pointer none) (.pointer none))) rfl rfl (by kernel_rfl) (by kernel_rfl) (by kernel_rfl) (by kernel_rfl) rfl (fun _ _ _ h => h) (fun w' hw' => by go_simp; rfl) S1 ?_
  simp only [Act.put, List.setIfInBounds_toArray, List.set_cons_zero, List.set_cons_succ]
  refine early_only (i := 3) (by kernel_rfl) rfl (fun K hK => ?_)
  simp only [opWp, List.getElem?_toArray, List.getElem?_cons_succ, List.getElem?_cons_zero]
  unfold rcells
  go_simp
  rw [Z1.out]
  have sz1 := Z1.out
  have bel2 : Below w1.heap.size w1 (w1.alloc (.cells #[.int .i64 (M : Int), .int .i64 b, .int .i64 g, .int .i64 s, .int .i64 n, .int .i64 l, ptr (w.heap.size + 1), .slice none 0 0, .pointer none, .pointer none] 86)) := (Below.refl _ _).alloc (Nat.le_refl _) _
  have S2 : (fun w' : World => At w' w.heap.size #[.int .i64 (M : Int), .int .i64 b, .int .i64 g, .int .i64 s, .int .i64 n, .int .i64 l] 27) (w1.alloc (.cells #[.int .i64 (M : Int), .int .i64 b, .int .i64 g, .int .i64 s, .int .i64 n, .int .i64 l, ptr (w.heap.size + 1), .slice none 0 0, .pointer none, .pointer none] 86)) := At.below S1 bel2 (by rw [sz1]; omega)
  have P2 := Lib.hid (show Pw (w1.alloc (.cells #[.int .i64 (M : Int), .int .i64 b, .int .i64 g, .int .i64 s, .int .i64 n, .int .i64 l, ptr (w.heap.size + 1), .slice none 0 0, .pointer none, .pointer none] 86)) (w.heap.size + 1) 0 (-1) from At.below P1.out bel2 (At.lt P1.out))
  have R2 := Lib.hid (show At (w1.alloc (.cells #[.int .i64 (M : Int), .int .i64 b, .int .i64 g, .int .i64 s, .int .i64 n, .int .i64 l, ptr (w.heap.size + 1), .slice none 0 0, .pointer none, .pointer none] 86)) (w.heap.size + 1 + 1) #[.int .i64 (M : Int), .int .i64 b, .int .i64 g, .int .i64 s, .int .i64 n, .int .i64 l, ptr (w.heap.size + 1), .slice none 0 0, .pointer none, .pointer none] 86 from At.new _ 86 sz1)
  have B2 := Lib.hid (B1.out.trans (bel2.mono B1.out.size))
  have Z2 := Lib.hid (show (w1.alloc (.cells #[.int .i64 (M : Int), .int .i64 b, .int .i64 g, .int .i64 s, .int .i64 n, .int .i64 l, ptr (w.heap.size + 1), .slice none 0 0, .pointer none, .pointer none] 86)).heap.size = w.heap.size + 1 + 1 + 1 by simp [sz1])
  clear bel2 sz1
  refine hK _ _ (fun _ => S2) ?_
  refine early_take (i := 4) 4 (ptr (w.heap.size + 1 + 1)) rfl rfl (by kernel_rfl) (by kernel_rfl) (by kernel_rfl) (by kernel_rfl) rfl (fun _ _ _ h => h) (fun w' hw' => by go_simp) S2 ?_
  simp only [Act.put, List.setIfInBounds_toArray, List.set_cons_zero, List.set_cons_succ]
  refine early_done (by kernel_rfl) ?_
  generalize w1.alloc (.cells #[.int .i64 (M : Int), .int .i64 b, .int .i64 g, .int .i64 s, .int .i64 n, .int .i64 l, ptr (w.heap.size + 1), .slice none 0 0, .pointer none, .pointer none] 86) = V at *
  have X2 := Lib.hid S2
  clear S0 S1 S2 P1 B1 Z1 BX B0 Z0
  have r6 := R2.out.cell 6
  have r8 := R2.out.cell 8
  have f8 := R2.out.frozen 8
  go_wp2_with fail
  refine (new_nv (w.heap.size + 1) V (by have := Z2.out; omega)).mono ?_
  rintro e w3 ⟨rfl, hn, hb⟩
  rw [Z2.out] at hn
  have N3 := Lib.hid hn
  have X3 := Lib.hid (X2.out.below hb X2.out.lt)
  have P3 := Lib.hid (show Pw w3 (w.heap.size + 1) 0 (-1) from At.below P2.out hb (At.lt P2.out))
  have R3 := Lib.hid (R2.out.below hb R2.out.lt)
  have B3 := Lib.hid (B2.out.trans (hb.mono B2.out.size))
  clear hn hb r6 r8 f8 X2 P2 R2 B2
  rw [Z2.out]
  have r8 := R3.out.cell 8
  have f8 := R3.out.frozen 8
  go_wp2_with fail
  have b8 := (But.own w3 (w.heap.size + 1 + 1) 8 (ptr (w.heap.size + 1 + 1 + 1))).drew
  have S4 : (fun w' : World => At w' w.heap.size #[.int .i64 (M : Int), .int .i64 b, .int .i64 g, .int .i64 s, .int .i64 n, .int .i64 l] 27 ∧ At w' (w.heap.size + 1 + 1) (rcells M b g s n l (w.heap.size + 1) (.slice none 0 0) (ptr (w.heap.size + 1 + 1 + 1)) (.pointer none)) 86) (w3.setCell ⟨w.heap.size + 1 + 1, 8, none⟩ (ptr (w.heap.size + 1 + 1 + 1))).drew := ⟨X3.out.but b8 (fun e => by have e' : w.heap.size = w.heap.size + 1 + 1 := e; omega), R3.out.set 8 _⟩
  have P4 := Lib.hid (show Pw (w3.setCell ⟨w.heap.size + 1 + 1, 8, none⟩ (ptr (w.heap.size + 1 + 1 + 1))).drew (w.heap.size + 1) 0 (-1) from At.but P3.out b8 (fun e => by have e' : w.heap.size + 1 = w.heap.size + 1 + 1 := e; omega))
  have N4 := Lib.hid (show Nv (w3.setCell ⟨w.heap.size + 1 + 1, 8, none⟩ (ptr (w.heap.size + 1 + 1 + 1))).drew (w.heap.size + 1 + 1 + 1) (w.heap.size + 1) noRoot (.slice none 0 0) 0 from At.but N3.out b8 (fun e => by have e' : w.heap.size + 1 + 1 + 1 = w.heap.size + 1 + 1 := e; omega))
  have B4 := Lib.hid (show Below w.heap.size w (w3.setCell ⟨w.heap.size + 1 + 1, 8, none⟩ (ptr (w.heap.size + 1 + 1 + 1))).drew from B3.out.trans (b8.below (fun k e => by have e' : k = w.heap.size + 1 + 1 := e; omega) B3.out.size))
  refine wp_region_early (fun w' : World => At w' w.heap.size #[.int .i64 (M : Int), .int .i64 b, .int .i64 g, .int .i64 s, .int .i64 n, .int .i64 l] 27 ∧ At w' (w.heap.size + 1 + 1) (rcells M b g s n l (w.heap.size + 1) (.slice none 0 0) (ptr (w.heap.size + 1 + 1 + 1)) (.pointer none)) 86) (fun _ => true) (by kernel_rfl) ?_
  change wpEarly _ _ _ _ _ _ 7 (Array.replicate 7 false) _ (w3.setCell ⟨w.heap.size + 1 + 1, 8, none⟩ (ptr (w.heap.size + 1 + 1 + 1))).drew
  generalize (w3.setCell ⟨w.heap.size + 1 + 1, 8, none⟩ (ptr (w.heap.size + 1 + 1 + 1))).drew = V4 at *
  clear b8 r8 f8 N3 X3 P3 R3 B3
  refine early_take (i := 0) 19 (ptr (w.heap.size + 1 + 1)) rfl rfl (by kernel_rfl) (by kernel_rfl) (by kernel_rfl) (by kernel_rfl) rfl (fun _ _ _ h => h) (fun w' hw' => by go_simp) S4 ?_
  simp only [Act.put, List.setIfInBounds_toArray, List.set_cons_zero, List.set_cons_succ]
  refine early_take (i := 1) 20 (ptr (w.heap.size + 1 + 1)) rfl rfl (by kernel_rfl) (by kernel_rfl) (by kernel_rfl) (by kernel_rfl) rfl (fun _ _ _ h => h) (fun w' hw' => by go_simp) S4 ?_
  simp only [Act.put, List.setIfInBounds_toArray, List.set_cons_zero, List.set_cons_succ]
  refine early_take (i := 2) 21 (.pointer (some ⟨w.heap.size + 1 + 1, 8, none⟩)) rfl rfl (by kernel_rfl) (by kernel_rfl) (by kernel_rfl) (by kernel_rfl) rfl (fun _ _ _ h => h) (fun w' hw' => by go_simp) S4 ?_
  simp only [Act.put, List.setIfInBounds_toArray, List.set_cons_zero, List.set_cons_succ]
  refine early_take (i := 3) 22 (ptr (w.heap.size + 1 + 1 + 1)) rfl rfl (by kernel_rfl) (by kernel_rfl) (by kernel_rfl) (by kernel_rfl) rfl (fun _ _ _ h => h) (fun w' hw' => by obtain ⟨k1, k2⟩ := hw'; have k : w'.cell? ⟨w.heap.size + 1 + 1, 8, none⟩ = some (ptr (w.heap.size + 1 + 1 + 1)) := k2.cell 8; go_simp) S4 ?_
  simp only [Act.put, List.setIfInBounds_toArray, List.set_cons_zero, List.set_cons_succ]
  refine early_take (i := 4) 23 (.agg #[.int .i64 (M : Int), .int .i64 b, .int .i64 g, .int .i64 s, .int .i64 n, .int .i64 l]) rfl rfl (by kernel_rfl) (by kernel_rfl) (by kernel_rfl) (by kernel_rfl) rfl (fun _ _ _ h => h) (fun w' hw' => exec_load_whole (x := .tmp 1) rfl rfl hw'.1 Tryz.underlying27 shape_size) S4 ?_
  simp only [Act.put, List.setIfInBounds_toArray, List.set_cons_zero, List.set_cons_succ]
  refine early_take (i := 5) 24 (.agg (⟨(M : Int), b, g, s, n, l, 0, 0, -1⟩ : Rt).cs) rfl rfl (by kernel_rfl) (by kernel_rfl) (by kernel_rfl) (by kernel_rfl) rfl (fun _ _ _ h => h) (fun w' hw' => by go_simp; rfl) S4 ?_
  simp only [Act.put, List.setIfInBounds_toArray, List.set_cons_zero, List.set_cons_succ]
  refine early_only (i := 6) (by kernel_rfl) rfl (fun K hK => ?_)
  simp only [opWp, List.getElem?_toArray, List.getElem?_cons_succ, List.getElem?_cons_zero]
  go_simp
  go_at_call 99
  refine (set_go 0 (-1) (⟨(M : Int), b, g, s, n, l, 0, 0, -1⟩ : Rt) N4.out P4.out (by omega) (by decide) (by decide) (by decide)).mono ?_
  rintro e w5 ⟨rfl, hn, hp, hb⟩
  have S5 : (fun w' : World => At w' w.heap.size #[.int .i64 (M : Int), .int .i64 b, .int .i64 g, .int .i64 s, .int .i64 n, .int .i64 l] 27 ∧ At w' (w.heap.size + 1 + 1) (rcells M b g s n l (w.heap.size + 1) (.slice none 0 0) (ptr (w.heap.size + 1 + 1 + 1)) (.pointer none)) 86) w5 := ⟨S4.1.but hb (fun e => by omega), S4.2.but hb (fun e => by omega)⟩
  have MK := Lib.hid (show Mk w w5 M b g s n l S z 0 (fun _ => 0) (fun _ _ => False) (.slice none 0 0) from
    ⟨B4.out.trans (hb.below (fun k e => by omega) B4.out.size), S5.1, hp, S5.2, hn, World.ownsRow_nil _ _ _ _, fun i hi => by omega, fun i i' k hi => by omega, fun i hi => by omega⟩)
  refine hK _ _ (fun _ => S5) ?_
  refine early_done (by kernel_rfl) ?_
  clear S4 S5 hn hp hb P4 N4 B4
  have k0 := MK.out.box.cell 0
  go_wp2_with fail
  clear k0
  go_loopw [28] (fun i wr => ∃ j : Nat, j ≤ M ∧ i = .int .i64 (j : Int) ∧ ∃ gs T v, Mk w wr M b g s n l S z j gs T v) (fun i _ => M - (RowKit.intOf i).toNat)
  case atStart => exact ⟨0, Nat.zero_le _, rfl, _, _, _, MK.out⟩
  case round =>
    obtain ⟨j, hj, rfl, gs, T, v, hk⟩ := hrel
    have M1 := Lib.hid hk
    clear hk MK
    by_cases hlt : j < M
    · go_wp2_with fail
      have S6 : (fun w' : World => At w' w.heap.size #[.int .i64 (M : Int), .int .i64 b, .int .i64 g, .int .i64 s, .int .i64 n, .int .i64 l] 27 ∧ At w' (w.heap.size + 1 + 1) (rcells M b g s n l (w.heap.size + 1) v (ptr (w.heap.size + 1 + 1 + 1)) (.pointer none)) 86) wr.drew := ⟨M1.out.box, M1.out.rig⟩
      refine wp_region_early (fun w' : World => At w' w.heap.size #[.int .i64 (M : Int), .int .i64 b, .int .i64 g, .int .i64 s, .int .i64 n, .int .i64 l] 27 ∧ At w' (w.heap.size + 1 + 1) (rcells M b g s n l (w.heap.size + 1) v (ptr (w.heap.size + 1 + 1 + 1)) (.pointer none)) 86) (fun j => decide (j ≠ 18)) (by kernel_rfl) ?_
      change wpEarly _ _ _ _ _ _ 19 (Array.replicate 19 false) _ wr.drew
      refine early_take (i := 0) 30 (ptr (w.heap.size + 1 + 1)) rfl rfl (by kernel_rfl) (by kernel_rfl) (by kernel_rfl) (by kernel_rfl) rfl (fun _ _ _ h => h) (fun w' hw' => by go_simp) S6 ?_
      simp only [Act.put, List.setIfInBounds_toArray, List.set_cons_zero, List.set_cons_succ]
      refine early_take (i := 1) 31 (ptr (w.heap.size + 1 + 1)) rfl rfl (by kernel_rfl) (by kernel_rfl) (by kernel_rfl) (by kernel_rfl) rfl (fun _ _ _ h => h) (fun w' hw' => by go_simp) S6 ?_
      simp only [Act.put, List.setIfInBounds_toArray, List.set_cons_zero, List.set_cons_succ]
      refine early_take (i := 2) 32 (ptr (w.heap.size + 1 + 1)) rfl rfl (by kernel_rfl) (by kernel_rfl) (by kernel_rfl) (by kernel_rfl) rfl (fun _ _ _ h => h) (fun w' hw' => by go_simp) S6 ?_
      simp only [Act.put, List.setIfInBounds_toArray, List.set_cons_zero, List.set_cons_succ]
      refine early_take (i := 3) 33 (.pointer (some ⟨w.heap.size + 1 + 1, 7, none⟩)) rfl rfl (by kernel_rfl) (by kernel_rfl) (by kernel_rfl) (by kernel_rfl) rfl (fun _ _ _ h => h) (fun w' hw' => by go_simp) S6 ?_
      simp only [Act.put, List.setIfInBounds_toArray, List.set_cons_zero, List.set_cons_succ]
      refine early_take (i := 4) 34 v rfl rfl (by kernel_rfl) (by kernel_rfl) (by kernel_rfl) (by kernel_rfl) rfl (fun _ _ _ h => h) (fun w' hw' => by obtain ⟨k1, k2⟩ := hw'; have k : w'.cell? ⟨w.heap.size + 1 + 1, 7, none⟩ = some v := k2.cell 7; go_simp) S6 ?_
      simp only [Act.put, List.setIfInBounds_toArray, List.set_cons_zero, List.set_cons_succ]
      refine early_take (i := 5) 35 (ptr (w.heap.size + 1 + 1)) rfl rfl (by kernel_rfl) (by kernel_rfl) (by kernel_rfl) (by kernel_rfl) rfl (fun _ _ _ h => h) (fun w' hw' => by go_simp) S6 ?_
      simp only [Act.put, List.setIfInBounds_toArray, List.set_cons_zero, List.set_cons_succ]
      refine early_take (i := 6) 36 (ptr (w.heap.size + 1 + 1)) rfl rfl (by kernel_rfl) (by kernel_rfl) (by kernel_rfl) (by kernel_rfl) rfl (fun _ _ _ h => h) (fun w' hw' => by go_simp) S6 ?_
      simp only [Act.put, List.setIfInBounds_toArray, List.set_cons_zero, List.set_cons_succ]
      refine early_take (i := 7) 37 (.pointer (some ⟨w.heap.size + 1 + 1, 6, none⟩)) rfl rfl (by kernel_rfl) (by kernel_rfl) (by kernel_rfl) (by kernel_rfl) rfl (fun _ _ _ h => h) (fun w' hw' => by go_simp) S6 ?_
      simp only [Act.put, List.setIfInBounds_toArray, List.set_cons_zero, List.set_cons_succ]
      refine early_take (i := 8) 38 (ptr (w.heap.size + 1)) rfl rfl (by kernel_rfl) (by kernel_rfl) (by kernel_rfl) (by kernel_rfl) rfl (fun _ _ _ h => h) (fun w' hw' => by obtain ⟨k1, k2⟩ := hw'; have k : w'.cell? ⟨w.heap.size + 1 + 1, 6, none⟩ = some (ptr (w.heap.size + 1)) := k2.cell 6; go_simp) S6 ?_
      simp only [Act.put, List.setIfInBounds_toArray, List.set_cons_zero, List.set_cons_succ]
      refine early_take (i := 9) 39 (.agg #[.int .i64 (M : Int), .int .i64 b, .int .i64 g, .int .i64 s, .int .i64 n, .int .i64 l]) rfl rfl (by kernel_rfl) (by kernel_rfl) (by kernel_rfl) (by kernel_rfl) rfl (fun _ _ _ h => h) (fun w' hw' => exec_load_whole (x := .tmp 1) rfl rfl hw'.1 Tryz.underlying27 shape_size) S6 ?_
      simp only [Act.put, List.setIfInBounds_toArray, List.set_cons_zero, List.set_cons_succ]
      refine early_take (i := 11) 41 (.pointer (some ⟨w.heap.size, 1, none⟩)) rfl rfl (by kernel_rfl) (by kernel_rfl) (by kernel_rfl) (by kernel_rfl) rfl (fun _ _ _ h => h) (fun w' hw' => by go_simp) S6 ?_
      simp only [Act.put, List.setIfInBounds_toArray, List.set_cons_zero, List.set_cons_succ]
      refine early_take (i := 12) 42 (.int .i64 b) rfl rfl (by kernel_rfl) (by kernel_rfl) (by kernel_rfl) (by kernel_rfl) rfl (fun _ _ _ h => h) (fun w' hw' => by obtain ⟨k1, k2⟩ := hw'; have k : w'.cell? ⟨w.heap.size, 1, none⟩ = some (.int .i64 b) := k1.cell 1; go_simp) S6 ?_
      simp only [Act.put, List.setIfInBounds_toArray, List.set_cons_zero, List.set_cons_succ]
      refine early_only (i := 10) (by kernel_rfl) rfl (fun K hK => ?_)
      simp only [opWp, List.getElem?_toArray, List.getElem?_cons_succ, List.getElem?_cons_zero]
      go_simp
      go_at_call 101
      refine (sectors_any (M : Int) b g s n l _ (Lib.hid rfl) HP0.out (by have := HS.out.hb; omega) (by have := HS.out.hg; omega) (by have := HS.out.hs; omega) (by have := HS.out.hl; omega) _).mono ?_
      rintro e w7 ⟨rfl, hb⟩
      rw [← HSS.out]
      have M7 := Lib.hid (M1.out.drew.up hb)
      have S7 : (fun w' : World => At w' w.heap.size #[.int .i64 (M : Int), .int .i64 b, .int .i64 g, .int .i64 s, .int .i64 n, .int .i64 l] 27 ∧ At w' (w.heap.size + 1 + 1) (rcells M b g s n l (w.heap.size + 1) v (ptr (w.heap.size + 1 + 1 + 1)) (.pointer none)) 86) w7 := ⟨M7.out.box, M7.out.rig⟩
      clear hb
      refine hK _ _ (fun _ => S7) ?_
      refine early_only (i := 13) (by kernel_rfl) rfl (fun K hK => ?_)
      simp only [opWp, List.getElem?_toArray, List.getElem?_cons_succ, List.getElem?_cons_zero]
      go_simp
      go_at_call 100
      refine (new_disk (w.heap.size + 1) (S : Int) b S z w7 (At.lt M7.out.pw) (by omega) (by have := HZ.out; omega) SM.out).mono ?_
      rintro e w8 ⟨gd, Td, rfl, hd, hT, hb⟩
      have D8 := Lib.hid hd
      have T8 := Lib.hid hT
      have B8 := Lib.hid hb
      have M8 := Lib.hid (M7.out.up hb)
      have S8 : (fun w' : World => At w' w.heap.size #[.int .i64 (M : Int), .int .i64 b, .int .i64 g, .int .i64 s, .int .i64 n, .int .i64 l] 27 ∧ At w' (w.heap.size + 1 + 1) (rcells M b g s n l (w.heap.size + 1) v (ptr (w.heap.size + 1 + 1 + 1)) (.pointer none)) 86) w8 := ⟨M8.out.box, M8.out.rig⟩
      clear hd hT hb
      refine hK _ _ (fun _ => S8) ?_
      refine early_only (i := 14) (by kernel_rfl) rfl (fun K hK => ?_)
      simp only [opWp, List.getElem?_toArray, List.getElem?_cons_succ, List.getElem?_cons_zero]
      go_simp
      have bel9 : Below w8.heap.size w8 (w8.alloc (.cells #[ptr gd] 152)) := (Below.refl _ _).alloc (Nat.le_refl _) _
      have M9 := Lib.hid (M8.out.up bel9)
      have S9 : (fun w' : World => At w' w.heap.size #[.int .i64 (M : Int), .int .i64 b, .int .i64 g, .int .i64 s, .int .i64 n, .int .i64 l] 27 ∧ At w' (w.heap.size + 1 + 1) (rcells M b g s n l (w.heap.size + 1) v (ptr (w.heap.size + 1 + 1 + 1)) (.pointer none)) 86) (w8.alloc (.cells #[ptr gd] 152)) := ⟨M9.out.box, M9.out.rig⟩
      clear bel9
      refine hK _ _ (fun _ => S9) ?_
      refine early_only (i := 15) (by kernel_rfl) rfl (fun K hK => ?_)
      simp only [opWp, List.getElem?_toArray, List.getElem?_cons_succ, List.getElem?_cons_zero]
      refine wp_append_one (t := 84) (e := 152) (z := .pointer none) (by_ := 8) (y := ptr gd) (.tmp 34) (.tmp 44) rfl Tryz.underlying84 ptr_info rfl rfl (by decide) (w.heap.size + 1 + 1 + 1 + 1) v _ j rfl M9.out.row w8.heap.size rfl ((At.new #[ptr gd] 152 rfl).cell 0) (by omega) (At.lt M9.out.nv) ?_
      intro A cap w10 hown hg hf
      have b10 : But (fun k => v.ownBlock = some k) (w8.alloc (.cells #[ptr gd] 152)) w10 := (But.refl _ _).grown hg (fun k hk _ => hk)
      have vlo : ∀ k, v.ownBlock = some k → w.heap.size + 1 + 1 + 1 + 1 ≤ k := fun k hk => (M9.out.row.lt k hk).1
      have S10 : (fun w' : World => At w' w.heap.size #[.int .i64 (M : Int), .int .i64 b, .int .i64 g, .int .i64 s, .int .i64 n, .int .i64 l] 27 ∧ At w' (w.heap.size + 1 + 1) (rcells M b g s n l (w.heap.size + 1) v (ptr (w.heap.size + 1 + 1 + 1)) (.pointer none)) 86) w10 := ⟨S9.1.but b10 (fun e => by have := vlo _ e; omega), S9.2.but b10 (fun e => by have := vlo _ e; omega)⟩
      have M11 := Lib.hid (M7.out.push D8.out T8.out B8.out rfl hown hg hf)
      clear b10 vlo hown hg hf
      refine hK _ _ (fun _ => S10) ?_
      refine early_only (i := 16) (by kernel_rfl) rfl (fun K hK => ?_)
      simp only [opWp, List.getElem?_toArray, List.getElem?_cons_succ, List.getElem?_cons_zero]
      go_simp
      refine hK _ _ (fun _ => S10) ?_
      refine early_only (i := 17) (by kernel_rfl) rfl (fun K hK => ?_)
      simp only [opWp, List.getElem?_toArray, List.getElem?_cons_succ, List.getElem?_cons_zero]
      go_simp
      refine hK _ _ (fun _ => S10) ?_
      refine early_only (i := 18) (by kernel_rfl) rfl (fun K hK => ?_)
      simp only [opWp, List.getElem?_toArray, List.getElem?_cons_succ, List.getElem?_cons_zero]
      have kc : w10.cell? ⟨w.heap.size + 1 + 1, 7, none⟩ = some v := S10.2.cell 7
      have kf := S10.2.frozen 7
      go_simp
      refine hK _ _ (fun h => absurd h (by decide)) ?_
      refine early_done (by kernel_rfl) ?_
      clear S6 S7 S8 S9 S10 kc kf
      generalize w10.setCell ⟨w.heap.size + 1 + 1, 7, none⟩ (.slice A (j + 1) cap) = V11 at *
      go_wp2
      go_roundw
      case rel => exact ⟨j + 1, by omega, by go_num, _, _, _, M11.out⟩
      case measure => simp [RowKit.intOf]; omega
    · obtain rfl : j = M := by omega
      obtain ⟨qq, cc, rfl, hq1, hq2, hq3⟩ := own_row_cells M1.out.row (by omega)
      have DR := Lib.hid (show Dr wr qq j gs from ⟨hq2, fun i hi => by rw [hq3 i (by simpa using hi)]; simp⟩)
      clear hq1 hq2 hq3
      go_wp2_with fail
      have S6 : (fun w' : World => At w' (w.heap.size + 1 + 1) (rcells j b g s n l (w.heap.size + 1) (.slice (some ⟨qq, 0, none⟩) j cc) (ptr (w.heap.size + 1 + 1 + 1)) (.pointer none)) 86) wr.drew := M1.out.rig
      refine wp_region_early (fun w' : World => At w' (w.heap.size + 1 + 1) (rcells j b g s n l (w.heap.size + 1) (.slice (some ⟨qq, 0, none⟩) j cc) (ptr (w.heap.size + 1 + 1 + 1)) (.pointer none)) 86) (fun _ => true) (by kernel_rfl) ?_
      change wpEarly _ _ _ _ _ _ 12 (Array.replicate 12 false) _ wr.drew
      refine early_take (i := 0) 50 (ptr (w.heap.size + 1 + 1)) rfl rfl (by kernel_rfl) (by kernel_rfl) (by kernel_rfl) (by kernel_rfl) rfl (fun _ _ _ h => h) (fun w' hw' => by go_simp) S6 ?_
      simp only [Act.put, List.setIfInBounds_toArray, List.set_cons_zero, List.set_cons_succ]
      refine early_take (i := 2) 52 (ptr (w.heap.size + 1 + 1)) rfl rfl (by kernel_rfl) (by kernel_rfl) (by kernel_rfl) (by kernel_rfl) rfl (fun _ _ _ h => h) (fun w' hw' => by go_simp) S6 ?_
      simp only [Act.put, List.setIfInBounds_toArray, List.set_cons_zero, List.set_cons_succ]
      refine early_take (i := 3) 53 (ptr (w.heap.size + 1 + 1)) rfl rfl (by kernel_rfl) (by kernel_rfl) (by kernel_rfl) (by kernel_rfl) rfl (fun _ _ _ h => h) (fun w' hw' => by go_simp) S6 ?_
      simp only [Act.put, List.setIfInBounds_toArray, List.set_cons_zero, List.set_cons_succ]
      refine early_take (i := 4) 54 (.pointer (some ⟨w.heap.size + 1 + 1, 8, none⟩)) rfl rfl (by kernel_rfl) (by kernel_rfl) (by kernel_rfl) (by kernel_rfl) rfl (fun _ _ _ h => h) (fun w' hw' => by go_simp) S6 ?_
      simp only [Act.put, List.setIfInBounds_toArray, List.set_cons_zero, List.set_cons_succ]
      refine early_take (i := 5) 55 (ptr (w.heap.size + 1 + 1 + 1)) rfl rfl (by kernel_rfl) (by kernel_rfl) (by kernel_rfl) (by kernel_rfl) rfl (fun _ _ _ h => h) (fun w' hw' => by have k : w'.cell? ⟨w.heap.size + 1 + 1, 8, none⟩ = some (ptr (w.heap.size + 1 + 1 + 1)) := At.cell hw' 8; go_simp) S6 ?_
      simp only [Act.put, List.setIfInBounds_toArray, List.set_cons_zero, List.set_cons_succ]
      refine early_only (i := 1) (by kernel_rfl) rfl (fun K hK => ?_)
      simp only [opWp, List.getElem?_toArray, List.getElem?_cons_succ, List.getElem?_cons_zero]
      go_simp
      go_at_call 103
      refine (devices_any (w.heap.size + 1 + 1) qq cc j gs (by omega) wr.drew (At.cell S6 7) DR.out).mono ?_
      rintro e w7 ⟨r0, cap0, rfl, hv, hlo, hb⟩
      have V7 := Lib.hid hv
      have S7 : (fun w' : World => At w' (w.heap.size + 1 + 1) (rcells j b g s n l (w.heap.size + 1) (.slice (some ⟨qq, 0, none⟩) j cc) (ptr (w.heap.size + 1 + 1 + 1)) (.pointer none)) 86) w7 := At.below S6 hb (At.lt S6)
      have M7 := Lib.hid (M1.out.drew.up hb)
      have B7 := Lib.hid (show Below wr.heap.size wr w7 from ⟨hb.os, hb.tape, hb.output, hb.size, hb.block⟩)
      clear hv hlo hb
      refine hK _ _ (fun _ => S7) ?_
      refine early_only (i := 6) (by kernel_rfl) rfl (fun K hK => ?_)
      simp only [opWp, List.getElem?_toArray, List.getElem?_cons_succ, List.getElem?_cons_zero]
      go_simp
      go_at_call 102
      refine (new_arr r0 cap0 (w.heap.size + 1 + 1 + 1) (w.heap.size + 1) j b g s n l gs HS.out w7 V7.out M7.out.nv).mono ?_
      rintro e w8 ⟨a, r, cap, rfl, ha, hr, ha0, hr0, hne, hb⟩
      have S8 : (fun w' : World => At w' (w.heap.size + 1 + 1) (rcells j b g s n l (w.heap.size + 1) (.slice (some ⟨qq, 0, none⟩) j cc) (ptr (w.heap.size + 1 + 1 + 1)) (.pointer none)) 86) w8 := At.below S7 hb (At.lt S7)
      have A8 := Lib.hid ha
      have V8 := Lib.hid hr
      have L8 := Lib.hid (show wr.heap.size ≤ a ∧ wr.heap.size ≤ r ∧ ¬ a = r from ⟨Nat.le_trans B7.out.size ha0, Nat.le_trans B7.out.size hr0, hne⟩)
      have B8 := Lib.hid (B7.out.trans (hb.mono B7.out.size))
      clear ha hr ha0 hr0 hne hb
      refine hK _ _ (fun _ => S8) ?_
      refine early_take (i := 7) 49 (.tuple #[ptr a, .int .i64 0]) rfl rfl (by kernel_rfl) (by kernel_rfl) (by kernel_rfl) (by kernel_rfl) rfl (fun _ _ _ h => h) (fun w' hw' => by go_simp) S8 ?_
      simp only [Act.put, List.setIfInBounds_toArray, List.set_cons_zero, List.set_cons_succ]
      refine early_take (i := 8) 57 (ptr a) rfl rfl (by kernel_rfl) (by kernel_rfl) (by kernel_rfl) (by kernel_rfl) rfl (fun _ _ _ h => h) (fun w' hw' => by go_simp) S8 ?_
      simp only [Act.put, List.setIfInBounds_toArray, List.set_cons_zero, List.set_cons_succ]
      refine early_take (i := 9) 58 (.int .i64 0) rfl rfl (by kernel_rfl) (by kernel_rfl) (by kernel_rfl) (by kernel_rfl) rfl (fun _ _ _ h => h) (fun w' hw' => by go_simp) S8 ?_
      simp only [Act.put, List.setIfInBounds_toArray, List.set_cons_zero, List.set_cons_succ]
      refine early_take (i := 10) 5 (ptr a) rfl rfl (by kernel_rfl) (by kernel_rfl) (by kernel_rfl) (by kernel_rfl) rfl (fun _ _ _ h => h) (fun w' hw' => by go_simp) S8 ?_
      simp only [Act.put, List.setIfInBounds_toArray, List.set_cons_zero, List.set_cons_succ]
      refine early_take (i := 11) 6 (.int .i64 0) rfl rfl (by kernel_rfl) (by kernel_rfl) (by kernel_rfl) (by kernel_rfl) rfl (fun _ _ _ h => h) (fun w' hw' => by go_simp) S8 ?_
      simp only [Act.put, List.setIfInBounds_toArray, List.set_cons_zero, List.set_cons_succ]
      refine early_done (by kernel_rfl) ?_
      have kc : w8.cell? ⟨w.heap.size + 1 + 1, 9, none⟩ = some (.pointer none) := S8.cell 9
      have kf := S8.frozen 9
      clear S6 S7 S8
      obtain ⟨P, O, hsys⟩ := M1.out.done HS.out HSS.out HP0.out HZ.out B8.out A8.out V8.out L8.out.1 L8.out.2.1 L8.out.2.2
      have SY := Lib.hid hsys
      clear hsys
      go_wp2
      go_ret2
      exact ⟨_, rfl, _, _, P, O, S, z, SY.out, HSS.out, HZ.out⟩
end Go.Proofs.YtplmdmchkaacoaaGreat
