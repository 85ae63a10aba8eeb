/-
  THE WALK OF ArrayCut.
-/
import Derived.Test.YtapbphkhbhcdkaaGreatCutE
namespace Go.Proofs.YtapbphkhbhcdkaaGreat
open Go.RowKit Go.Maps
set_option linter.unusedVariables false
set_option maxRecDepth 100000

theorem init_wait {w w' : World} {B R q cap : Nat} {P : Pl} {O : Nat → Prop} {s1 : AS} {S z : Nat} (hd : ∀ m, s1.d m = blank S z) (c : Calm s1) : KeptW s1 (fun _ => none) :=
  ⟨⟨c, inv_none _⟩, fun m _ x => by rw [hd m]; rfl⟩

set_option maxHeartbeats 3200000 in
theorem cut_walk (x0 x1 x2 x3 x4 x5 : Int) (A : Option Addr) (n c : Nat) (xs : List (BitVec 8 × BitVec 8)) {w : World} (hst : St w A n xs) (x f : BitVec 8) (ops : Int) (keep : Nat) (h0 : 0 ≤ x0 ∧ x0 ≤ 255) (h1 : 0 ≤ x1 ∧ x1 ≤ 255) (h2 : 0 ≤ x2 ∧ x2 ≤ 255) (h3 : 0 ≤ x3 ∧ x3 ≤ 255) (h4 : 0 ≤ x4 ∧ x4 ≤ 255) (h5 : 0 ≤ x5 ∧ x5 ≤ 255) (ho : 0 ≤ ops ∧ ops ≤ 255) (hk : keep < 18446744073709551616) :
    Calls Tryz.prog 3 #[.agg #[.int .u8 x0, .int .u8 x1, .int .u8 x2, .int .u8 x3, .int .u8 x4, .int .u8 x5], .slice A n c, .agg #[val x, val f], .int .u8 ops, .int .u64 (keep : Int)] w fun e w' => e = .returned (.bool true) ∧ Below w.heap.size w w' := by
  have ST := Lib.hid hst
  clear hst
  obtain ⟨M0, b, g, sg, n0, l0, hsm, hshape⟩ := shape_small x0 x1 x2 x3 x4 x5 h0 h1 h2 h3 h4 h5
  obtain ⟨M, rfl⟩ : ∃ M : Nat, M0 = (M : Int) := ⟨M0.toNat, by have := hsm.hm; omega⟩
  have SM := Lib.hid hsm
  have SH := Lib.hid hshape
  clear hsm hshape
  go_enter Tryz.func3, Tryz.ntmps3
  go_wp2_with fail
  have A0 := Lib.hid (show At ((w.alloc (.cells #[.int .u8 x0, .int .u8 x1, .int .u8 x2, .int .u8 x3, .int .u8 x4, .int .u8 x5] 23)).alloc (.cells #[val x, val f] 26)) w.heap.size #[.int .u8 x0, .int .u8 x1, .int .u8 x2, .int .u8 x3, .int .u8 x4, .int .u8 x5] 23 from (At.new _ 23 rfl).alloc _)
  have L0 := Lib.hid (show At ((w.alloc (.cells #[.int .u8 x0, .int .u8 x1, .int .u8 x2, .int .u8 x3, .int .u8 x4, .int .u8 x5] 23)).alloc (.cells #[val x, val f] 26)) (w.heap.size + 1) #[val x, val f] 26 from At.new _ 26 (by simp))
  have B0 := Lib.hid (show Below w.heap.size w ((w.alloc (.cells #[.int .u8 x0, .int .u8 x1, .int .u8 x2, .int .u8 x3, .int .u8 x4, .int .u8 x5] 23)).alloc (.cells #[val x, val f] 26)) from ((Below.refl w.heap.size w).alloc (Nat.le_refl _) _).alloc (by simp) _)
  refine (awake_any _).mono ?_
  rintro e w1 ⟨rfl, hbl⟩
  have A1 := Lib.hid (A0.out.below hbl A0.out.lt)
  have L1 := Lib.hid (L0.out.below hbl L0.out.lt)
  have B1 := Lib.hid (B0.out.trans (hbl.mono B0.out.size))
  clear hbl A0 B0 L0
  have c0 : w1.cell? ⟨w.heap.size, 0, none⟩ = some (.int .u8 x0) := A1.out.cell 0
  have c1 : w1.cell? ⟨w.heap.size, 1, none⟩ = some (.int .u8 x1) := A1.out.cell 1
  have c2 : w1.cell? ⟨w.heap.size, 2, none⟩ = some (.int .u8 x2) := A1.out.cell 2
  have c3 : w1.cell? ⟨w.heap.size, 3, none⟩ = some (.int .u8 x3) := A1.out.cell 3
  have c4 : w1.cell? ⟨w.heap.size, 4, none⟩ = some (.int .u8 x4) := A1.out.cell 4
  have c5 : w1.cell? ⟨w.heap.size, 5, none⟩ = some (.int .u8 x5) := A1.out.cell 5
  by_cases hn0 : 10 < n
  · have hn0' : (10 : Int) < (n : Int) := by omega
    clear c0 c1 c2 c3 c4 c5
    go_wp2
    go_ret
    exact ⟨rfl, B1.out⟩
  go_wp2_with fail
  refine (SH.out w1).mono ?_
  rintro e w2 ⟨rfl, hbl⟩
  have B2 := Lib.hid (B1.out.trans (hbl.mono B1.out.size))
  have L2 := Lib.hid (L1.out.below hbl L1.out.lt)
  clear hbl A1 c0 c1 c2 c3 c4 c5 SH L1
  go_wp2_with fail
  refine (New_any M b g sg n0 l0 SM.out w2).mono ?_
  rintro e w3 ⟨R, q, cap, P, O, S0, z, rfl, hsys, hS, hz⟩
  obtain ⟨s, hy, hcalm, hu, rfl, rfl, rfl, rfl, rfl, rfl, hd⟩ := init_facts hsys hz
  have HY := Lib.hid hy
  have CM := Lib.hid hcalm
  have HU := Lib.hid hu
  have K3 := Lib.hid (init_wait (w := w) (w' := w) (B := 0) (R := 0) (q := 0) (cap := 0) (P := P) (O := O) hd hcalm)
  have B3 := Lib.hid (B2.out.trans (hy.below.mono B2.out.size))
  have L3 := Lib.hid (L2.out.below hy.below L2.out.lt)
  have hMs := hy.rg.arr.many
  have ST2 := Lib.hid (ST.out.below B2.out)
  clear hsys hS hz hy hcalm hu hd SM B1 ST
  have hmk : ∀ w : World, (Instr.makeMap 35 none).run Tryz.prog w = .ok (.map (some w.heap.size)) (w.alloc (.map #[] 0)) := fun w => by kernel_rfl
  go_wp2_with fail
  have nw := HY.out.new w3.heap.size (Nat.le_refl _)
  have L4 := Lib.hid (show Lw w2.heap.size w2 ((w3.alloc (.cells #[ptr R] 29)).alloc (.map #[] 0)) R q cap P O s (w3.heap.size + 1) (fun _ => none) from by have := (HY.out.alloc (.cells #[ptr R] 29)).begin_; simpa using this)
  have R4 := Lib.hid (show At ((w3.alloc (.cells #[ptr R] 29)).alloc (.map #[] 0)) w3.heap.size #[ptr R] 29 from (At.new _ 29 rfl).alloc _)
  have Z4 := Lib.hid (show w3.heap.size < ((w3.alloc (.cells #[ptr R] 29)).alloc (.map #[] 0)).heap.size ∧ w2.heap.size ≤ w3.heap.size ∧ ¬ O w3.heap.size ∧ w3.heap.size ≠ R from ⟨R4.out.lt, HY.out.size, nw.1, nw.2.1⟩)
  have LL := Lib.hid (show w.heap.size + 1 < w2.heap.size from L2.out.lt)
  clear hmk nw HY B3 L3
  refine (put_any false KeptW put_keptW A n c xs (by omega) ST2.out rfl L4.out K3.out (by have := HU.out; omega)).mono ?_
  rintro e w7 ⟨rfl, O7, s7, H7, k1, k2, k3, k4, k5, k6⟩
  have L7 := Lib.hid k1
  have Q7 := Lib.hid k3
  have U7 := Lib.hid (show s7.u ≤ 400 by have := HU.out; omega)
  have X7 := Lib.hid (show At w7 w3.heap.size #[ptr R] 29 ∧ At w7 (w.heap.size + 1) #[val x, val f] 26 ∧ ¬ O7 w3.heap.size ∧ ¬ O7 (w.heap.size + 1) ∧ w3.heap.size ≠ R ∧ w.heap.size + 1 ≠ R ∧ w3.heap.size ≠ w3.heap.size + 1 ∧ w2.heap.size ≤ w3.heap.size ∧ w.heap.size + 1 < w2.heap.size from
    ⟨R4.out.but k6 (fun e => e.elim Z4.out.2.2.1 (fun e => by omega)), L2.out.below k1.sys.below LL.out, fun e => (k5 _ e).elim Z4.out.2.2.1 (fun e => by have := Z4.out.1; omega), fun e => by have := k1.sys.own _ e; have := LL.out; omega, Z4.out.2.2.2, fun e => by have := k1.sys.lo.1; have := LL.out; omega, by omega, Z4.out.2.1, LL.out⟩)
  clear k1 k2 k3 k4 k5 k6 L4 R4 Z4 LL L2 K3 CM ST2 HU
  obtain ⟨b1, hb1⟩ : ∃ b1, b1 = w3.heap.size := ⟨_, rfl⟩
  obtain ⟨b3, hb3⟩ : ∃ b3, b3 = w.heap.size + 1 := ⟨_, rfl⟩
  obtain ⟨hb, hhb⟩ : ∃ hb, hb = w3.heap.size + 1 := ⟨_, rfl⟩
  rw [← hhb] at L7 X7 ⊢
  rw [← hb1] at X7 ⊢
  rw [← hb3] at X7 ⊢
  clear hb1 hb3 hhb
  have f0 := f.isLt
  have x0' := x.isLt
  go_wp2_with fail
  have N7 := Lib.hid L7.out.sys.rg.arr.wf.n
  obtain ⟨t, ht⟩ : ∃ t, (x.toNat : Int) % s7.N = t := ⟨_, rfl⟩
  have HT := Lib.hid ht
  have T7 := Lib.hid (show 0 ≤ t ∧ t < s7.N by rw [← ht]; exact ⟨Int.emod_nonneg _ (by have := N7.out; omega), Int.emod_lt_of_pos _ (by have := N7.out; omega)⟩)
  clear ht
  have S0 : (fun w' : World => w'.cell? ⟨b1, 0, none⟩ = some (ptr R) ∧ At w' b3 #[val x, val f] 26 ∧ w'.rangeAt R 0 s7.sh) w7.drew := ⟨X7.out.1.cell 0, X7.out.2.1, L7.out.drew.sys.range⟩
  refine wp_region_early (fun w' : World => w'.cell? ⟨b1, 0, none⟩ = some (ptr R) ∧ At w' b3 #[val x, val f] 26 ∧ w'.rangeAt R 0 s7.sh) (fun j => decide (j ≠ 10)) (by kernel_rfl) ?_
  change wpEarly _ _ _ _ _ _ 11 (Array.replicate 11 false) _ w7.drew
  refine early_take (i := 0) 39 (.pointer (some ⟨b3, 0, none⟩)) rfl rfl (by kernel_rfl) (by kernel_rfl) (by kernel_rfl) (by kernel_rfl) rfl (fun _ _ _ h => h) (fun w' hw' => by obtain ⟨k1, k2, k3⟩ := hw'; go_simp) S0 ?_
  simp only [Act.put, List.setIfInBounds_toArray, List.set_cons_zero, List.set_cons_succ]
  refine early_take (i := 1) 40 (.int .u8 (x.toNat : Int)) rfl rfl (by kernel_rfl) (by kernel_rfl) (by kernel_rfl) (by kernel_rfl) rfl (fun _ _ _ h => h) (fun w' hw' => by obtain ⟨k1, k2, k3⟩ := hw'; have k : w'.cell? ⟨b3, 0, none⟩ = some (.int .u8 (x.toNat : Int)) := k2.cell 0; go_simp) S0 ?_
  simp only [Act.put, List.setIfInBounds_toArray, List.set_cons_zero, List.set_cons_succ]
  refine early_take (i := 2) 41 (.int .i64 (x.toNat : Int)) rfl rfl (by kernel_rfl) (by kernel_rfl) (by kernel_rfl) (by kernel_rfl) rfl (fun _ _ _ h => h) (fun w' hw' => by obtain ⟨k1, k2, k3⟩ := hw'; have e1 : IntKind.i64.wrap (x.toNat : Int) = (x.toNat : Int) := wrap_of (by omega) (by omega); go_simp) S0 ?_
  simp only [Act.put, List.setIfInBounds_toArray, List.set_cons_zero, List.set_cons_succ]
  refine early_take (i := 3) 42 (ptr R) rfl rfl (by kernel_rfl) (by kernel_rfl) (by kernel_rfl) (by kernel_rfl) rfl (fun _ _ _ h => h) (fun w' hw' => by obtain ⟨k1, k2, k3⟩ := hw'; go_simp) S0 ?_
  simp only [Act.put, List.setIfInBounds_toArray, List.set_cons_zero, List.set_cons_succ]
  refine early_take (i := 4) 43 (ptr R) rfl rfl (by kernel_rfl) (by kernel_rfl) (by kernel_rfl) (by kernel_rfl) rfl (fun _ _ _ h => h) (fun w' hw' => by obtain ⟨k1, k2, k3⟩ := hw'; go_simp) S0 ?_
  simp only [Act.put, List.setIfInBounds_toArray, List.set_cons_zero, List.set_cons_succ]
  refine early_take (i := 5) 44 (ptr R) rfl rfl (by kernel_rfl) (by kernel_rfl) (by kernel_rfl) (by kernel_rfl) rfl (fun _ _ _ h => h) (fun w' hw' => by obtain ⟨k1, k2, k3⟩ := hw'; go_simp) S0 ?_
  simp only [Act.put, List.setIfInBounds_toArray, List.set_cons_zero, List.set_cons_succ]
  refine early_take (i := 6) 45 (sv (s7.M : Int) s7.b s7.g s7.s s7.n s7.l) rfl rfl (by kernel_rfl) (by kernel_rfl) (by kernel_rfl) (by kernel_rfl) rfl (fun _ _ _ h => h) (fun w' hw' => exec_shape (s := s7) (x := .tmp 44) rfl rfl hw'.2.2) S0 ?_
  simp only [Act.put, List.setIfInBounds_toArray, List.set_cons_zero, List.set_cons_succ]
  refine early_two (i := 7) (j := 9) (by kernel_rfl) ⟨rfl, fun K hK => ?_⟩ ⟨rfl, fun K hK => ?_⟩
  case' refine_1 =>
    simp only [opWp, List.getElem?_toArray, List.getElem?_cons_succ, List.getElem?_cons_zero]
    go_simp
    go_at_call 8
    refine (all_call L7.out.sys.rg.arr.wf _).mono ?_
    rintro e wa ⟨rfl, hbl⟩
    have La := Lib.hid (L7.out.drew.up hbl)
    have Xa := Lib.hid (show At wa b1 #[ptr R] 29 ∧ At wa b3 #[val x, val f] 26 from ⟨At.below (w := w7.drew) X7.out.1 hbl X7.out.1.lt, At.below (w := w7.drew) X7.out.2.1 hbl X7.out.2.1.lt⟩)
    have sza : w7.heap.size ≤ wa.heap.size := hbl.size
    have S1 : (fun w' : World => w'.cell? ⟨b1, 0, none⟩ = some (ptr R) ∧ At w' b3 #[val x, val f] 26 ∧ w'.rangeAt R 0 s7.sh) wa := ⟨Xa.out.1.cell 0, Xa.out.2, La.out.sys.range⟩
    refine hK _ _ (fun _ => S1) ?_
    refine early_take (i := 8) 47 (.int .i64 t) rfl rfl (by kernel_rfl) (by kernel_rfl) (by kernel_rfl) (by kernel_rfl) rfl (fun _ _ _ h => h) (fun w' hw' => by obtain ⟨k1, k2, k3⟩ := hw'; have e1 : (x.toNat : Int).tmod s7.N = t := (by rw [Int.tmod_eq_emod_of_nonneg (by omega)]; exact HT.out); have e2 : ¬ s7.N = 0 := (by have := N7.out; omega); go_simp) S1 ?_
    simp only [Act.put, List.setIfInBounds_toArray, List.set_cons_zero, List.set_cons_succ]
    refine early_only (i := 9) (by kernel_rfl) rfl (fun K hK => ?_)
    simp only [opWp, List.getElem?_toArray, List.getElem?_cons_succ, List.getElem?_cons_zero]
    go_simp
    have LV := Lib.hid (La.out.alloc (.cells #[.int .i64 0] 3))
    have TV := Lib.hid (show At (wa.alloc (.cells #[.int .i64 0] 3)) wa.heap.size #[.int .i64 0] 3 from At.new _ 3 rfl)
    have XV := Lib.hid (show At (wa.alloc (.cells #[.int .i64 0] 3)) b1 #[ptr R] 29 ∧ At (wa.alloc (.cells #[.int .i64 0] 3)) b3 #[val x, val f] 26 from ⟨Xa.out.1.alloc _, Xa.out.2.alloc _⟩)
    have NV := Lib.hid (show ¬ O7 wa.heap.size ∧ wa.heap.size ≠ R ∧ wa.heap.size ≠ q ∧ w2.heap.size ≤ wa.heap.size ∧ wa.heap.size ≠ hb from by have h := La.out.sys.new _ (Nat.le_refl _); exact ⟨h.1, h.2.1, h.2.2.1, h.2.2.2, by have := La.out.map.lt; omega⟩)
    have DV := Lib.hid (show b1 ≠ wa.heap.size ∧ b3 ≠ wa.heap.size from ⟨by have := Xa.out.1.lt; omega, by have := Xa.out.2.lt; omega⟩)
    have S2 : (fun w' : World => w'.cell? ⟨b1, 0, none⟩ = some (ptr R) ∧ At w' b3 #[val x, val f] 26 ∧ w'.rangeAt R 0 s7.sh) (wa.alloc (.cells #[.int .i64 0] 3)) := ⟨XV.out.1.cell 0, XV.out.2, LV.out.sys.range⟩
    refine hK _ _ (fun _ => S2) ?_
    refine early_only (i := 10) (by kernel_rfl) rfl (fun K hK => ?_)
    simp only [opWp, List.getElem?_toArray, List.getElem?_cons_succ, List.getElem?_cons_zero]
    have f8 := TV.out.frozen 0
    have c8 := TV.out.cell 0
    go_simp
    have L8 := Lib.hid (La.out.alloc (.cells #[.int .i64 t] 3))
    have T8 := Lib.hid (show At (wa.alloc (.cells #[.int .i64 t] 3)) wa.heap.size #[.int .i64 t] 3 from At.new _ 3 rfl)
    have X8 := Lib.hid (show At (wa.alloc (.cells #[.int .i64 t] 3)) b1 #[ptr R] 29 ∧ At (wa.alloc (.cells #[.int .i64 t] 3)) b3 #[val x, val f] 26 from ⟨Xa.out.1.alloc _, Xa.out.2.alloc _⟩)
    refine hK _ _ (fun h => absurd h (by decide)) ?_
    refine early_done (by kernel_rfl) ?_
    clear S0 S1 S2 f8 c8 sza La Xa LV TV XV DV
    generalize wa.alloc (.cells #[.int .i64 t] 3) = w8 at *
    generalize wa.heap.size = b2 at *
  case' refine_2 =>
    simp only [opWp, List.getElem?_toArray, List.getElem?_cons_succ, List.getElem?_cons_zero]
    go_simp
    have LA := Lib.hid (L7.out.drew.alloc (.cells #[.int .i64 0] 3))
    have TA := Lib.hid (show At (w7.drew.alloc (.cells #[.int .i64 0] 3)) w7.heap.size #[.int .i64 0] 3 from At.new (w := w7.drew) _ 3 rfl)
    have XA := Lib.hid (show At (w7.drew.alloc (.cells #[.int .i64 0] 3)) b1 #[ptr R] 29 ∧ At (w7.drew.alloc (.cells #[.int .i64 0] 3)) b3 #[val x, val f] 26 from ⟨At.alloc (w := w7.drew) X7.out.1 _, At.alloc (w := w7.drew) X7.out.2.1 _⟩)
    have NV := Lib.hid (show ¬ O7 w7.heap.size ∧ w7.heap.size ≠ R ∧ w7.heap.size ≠ q ∧ w2.heap.size ≤ w7.heap.size ∧ w7.heap.size ≠ hb from by have h := L7.out.sys.new _ (Nat.le_refl _); exact ⟨h.1, h.2.1, h.2.2.1, h.2.2.2, by have := L7.out.map.lt; omega⟩)
    have DV := Lib.hid (show b1 ≠ w7.heap.size ∧ b3 ≠ w7.heap.size from ⟨by have := X7.out.1.lt; omega, by have := X7.out.2.1.lt; omega⟩)
    have S2 : (fun w' : World => w'.cell? ⟨b1, 0, none⟩ = some (ptr R) ∧ At w' b3 #[val x, val f] 26 ∧ w'.rangeAt R 0 s7.sh) (w7.drew.alloc (.cells #[.int .i64 0] 3)) := ⟨XA.out.1.cell 0, XA.out.2, LA.out.sys.range⟩
    refine hK _ _ (fun _ => S2) ?_
    refine early_only (i := 7) (by kernel_rfl) rfl (fun K hK => ?_)
    simp only [opWp, List.getElem?_toArray, List.getElem?_cons_succ, List.getElem?_cons_zero]
    go_simp
    go_at_call 8
    refine (all_call LA.out.sys.rg.arr.wf _).mono ?_
    rintro e wa ⟨rfl, hbl⟩
    have LV := Lib.hid (LA.out.up hbl)
    have TV := Lib.hid (TA.out.below hbl TA.out.lt)
    have XV := Lib.hid (show At wa b1 #[ptr R] 29 ∧ At wa b3 #[val x, val f] 26 from ⟨XA.out.1.below hbl XA.out.1.lt, XA.out.2.below hbl XA.out.2.lt⟩)
    have S1 : (fun w' : World => w'.cell? ⟨b1, 0, none⟩ = some (ptr R) ∧ At w' b3 #[val x, val f] 26 ∧ w'.rangeAt R 0 s7.sh) wa := ⟨XV.out.1.cell 0, XV.out.2, LV.out.sys.range⟩
    refine hK _ _ (fun _ => S1) ?_
    refine early_take (i := 8) 47 (.int .i64 t) rfl rfl (by kernel_rfl) (by kernel_rfl) (by kernel_rfl) (by kernel_rfl) rfl (fun _ _ _ h => h) (fun w' hw' => by obtain ⟨k1, k2, k3⟩ := hw'; have e1 : (x.toNat : Int).tmod s7.N = t := (by rw [Int.tmod_eq_emod_of_nonneg (by omega)]; exact HT.out); have e2 : ¬ s7.N = 0 := (by have := N7.out; omega); go_simp) S1 ?_
    simp only [Act.put, List.setIfInBounds_toArray, List.set_cons_zero, List.set_cons_succ]
    refine early_only (i := 10) (by kernel_rfl) rfl (fun K hK => ?_)
    simp only [opWp, List.getElem?_toArray, List.getElem?_cons_succ, List.getElem?_cons_zero]
    have f8 := TV.out.frozen 0
    have c8 := TV.out.cell 0
    go_simp
    have b78 := But.own wa w7.heap.size 0 (.int .i64 t)
    have n8 := LV.out.sys.new
    have L8 := Lib.hid (LV.out.but (S := fun k => k = w7.heap.size) b78 (fun k e => by subst e; exact NV.out))
    have T8 := Lib.hid (show At (wa.setCell ⟨w7.heap.size, 0, none⟩ (.int .i64 t)) w7.heap.size #[.int .i64 t] 3 from TV.out.set 0 _)
    have X8 := Lib.hid (show At (wa.setCell ⟨w7.heap.size, 0, none⟩ (.int .i64 t)) b1 #[ptr R] 29 ∧ At (wa.setCell ⟨w7.heap.size, 0, none⟩ (.int .i64 t)) b3 #[val x, val f] 26 from ⟨XV.out.1.but b78 (fun e => DV.out.1 e), XV.out.2.but b78 (fun e => DV.out.2 e)⟩)
    clear b78 n8
    refine hK _ _ (fun h => absurd h (by decide)) ?_
    refine early_done (by kernel_rfl) ?_
    clear S0 S1 S2 f8 c8 LA TA XA LV TV XV DV hbl
    generalize wa.setCell ⟨w7.heap.size, 0, none⟩ (.int .i64 t) = w8 at *
    generalize w7.heap.size = b2 at *
  all_goals
    obtain ⟨o, hoo⟩ : ∃ o, ops % 16 = o := ⟨_, rfl⟩
    have o1 : ops.tmod 16 = o := by rw [Int.tmod_eq_emod_of_nonneg ho.1]; exact hoo
    have o2 : 0 ≤ o ∧ o ≤ 15 := by omega
    have o3 : IntKind.i64.wrap o = o := wrap_of (by omega) (by omega)
    have OO := Lib.hid o2
    have r1 : w8.cell? ⟨b1, 0, none⟩ = some (ptr R) := X8.out.1.cell 0
    have r6 := L8.out.cells.2.1
    clear L7 hoo
    go_wp2_with fail
    refine (limit_any P.p s7.u (-1) o w8 L8.out.sys.rg.arr.pw).mono ?_
    rintro e w9 ⟨rfl, hp, he⟩
    have b89 : But (fun k => k = P.p) w8 w9 := by rw [he]; exact But.own _ _ _ _
    have A9 := Lib.hid (L8.out.sys.rg.arr.arl.limit hp b89)
    have opp := L8.out.sys.rg.arr.arl.own
    have B9 := Lib.hid (show But O7 w8 w9 from b89.mono (fun k e _ => e ▸ opp.2.2.1))
    clear hp he b89 r1 r6 o1 o3 opp
    have hmf : ∀ (fn : Fn) (first cap : Array Value) (w : World), (Instr.makeFunc fn first cap).run Tryz.prog w = .ok (.func fn first cap) w := fun _ _ _ _ => rfl
    go_wp2_with fail
    have C9 := Lib.hid (show Bx w9 b1 b2 b3 R q cap P O7 s7 t x f from
      Bx.did (w := w8) ⟨X8.out.1, T8.out, X8.out.2, L8.out.sys.rg.rig, X7.out.2.2.1, NV.out.1, X7.out.2.2.2.1, L8.out.sys.rg.off.1⟩ B9.out)
    refine (run_some 11 #[.pointer (some ⟨b1, 0, none⟩), .pointer (some ⟨b2, 0, none⟩), .pointer (some ⟨b3, 0, none⟩)] w9 (fun w => by kernel_rfl) (fun gone w' => CutR (s7.at_ t) (partF s7.M s7.b.toNat t f) (w9.alloc (.cells #[.bool false] 4)) P O7 s7 gone w')
      ((cut_any b1 b2 b3 R q cap t x f T7.out (C9.out.up ((Below.refl _ _).alloc (Nat.le_refl _) _)) (A9.out.alloc _) (by have := U7.out; omega) Q7.out.1.1 (by have := OO.out; omega)).mono ?_)).mono ?_
    · rintro e w' ⟨gone, rfl, hc⟩
      refine ⟨gone, rfl, hc, ?_⟩
      obtain ⟨_, _, _, _, _, k3, _⟩ := cut_out Q7.out L8.out.sys.rg.arr.wf T7.out hc
      exact (At.new (w := w9) #[.bool false] 4 rfl).but k3 (fun e => by have := A9.out.lt _ e; omega)
    rintro e w10 ⟨gone, wc, rfl, hc, hb10⟩
    obtain ⟨s10, l10, O10, k1, k2, k3, k4, k5, k6⟩ := cut_out Q7.out L8.out.sys.rg.arr.wf T7.out hc
    have sz9 := B9.out.size
    have sza : (w9.alloc (.cells #[.bool false] 4)).heap.size = w9.heap.size + 1 := by simp
    have nO : ¬ O10 w9.heap.size := fun e => (k2 _ e).elim (fun e => by have := A9.out.lt _ e; omega) (fun e => by rw [sza] at e; omega)
    have A10 := Lib.hid (k1.but hb10 (fun k hk e => nO (e ▸ hk)))
    have O10H := Lib.hid (show ∀ k, O10 k → O7 k ∨ w8.heap.size ≤ k from fun k hk => (k2 k hk).imp id (fun h => by rw [sza] at h; omega))
    have B10 := Lib.hid (show But O7 w8 w10 from (((B9.out.alloc (.cells #[.bool false] 4)).trans k3 (fun k h _ => h)).trans hb10 (fun k e hlt => by omega)))
    have SM10 := Lib.hid k4
    have U10 := Lib.hid (show s10.u ≤ 500 by have := U7.out; omega)
    have KP := Lib.hid (k6)
    clear hc hb10 k1 k2 k3 k4 k5 k6 nO C9 A9 sz9 sza hmf
    have r1 : w10.cell? ⟨b1, 0, none⟩ = some (ptr R) := (X8.out.1.but B10.out X7.out.2.2.1).cell 0
    have r6 : w10.cell? ⟨R, 6, none⟩ = some (ptr P.p) := (L8.out.sys.rg.rig.but B10.out L8.out.sys.rg.off.1).cell 6
    go_wp2_with fail
    refine (limit_any P.p s10.u l10 (-1) w10 A10.out.pw).mono ?_
    rintro e w11 ⟨rfl, hp, he⟩
    have b1011 : But (fun k => k = P.p) w10 w11 := by rw [he]; exact But.own _ _ _ _
    have a11 := (A10.out.limit hp b1011).arr
    obtain ⟨O11, k1, k2, k3⟩ := L8.out.did SM10.out (w' := w11) ⟨O10, a11, O10H.out, B10.out.trans b1011 (fun k e hlt => by subst e; exact L8.out.sys.rg.arr.arl.own.2.2.1)⟩
    have L11 := Lib.hid k1
    have X11 := Lib.hid (show At w11 b1 #[ptr R] 29 ∧ At w11 b2 #[.int .i64 t] 3 ∧ At w11 b3 #[val x, val f] 26 ∧ ¬ O11 b1 ∧ ¬ O11 b2 ∧ ¬ O11 b3 from
      ⟨X8.out.1.but k3 X7.out.2.2.1, T8.out.but k3 NV.out.1, X8.out.2.but k3 X7.out.2.2.2.1, fun e => (k2 _ e).elim X7.out.2.2.1 (fun h => by have := X8.out.1.lt; omega), fun e => (k2 _ e).elim NV.out.1 (fun h => by have := T8.out.lt; omega), fun e => (k2 _ e).elim X7.out.2.2.2.1 (fun h => by have := X8.out.2.lt; omega)⟩)
    clear hp he b1011 a11 k1 k2 k3 r1 r6 A10 O10H B10 L8 X8 T8 B9
    have r1 : w11.cell? ⟨b1, 0, none⟩ = some (ptr R) := X11.out.1.cell 0
    have r7 := L11.out.cells.2.2.1
    have M10 := L11.out.sys.rg.arr.many
    go_wp2_with fail
    go_loopw [68] (fun i wr => ∃ j : Nat, j ≤ s10.M ∧ i = .int .i64 (j : Int) ∧ ∃ s', Lw w2.heap.size w2 wr R q cap P O11 s' hb H7 ∧ CycTo keep j s10 s' ∧ But O11 w11 wr) (fun i _ => s10.M - (RowKit.intOf i).toNat)
    case atStart => exact ⟨0, Nat.zero_le _, rfl, s10, L11.out, CycTo.start, But.refl _ _⟩
    case round =>
      obtain ⟨j, hj, rfl, s', k1, k2, k3⟩ := hrel
      have L12 := Lib.hid k1
      have C12 := Lib.hid k2
      have B12 := Lib.hid k3
      clear k1 k2 k3 r1 r7
      by_cases hlt : j < s10.M
      · have jl : j < s'.M := by have := C12.out.same.M; omega
        have hd := L12.out.sys.rg.row.2 j jl
        go_wp2_with fail
        refine (cycle_sys hk jl L12.out).mono ?_
        rintro e w13 ⟨rfl, ss, hW, k1, k2⟩
        have L13 := Lib.hid k1
        have C13 := Lib.hid (C12.out.step hlt hW)
        have B13 := Lib.hid (B12.out.trans k2 (fun k h _ => h))
        clear k1 k2 hW hd
        go_wp2
        go_roundw
        case rel => exact ⟨j + 1, by omega, by go_num, _, L13.out, C13.out, B13.out⟩
        case measure => simp [RowKit.intOf]; omega
      · obtain rfl : j = s10.M := by omega
        have Q12 := Lib.hid (KP.out s' keep C12.out)
        have X12 := Lib.hid (show At wr b1 #[ptr R] 29 ∧ At wr b2 #[.int .i64 t] 3 ∧ At wr b3 #[val x, val f] 26 from ⟨X11.out.1.but B12.out X11.out.2.2.2.1, X11.out.2.1.but B12.out X11.out.2.2.2.2.1, X11.out.2.2.1.but B12.out X11.out.2.2.2.2.2⟩)
        have c2 : wr.cell? ⟨b2, 0, none⟩ = some (.int .i64 t) := X12.out.2.1.cell 0
        have i64 : In64 t := by unfold In64; have := T7.out; have := N7.out; omega
        obtain ⟨w13, hrun, hm13, hb13⟩ := L12.out.map.del Tryz.underlying35 i64
        have ev : (fun j => if j = t then none else H7.vals j) = (H7.del t).vals := by
          funext y
          unfold Hv.vals Hv.del
          split <;> rfl
        rw [ev] at hm13
        have L13 := Lib.hid (L12.out.turn hm13 hb13 (fun u hu => by
          unfold Hv.del at hu
          by_cases e : u = t
          · rw [if_pos e] at hu; exact absurd rfl hu
          · rw [if_neg e] at hu; exact L12.out.dom u hu))
        have X13 := Lib.hid (show At w13 b1 #[ptr R] 29 ∧ At w13 b2 #[.int .i64 t] 3 ∧ At w13 b3 #[val x, val f] 26 from ⟨X12.out.1.but hb13 X7.out.2.2.2.2.2.2.1, X12.out.2.1.but hb13 NV.out.2.2.2.2, X12.out.2.2.but hb13 (fun e => by have := X7.out.2.2.2.2.2.2.2; have := L12.out.off.2.2.2; omega)⟩)
        have SN := Lib.hid (show s'.N = s7.N from C12.out.same.N.trans SM10.out.N)
        have U13 := Lib.hid (show s'.u ≤ 500 by have e : s'.u = s10.u := (by rw [C12.out.eq]); have := U10.out; omega)
        clear hm13 hb13 ev L12 C12 B12 X12
        cases gone
        · simp only [Bool.false_eq_true, if_false] at Q12
          have d2 : w13.cell? ⟨b2, 0, none⟩ = some (.int .i64 t) := X13.out.2.1.cell 0
          have d3 : w13.cell? ⟨b3, 1, none⟩ = some (.int .u8 (f.toNat : Int)) := X13.out.2.2.cell 1
          obtain ⟨w14, hrun2, hm14, hb14⟩ := L13.out.map.store Tryz.underlying35 L13.out.under (by unfold maxLen; omega) i64 (val f)
          rw [← vals_set] at hm14
          have L14 := Lib.hid (L13.out.turn hm14 hb14 (fun u hu => by
            unfold Hv.set at hu
            by_cases e : u = t
            · rw [e, SN.out]; exact T7.out
            · rw [if_neg e] at hu; exact L13.out.dom u hu))
          have d1 : w14.cell? ⟨b1, 0, none⟩ = some (ptr R) := (X13.out.1.but hb14 X7.out.2.2.2.2.2.2.1).cell 0
          have eH : (H7.del t).set t f = H7.set t f := by
            funext u
            unfold Hv.set Hv.del
            by_cases e : u = t
            · simp [e]
            · simp [e]
          rw [eH] at L14
          clear hm14 hb14 eH
          have hr2 := hrun2
          unfold val at hr2
          go_wp2_with fail
          refine (holds_any false Kept read_calm L14.out Q12.out (by have := U13.out; omega)).mono ?_
          rintro e w15 ⟨rfl, s15, k1, k2, k3, k4, k5⟩
          have B15 := Lib.hid (B2.out.trans (k1.sys.below.mono B2.out.size))
          clear k1 k2 k3 k4 k5
          go_wp2
          go_ret
          exact ⟨rfl, B15.out⟩
        · simp only [if_true] at Q12
          have d1 : w13.cell? ⟨b1, 0, none⟩ = some (ptr R) := X13.out.1.cell 0
          go_wp2_with fail
          refine (holds_any false Kept read_calm L13.out Q12.out (by have := U13.out; omega)).mono ?_
          rintro e w15 ⟨rfl, s15, k1, k2, k3, k4, k5⟩
          have B15 := Lib.hid (B2.out.trans (k1.sys.below.mono B2.out.size))
          clear k1 k2 k3 k4 k5
          go_wp2
          go_ret
          exact ⟨rfl, B15.out⟩
end Go.Proofs.YtapbphkhbhcdkaaGreat
