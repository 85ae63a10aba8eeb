/-
  THE WALK OF ArrayTwo; two small numbers that come in.
-/
import Derived.Test.YtapbphkhbhcdkaaBrk
namespace Go.Proofs.Ytapbphkhbhcdkaa
open Go.RowKit Go.Maps
set_option linter.unusedVariables false
set_option maxRecDepth 100000

section
open Go.ChangeShapes Go.WideShapes Go.ChangeAt Go.Deep
variable {H : Type} {enc : TypeId × Value → H} {w : World}
theorem cells45 : Try.prog.cellsOf 45 = 2 := by kernel_rfl
theorem cells5 : Try.prog.cellsOf 5 = 1 := by kernel_rfl
/-- Two small numbers that come in. -/
theorem pair_in {r : Reach} {base : Nat} {v : Value} {d : DataW H} {p : List MemPlace} (hv : Value.okWide Try.prog w r base 45 v) (h : DataW.Trod enc Try.prog w 0 (fun _ => true) true 45 v d p) :
    ∃ a b : Int, v = .agg #[.int .u8 a, .int .u8 b] ∧ Byte a ∧ Byte b := by
  simp only [Value.okWide, Try.underlying45] at hv
  obtain ⟨⟨cs⟩, rfl, hsz, _⟩ := hv
  obtain ⟨fuel, hf⟩ := h
  obtain ⟨xs, m, _, _, hl, hxl, hi⟩ := DataW.trod_array Try.underlying45 hf
  have hl2 : cs.length = 2 := by rw [cells45] at hsz; simpa using hsz
  match cs, hl2 with
  | [v0, v1], _ =>
    match xs, hxl with
    | [z0, z1], _ =>
      have t0 := hi 0 (by omega)
      have t1 := hi 1 (by omega)
      rw [cells5] at t0 t1
      obtain ⟨a0, e0, _, w0⟩ := DataW.trod_int Try.underlying5 (show DataW.trod enc Try.prog w 0 (fun _ => true) true m 5 [v0] = some z0 from t0)
      obtain ⟨a1, e1, _, w1⟩ := DataW.trod_int Try.underlying5 (show DataW.trod enc Try.prog w 0 (fun _ => true) true m 5 [v1] = some z1 from t1)
      injection e0 with e0
      injection e1 with e1
      subst e0 e1
      have wf : ∀ x : Int, (Lit.int IntKind.u8 x).wf = true → Byte x := by
        intro x h
        unfold Byte
        simpa [Lit.wf, IntKind.min, IntKind.max, IntKind.signed, IntKind.bits] using h
      exact ⟨a0, a1, rfl, wf _ w0, wf _ w1⟩
end
section
variable {w w' : World} {s s' : AS} {m : Nat} {i er : Int} {v : Value}
theorem chunk_gone (h : ChunkAs w w' s s' m i v er) (hb : s.broken = true) : er = 3 ∧ v = .slice none 0 0 ∧ Gone 12 s s' := by
  cases h with
  | got _ hr _ _ _ _ => have := hr.whole.1; rw [hb] at this; cases this
  | rest _ hr _ _ => have := hr.whole.1; rw [hb] at this; cases this
  | gone hg => exact ⟨rfl, rfl, hg⟩
theorem same_gone (h : SameAs w w' s s' i v er) (hb : s.broken = true) : er = 3 ∧ v = .slice none 0 0 ∧ Gone 4 s s' := by
  cases h with
  | got _ _ _ hr _ _ => have := hr.whole.1; rw [hb] at this; cases this
  | gone hg => exact ⟨rfl, rfl, hg⟩
theorem each_gone {f : Nat → DS → Int → DS} (h : EachAs f s s' er) (hb : s.broken = true) : er = 3 ∧ Gone 10 s s' := by
  cases h with
  | done hr _ => have := hr.whole.1; rw [hb] at this; cases this
  | gone hg => exact ⟨rfl, hg⟩
theorem can_broken (hb : s.broken = true) : s.can = 3 := by unfold AS.can; rw [if_pos hb]
end
/-- What is kept while any member may fail. -/
def Kept2 (s : AS) (H : Hv) : Prop := s.broken = true ∨ Inv s H
theorem whole_inv {s : AS} {H : Hv} (h : Kept2 s H) (hb : s.broken = false) : Inv s H := by
  rcases h with e | e
  · rw [hb] at e; cases e
  · exact e
theorem put_two : PutInv true Kept2 where
  step := fun s s' H t f h _ _ _ hr ht => .inr (inv_put (whole_inv h hr.whole.1) hr ht)
  gone := fun s s' H t h hg => ⟨rfl, .inl hg.broken⟩
theorem read_two : ReadInv true Kept2 where
  right := fun s H h hb => whole_inv h hb
  read := fun s s' H h hr => .inr (inv_read (whole_inv h hr.whole.1) hr)
  gone := fun s s' H h hg => ⟨rfl, .inl hg.broken⟩
theorem two_cell {w : World} {b : Nat} {x y : Int} (h : At w b #[.int .u8 x, .int .u8 y] 45) (hx : Byte x) (hy : Byte y) {j : Nat} (hj : j < 2) : ∃ z : Int, w.cell? ⟨b, j, none⟩ = some (.int .u8 z) ∧ 0 ≤ z ∧ z ≤ 255 := by
  match j, hj with
  | 0, _ => exact ⟨x, h.cell 0, hx⟩
  | 1, _ => exact ⟨y, h.cell 1, hy⟩
set_option maxHeartbeats 6400000 in
theorem two_walk (x0 x1 x2 x3 x4 x5 : Int) (A : Option Addr) (n c : Nat) (xs : List (BitVec 8 × BitVec 8)) {w : World} (hst : St w A n xs) (A' : Option Addr) (n' c' : Nat) (xs' : List (BitVec 8 × BitVec 8)) (hst' : St w A' n' xs') (m0 m1 o0 o1 : Int) (h0 : 0 ≤ x0 ∧ x0 ≤ 255) (h1 : 0 ≤ x1 ∧ x1 ≤ 255) (h2 : 0 ≤ x2 ∧ x2 ≤ 255) (h3 : 0 ≤ x3 ∧ x3 ≤ 255) (h4 : 0 ≤ x4 ∧ x4 ≤ 255) (h5 : 0 ≤ x5 ∧ x5 ≤ 255) (hm0 : Byte m0) (hm1 : Byte m1) (ho0 : Byte o0) (ho1 : Byte o1) :
    Calls Try.prog 4 #[.agg #[.int .u8 x0, .int .u8 x1, .int .u8 x2, .int .u8 x3, .int .u8 x4, .int .u8 x5], .slice A n c, .slice A' n' c', .agg #[.int .u8 m0, .int .u8 m1], .agg #[.int .u8 o0, .int .u8 o1]] w fun e w' => e = .returned (.bool true) ∧ Below w.heap.size w w' := by
  have ST := Lib.hid hst
  have ST' := Lib.hid hst'
  clear hst hst'
  obtain ⟨M0, b, g, sg, n0, l0, hsm, hshape⟩ := shape_small x0 x1 x2 x3 x4 x5 h0 h1 h2 h3 h4 h5
  obtain ⟨M, rfl⟩ : ∃ M : Nat, M0 = (M : Int) := ⟨M0.toNat, by have := hsm.hm; omega⟩
  have SM := Lib.hid hsm
  have SH := Lib.hid hshape
  clear hsm hshape
  go_enter Try.func4, Try.ntmps4
  go_wp2_with fail
  have A0 := Lib.hid (show At (((w.alloc (.cells #[.int .u8 x0, .int .u8 x1, .int .u8 x2, .int .u8 x3, .int .u8 x4, .int .u8 x5] 23)).alloc (.cells #[.int .u8 m0, .int .u8 m1] 45)).alloc (.cells #[.int .u8 o0, .int .u8 o1] 45)) w.heap.size #[.int .u8 x0, .int .u8 x1, .int .u8 x2, .int .u8 x3, .int .u8 x4, .int .u8 x5] 23 from ((At.new (w := w) #[.int .u8 x0, .int .u8 x1, .int .u8 x2, .int .u8 x3, .int .u8 x4, .int .u8 x5] 23 rfl).alloc _).alloc _)
  have AM := Lib.hid (show At (((w.alloc (.cells #[.int .u8 x0, .int .u8 x1, .int .u8 x2, .int .u8 x3, .int .u8 x4, .int .u8 x5] 23)).alloc (.cells #[.int .u8 m0, .int .u8 m1] 45)).alloc (.cells #[.int .u8 o0, .int .u8 o1] 45)) (w.heap.size + 1) #[.int .u8 m0, .int .u8 m1] 45 from (At.new (w := w.alloc (.cells #[.int .u8 x0, .int .u8 x1, .int .u8 x2, .int .u8 x3, .int .u8 x4, .int .u8 x5] 23)) #[.int .u8 m0, .int .u8 m1] 45 (by simp)).alloc _)
  have AO := Lib.hid (show At (((w.alloc (.cells #[.int .u8 x0, .int .u8 x1, .int .u8 x2, .int .u8 x3, .int .u8 x4, .int .u8 x5] 23)).alloc (.cells #[.int .u8 m0, .int .u8 m1] 45)).alloc (.cells #[.int .u8 o0, .int .u8 o1] 45)) (w.heap.size + 1 + 1) #[.int .u8 o0, .int .u8 o1] 45 from At.new #[.int .u8 o0, .int .u8 o1] 45 (by simp))
  have B0 := Lib.hid (show Below w.heap.size w (((w.alloc (.cells #[.int .u8 x0, .int .u8 x1, .int .u8 x2, .int .u8 x3, .int .u8 x4, .int .u8 x5] 23)).alloc (.cells #[.int .u8 m0, .int .u8 m1] 45)).alloc (.cells #[.int .u8 o0, .int .u8 o1] 45)) from (((Below.refl w.heap.size w).alloc (Nat.le_refl _) _).alloc (by simp) _).alloc (by simp; omega) _)
  generalize (((w.alloc (.cells #[.int .u8 x0, .int .u8 x1, .int .u8 x2, .int .u8 x3, .int .u8 x4, .int .u8 x5] 23)).alloc (.cells #[.int .u8 m0, .int .u8 m1] 45)).alloc (.cells #[.int .u8 o0, .int .u8 o1] 45)) = wb at *
  refine (awake_any _).mono ?_
  rintro e w1 ⟨rfl, hbl⟩
  have A1 := Lib.hid (A0.out.below hbl A0.out.lt)
  have AM1 := Lib.hid (AM.out.below hbl AM.out.lt)
  have AO1 := Lib.hid (AO.out.below hbl AO.out.lt)
  have B1 := Lib.hid (B0.out.trans (hbl.mono B0.out.size))
  clear hbl A0 B0 AM AO
  have c0 : w1.cell? ⟨w.heap.size, 0, none⟩ = some (.int .u8 x0) := A1.out.cell 0
  have c1 : w1.cell? ⟨w.heap.size, 1, none⟩ = some (.int .u8 x1) := A1.out.cell 1
  have c2 : w1.cell? ⟨w.heap.size, 2, none⟩ = some (.int .u8 x2) := A1.out.cell 2
  have c3 : w1.cell? ⟨w.heap.size, 3, none⟩ = some (.int .u8 x3) := A1.out.cell 3
  have c4 : w1.cell? ⟨w.heap.size, 4, none⟩ = some (.int .u8 x4) := A1.out.cell 4
  have c5 : w1.cell? ⟨w.heap.size, 5, none⟩ = some (.int .u8 x5) := A1.out.cell 5
  by_cases hn0 : 8 < n
  · have hn0' : (8 : Int) < (n : Int) := by omega
    clear c0 c1 c2 c3 c4 c5
    go_wp2
    go_ret
    exact ⟨rfl, B1.out⟩
  by_cases hn1 : 8 < n'
  · have hn1' : (8 : Int) < (n' : Int) := by omega
    clear c0 c1 c2 c3 c4 c5
    go_wp2
    go_ret
    exact ⟨rfl, B1.out⟩
  go_wp2_with fail
  refine (SH.out w1).mono ?_
  rintro e w2 ⟨rfl, hbl⟩
  have B2 := Lib.hid (B1.out.trans (hbl.mono B1.out.size))
  have AM2 := Lib.hid (AM1.out.below hbl AM1.out.lt)
  have AO2 := Lib.hid (AO1.out.below hbl AO1.out.lt)
  clear hbl AM1 AO1 A1 c0 c1 c2 c3 c4 c5 SH
  go_wp2_with fail
  refine (New_any M b g sg n0 l0 SM.out w2).mono ?_
  rintro e w3 ⟨R, q, cap, P, O, S0, z, rfl, hsys, hS, hz⟩
  obtain ⟨s, hy, hcalm, hu, rfl, rfl, rfl, rfl, rfl, rfl, hd⟩ := init_facts hsys hz
  have HY := Lib.hid hy
  have CM := Lib.hid hcalm
  have HU := Lib.hid hu
  have HD := Lib.hid hd
  have B3 := Lib.hid (B2.out.trans (hy.below.mono B2.out.size))
  have hMs := hy.rg.arr.many
  obtain ⟨r0, r1, r2, r3, r4, r5⟩ := hy.shape
  clear hsys hS hz hy hcalm hu hd SM B1
  clear r0 r1 r2 r3 r4 r5
  have ST2 := Lib.hid (ST.out.below B2.out)
  have ST2' := Lib.hid (ST'.out.below B2.out)
  have hmk : ∀ w : World, (Instr.makeMap 38 none).run Try.prog w = .ok (.map (some w.heap.size)) (w.alloc (.map #[] 0)) := fun w => by kernel_rfl
  go_wp2_with fail
  clear hmk
  have L4 := Lib.hid HY.out.begin_
  obtain ⟨hb, hhb⟩ : ∃ hb, hb = w3.heap.size := ⟨_, rfl⟩
  rw [← hhb] at L4 ⊢
  generalize w3.alloc (.map #[] 0) = w4 at *
  clear hhb B3 HY
  have X0 := Lib.hid (show w.heap.size + 1 + 1 < w2.heap.size from AO2.out.lt)
  go_wp2_with fail
  go_loopw [38] (fun i wr => ∃ j : Nat, j ≤ 2 ∧ i = .int .i64 (j : Int) ∧ ∃ s1, Lw w2.heap.size w2 wr R q cap P O s1 hb (fun _ => none) ∧ s1.u = 1) (fun i _ => 2 - (RowKit.intOf i).toNat)
  case atStart => exact ⟨0, Nat.zero_le _, rfl, s, L4.out, HU.out⟩
  case round =>
    obtain ⟨j, hj, rfl, s1, k1, k2⟩ := hrel
    have L5 := Lib.hid k1
    have U5 := Lib.hid k2
    clear k1 k2 L4 CM HU HD hMs
    by_cases hlt : j < 2
    · have hlt' : (j : Int) < 2 := by omega
      obtain ⟨m, hcm, bm⟩ := two_cell (At.below AM2.out L5.out.sys.below (by have := X0.out; omega)) hm0 hm1 hlt
      obtain ⟨ops, hco, bo⟩ := two_cell (At.below AO2.out L5.out.sys.below (by have := X0.out; omega)) ho0 ho1 hlt
      have hMs1 := L5.out.sys.rg.arr.many
      obtain ⟨k, hk⟩ : ∃ k : Nat, m % (s1.M : Int) = (k : Int) := ⟨(m % (s1.M : Int)).toNat, by have := Int.emod_nonneg m (show (s1.M : Int) ≠ 0 by omega); omega⟩
      have HM := Lib.hid hk
      have ML := Lib.hid (show k < s1.M by have := Int.emod_lt_of_pos m (show 0 < (s1.M : Int) by omega); omega)
      have UE := Lib.hid (show IntKind.i64.wrap (s1.u + ops) = s1.u + ops from wrap_of (by have := U5.out; omega) (by have := U5.out; omega))
      clear hk
      go_wp2_with fail
      have S0 : (fun w' : World => w'.cell? ⟨R, 7, none⟩ = some (.slice (some ⟨q, 0, none⟩) s1.M cap) ∧ w'.cell? ⟨R, 0, none⟩ = some (.int .i64 (s1.M : Int)) ∧ w'.cell? ⟨R, 6, none⟩ = some (ptr P.p) ∧ (∀ i, i < s1.M → w'.cell? ⟨q, i, none⟩ = some (ptr (P.g i))) ∧ w'.cell? ⟨w.heap.size + 1, j, none⟩ = some (.int .u8 m) ∧ w'.cell? ⟨w.heap.size + 1 + 1, j, none⟩ = some (.int .u8 ops)) wr.drew := ⟨L5.out.cells.2.2.1, L5.out.cells.1, L5.out.cells.2.1, L5.out.sys.rg.row.2, hcm, hco⟩
      refine wp_region_early (fun w' : World => w'.cell? ⟨R, 7, none⟩ = some (.slice (some ⟨q, 0, none⟩) s1.M cap) ∧ w'.cell? ⟨R, 0, none⟩ = some (.int .i64 (s1.M : Int)) ∧ w'.cell? ⟨R, 6, none⟩ = some (ptr P.p) ∧ (∀ i, i < s1.M → w'.cell? ⟨q, i, none⟩ = some (ptr (P.g i))) ∧ w'.cell? ⟨w.heap.size + 1, j, none⟩ = some (.int .u8 m) ∧ w'.cell? ⟨w.heap.size + 1 + 1, j, none⟩ = some (.int .u8 ops)) (fun _ => true) (by kernel_rfl) ?_
      change wpEarly _ _ _ _ _ _ 27 (Array.replicate 27 false) _ wr.drew
      clear hcm hco
      refine early_take (i := 0) 41 (ptr R) rfl rfl (by kernel_rfl) (by kernel_rfl) (by kernel_rfl) (by kernel_rfl) rfl (fun _ _ _ h => h) (fun w' hw' => by go_simp) S0 ?_
      simp only [Act.put, List.setIfInBounds_toArray, List.set_cons_zero, List.set_cons_succ]
      refine early_take (i := 1) 42 (ptr R) rfl rfl (by kernel_rfl) (by kernel_rfl) (by kernel_rfl) (by kernel_rfl) rfl (fun _ _ _ h => h) (fun w' hw' => by go_simp) S0 ?_
      simp only [Act.put, List.setIfInBounds_toArray, List.set_cons_zero, List.set_cons_succ]
      refine early_take (i := 2) 43 (.pointer (some ⟨R, 7, none⟩)) rfl rfl (by kernel_rfl) (by kernel_rfl) (by kernel_rfl) (by kernel_rfl) rfl (fun _ _ _ h => h) (fun w' hw' => by go_simp) S0 ?_
      simp only [Act.put, List.setIfInBounds_toArray, List.set_cons_zero, List.set_cons_succ]
      refine early_take (i := 3) 44 (.slice (some ⟨q, 0, none⟩) s1.M cap) rfl rfl (by kernel_rfl) (by kernel_rfl) (by kernel_rfl) (by kernel_rfl) rfl (fun _ _ _ h => h) (fun w' hw' => by obtain ⟨k1, k2, k3, k4, k5, k6⟩ := hw'; go_simp) S0 ?_
      simp only [Act.put, List.setIfInBounds_toArray, List.set_cons_zero, List.set_cons_succ]
      refine early_take (i := 4) 45 (.int .i64 (j : Int)) rfl rfl (by kernel_rfl) (by kernel_rfl) (by kernel_rfl) (by kernel_rfl) rfl (fun _ _ _ h => h) (fun w' hw' => by go_simp) S0 ?_
      simp only [Act.put, List.setIfInBounds_toArray, List.set_cons_zero, List.set_cons_succ]
      refine early_take (i := 5) 46 (.pointer (some ⟨w.heap.size + 1, j, none⟩)) rfl rfl (by kernel_rfl) (by kernel_rfl) (by kernel_rfl) (by kernel_rfl) rfl (fun _ _ _ h => h) (fun w' hw' => by go_simp) S0 ?_
      simp only [Act.put, List.setIfInBounds_toArray, List.set_cons_zero, List.set_cons_succ]
      refine early_take (i := 6) 47 (.int .u8 m) rfl rfl (by kernel_rfl) (by kernel_rfl) (by kernel_rfl) (by kernel_rfl) rfl (fun _ _ _ h => h) (fun w' hw' => by obtain ⟨k1, k2, k3, k4, k5, k6⟩ := hw'; go_simp) S0 ?_
      simp only [Act.put, List.setIfInBounds_toArray, List.set_cons_zero, List.set_cons_succ]
      refine early_take (i := 7) 48 (.int .i64 m) rfl rfl (by kernel_rfl) (by kernel_rfl) (by kernel_rfl) (by kernel_rfl) rfl (fun _ _ _ h => h) (fun w' hw' => by have e1 : IntKind.i64.wrap m = m := wrap_of (by omega) (by omega); go_simp) S0 ?_
      simp only [Act.put, List.setIfInBounds_toArray, List.set_cons_zero, List.set_cons_succ]
      refine early_take (i := 8) 49 (ptr R) rfl rfl (by kernel_rfl) (by kernel_rfl) (by kernel_rfl) (by kernel_rfl) rfl (fun _ _ _ h => h) (fun w' hw' => by go_simp) S0 ?_
      simp only [Act.put, List.setIfInBounds_toArray, List.set_cons_zero, List.set_cons_succ]
      refine early_take (i := 9) 50 (ptr R) rfl rfl (by kernel_rfl) (by kernel_rfl) (by kernel_rfl) (by kernel_rfl) rfl (fun _ _ _ h => h) (fun w' hw' => by go_simp) S0 ?_
      simp only [Act.put, List.setIfInBounds_toArray, List.set_cons_zero, List.set_cons_succ]
      refine early_take (i := 10) 51 (ptr R) rfl rfl (by kernel_rfl) (by kernel_rfl) (by kernel_rfl) (by kernel_rfl) rfl (fun _ _ _ h => h) (fun w' hw' => by go_simp) S0 ?_
      simp only [Act.put, List.setIfInBounds_toArray, List.set_cons_zero, List.set_cons_succ]
      refine early_take (i := 11) 52 (ptr R) rfl rfl (by kernel_rfl) (by kernel_rfl) (by kernel_rfl) (by kernel_rfl) rfl (fun _ _ _ h => h) (fun w' hw' => by go_simp) S0 ?_
      simp only [Act.put, List.setIfInBounds_toArray, List.set_cons_zero, List.set_cons_succ]
      refine early_take (i := 12) 53 (.int .i64 (s1.M : Int)) rfl rfl (by kernel_rfl) (by kernel_rfl) (by kernel_rfl) (by kernel_rfl) rfl (fun _ _ _ h => h) (fun w' hw' => by obtain ⟨k1, k2, k3, k4, k5, k6⟩ := hw'; go_simp) S0 ?_
      simp only [Act.put, List.setIfInBounds_toArray, List.set_cons_zero, List.set_cons_succ]
      refine early_take (i := 13) 54 (.int .i64 (k : Int)) rfl rfl (by kernel_rfl) (by kernel_rfl) (by kernel_rfl) (by kernel_rfl) rfl (fun _ _ _ h => h) (fun w' hw' => by have e1 : m.tmod (s1.M : Int) = (k : Int) := (by rw [Int.tmod_eq_emod_of_nonneg bm.1]; exact HM.out); have e2 : ¬ s1.M = 0 := (by omega); go_simp) S0 ?_
      simp only [Act.put, List.setIfInBounds_toArray, List.set_cons_zero, List.set_cons_succ]
      refine early_take (i := 14) 55 (.pointer (some ⟨q, k, none⟩)) rfl rfl (by kernel_rfl) (by kernel_rfl) (by kernel_rfl) (by kernel_rfl) rfl (fun _ _ _ h => h) (fun w' hw' => by have m1 := ML.out; have m2 : (k : Int) < (s1.M : Int) := (by omega); go_simp) S0 ?_
      simp only [Act.put, List.setIfInBounds_toArray, List.set_cons_zero, List.set_cons_succ]
      refine early_take (i := 15) 56 (ptr (P.g k)) rfl rfl (by kernel_rfl) (by kernel_rfl) (by kernel_rfl) (by kernel_rfl) rfl (fun _ _ _ h => h) (fun w' hw' => by obtain ⟨k1, k2, k3, k4, k5, k6⟩ := hw'; have k7 := k4 k ML.out; go_simp) S0 ?_
      simp only [Act.put, List.setIfInBounds_toArray, List.set_cons_zero, List.set_cons_succ]
      refine early_take (i := 16) 57 (ptr R) rfl rfl (by kernel_rfl) (by kernel_rfl) (by kernel_rfl) (by kernel_rfl) rfl (fun _ _ _ h => h) (fun w' hw' => by go_simp) S0 ?_
      simp only [Act.put, List.setIfInBounds_toArray, List.set_cons_zero, List.set_cons_succ]
      refine early_take (i := 17) 58 (ptr R) rfl rfl (by kernel_rfl) (by kernel_rfl) (by kernel_rfl) (by kernel_rfl) rfl (fun _ _ _ h => h) (fun w' hw' => by go_simp) S0 ?_
      simp only [Act.put, List.setIfInBounds_toArray, List.set_cons_zero, List.set_cons_succ]
      refine early_take (i := 18) 59 (.pointer (some ⟨R, 6, none⟩)) rfl rfl (by kernel_rfl) (by kernel_rfl) (by kernel_rfl) (by kernel_rfl) rfl (fun _ _ _ h => h) (fun w' hw' => by go_simp) S0 ?_
      simp only [Act.put, List.setIfInBounds_toArray, List.set_cons_zero, List.set_cons_succ]
      refine early_take (i := 19) 60 (ptr P.p) rfl rfl (by kernel_rfl) (by kernel_rfl) (by kernel_rfl) (by kernel_rfl) rfl (fun _ _ _ h => h) (fun w' hw' => by obtain ⟨k1, k2, k3, k4, k5, k6⟩ := hw'; go_simp) S0 ?_
      simp only [Act.put, List.setIfInBounds_toArray, List.set_cons_zero, List.set_cons_succ]
      refine early_take (i := 21) 62 (.int .i64 (j : Int)) rfl rfl (by kernel_rfl) (by kernel_rfl) (by kernel_rfl) (by kernel_rfl) rfl (fun _ _ _ h => h) (fun w' hw' => by go_simp) S0 ?_
      simp only [Act.put, List.setIfInBounds_toArray, List.set_cons_zero, List.set_cons_succ]
      refine early_take (i := 22) 63 (.pointer (some ⟨w.heap.size + 1 + 1, j, none⟩)) rfl rfl (by kernel_rfl) (by kernel_rfl) (by kernel_rfl) (by kernel_rfl) rfl (fun _ _ _ h => h) (fun w' hw' => by go_simp) S0 ?_
      simp only [Act.put, List.setIfInBounds_toArray, List.set_cons_zero, List.set_cons_succ]
      refine early_take (i := 23) 64 (.int .u8 ops) rfl rfl (by kernel_rfl) (by kernel_rfl) (by kernel_rfl) (by kernel_rfl) rfl (fun _ _ _ h => h) (fun w' hw' => by obtain ⟨k1, k2, k3, k4, k5, k6⟩ := hw'; go_simp) S0 ?_
      simp only [Act.put, List.setIfInBounds_toArray, List.set_cons_zero, List.set_cons_succ]
      refine early_take (i := 24) 65 (.int .i64 ops) rfl rfl (by kernel_rfl) (by kernel_rfl) (by kernel_rfl) (by kernel_rfl) rfl (fun _ _ _ h => h) (fun w' hw' => by have e1 : IntKind.i64.wrap ops = ops := wrap_of (by omega) (by omega); go_simp) S0 ?_
      simp only [Act.put, List.setIfInBounds_toArray, List.set_cons_zero, List.set_cons_succ]
      refine early_only (i := 20) (by kernel_rfl) rfl (fun K hK => ?_)
      simp only [opWp, List.getElem?_toArray, List.getElem?_cons_succ, List.getElem?_cons_zero]
      go_simp
      go_at_call 15
      refine (used_sys L5.out.drew.sys).mono ?_
      rintro e w5 ⟨rfl, rfl⟩
      refine hK _ _ (fun _ => S0) ?_
      refine early_take (i := 25) 66 (.int .i64 (s1.u + ops)) rfl rfl (by kernel_rfl) (by kernel_rfl) (by kernel_rfl) (by kernel_rfl) rfl (fun _ _ _ h => h) (fun w' hw' => by have ue := UE.out; go_simp) S0 ?_
      simp only [Act.put, List.setIfInBounds_toArray, List.set_cons_zero, List.set_cons_succ]
      refine early_only (i := 26) (by kernel_rfl) rfl (fun K hK => ?_)
      simp only [opWp, List.getElem?_toArray, List.getElem?_cons_succ, List.getElem?_cons_zero]
      go_simp
      go_at_call 14
      refine (failAt_sys (s1.u + ops) ML.out L5.out.drew.sys).mono ?_
      rintro e w6 ⟨rfl, k1, k2, k3⟩
      have L6 := Lib.hid (L5.out.drew.keep (Same.hurt s1 k { s1.d k with failAt := s1.u + ops }) k1 k3)
      have U6 := Lib.hid (show (s1.hurt k { s1.d k with failAt := s1.u + ops }).u = 1 from U5.out)
      have S1 : (fun w' : World => w'.cell? ⟨R, 7, none⟩ = some (.slice (some ⟨q, 0, none⟩) s1.M cap) ∧ w'.cell? ⟨R, 0, none⟩ = some (.int .i64 (s1.M : Int)) ∧ w'.cell? ⟨R, 6, none⟩ = some (ptr P.p) ∧ (∀ i, i < s1.M → w'.cell? ⟨q, i, none⟩ = some (ptr (P.g i))) ∧ w'.cell? ⟨w.heap.size + 1, j, none⟩ = some (.int .u8 m) ∧ w'.cell? ⟨w.heap.size + 1 + 1, j, none⟩ = some (.int .u8 ops)) w6 := ⟨L6.out.cells.2.2.1, L6.out.cells.1, L6.out.cells.2.1, L6.out.sys.rg.row.2, by
        obtain ⟨_, _, _, _, e1, _⟩ := S0
        exact (k3.cell (p := ⟨w.heap.size + 1, j, none⟩) (by have h1 := X0.out; have h2 := L5.out.sys.size; show w.heap.size + 1 < wr.drew.heap.size; simp; omega) (fun e => by have h1 := X0.out; have h2 := L5.out.sys.own _ e; simp at h2; omega)).trans e1, by
        obtain ⟨_, _, _, _, _, e1⟩ := S0
        exact (k3.cell (p := ⟨w.heap.size + 1 + 1, j, none⟩) (by have h1 := X0.out; have h2 := L5.out.sys.size; show w.heap.size + 1 + 1 < wr.drew.heap.size; simp; omega) (fun e => by have h1 := X0.out; have h2 := L5.out.sys.own _ e; simp at h2; omega)).trans e1⟩
      clear k1 k2 k3
      refine hK _ _ (fun _ => S1) ?_
      clear S0
      refine early_done (by kernel_rfl) ?_
      clear S1 L5 UE U5
      go_wp2_with fail
      go_roundw
      case rel => exact ⟨j + 1, by omega, by go_num, _, L6.out, U6.out⟩
      case measure => simp [RowKit.intOf]; omega
    · obtain rfl : j = 2 := by omega
      clear AM2 AO2 X0 hm0 hm1 ho0 ho1
      go_wp2_with fail
      refine (put_any true Kept2 put_two A n c xs (by omega) ST2.out rfl L5.out (.inr (inv_none s1)) (by have := U5.out; omega)).mono ?_
      rintro e w7 ⟨rfl, O7, s7, H7, k1, k2, k3, k4, k5, k6⟩
      have L7 := Lib.hid k1
      have Q7 := Lib.hid k3
      have U7 := Lib.hid (show s7.u ≤ 400 by have := U5.out; omega)
      clear k1 k2 k3 k4 k5 k6 L5 U5
      go_wp2_with fail
      refine (holds_any true Kept2 read_two L7.out Q7.out (by have := U7.out; omega)).mono ?_
      rintro e w8 ⟨rfl, s8, k1, k2, k3, k4, k5⟩
      have L8 := Lib.hid k1
      have Q8 := Lib.hid k3
      have U8 := Lib.hid (show s8.u ≤ 2000 by have := U7.out; omega)
      clear k1 k2 k3 k4 k5 L7 Q7 U7
      go_wp2_with fail
      refine (put_any true Kept2 put_two A' n' c' xs' (by omega) ST2'.out rfl L8.out Q8.out (by have := U8.out; omega)).mono ?_
      rintro e w9 ⟨rfl, O9, s9, H9, k1, k2, k3, k4, k5, k6⟩
      have L9 := Lib.hid k1
      have Q9 := Lib.hid k3
      have U9 := Lib.hid (show s9.u ≤ 3000 by have := U8.out; omega)
      clear k1 k2 k3 k4 k5 k6 L8 Q8 U8
      go_wp2_with fail
      refine (holds_any true Kept2 read_two L9.out Q9.out (by have := U9.out; omega)).mono ?_
      rintro e w10 ⟨rfl, s10, k1, k2, k3, k4, k5⟩
      have L10 := Lib.hid k1
      have U10 := Lib.hid (show s10.u ≤ 5000 by have := U9.out; omega)
      clear k1 k2 k3 k4 k5 L9 Q9 U9 ST ST' ST2 ST2'
      have r9 := L10.out.cells.2.2.2.2
      go_wp2_with fail
      refine (broken_any L10.out.sys.rg.arr).mono ?_
      rintro e w11 ⟨rfl, rfl⟩
      cases hbr : s10.broken with
      | false =>
        have B10 := Lib.hid (B2.out.trans (L10.out.sys.below.mono B2.out.size))
        go_wp2
        go_ret
        exact ⟨rfl, B10.out⟩
      | true =>
      have Y := Lib.hid L10.out.sys
      have BR := Lib.hid hbr
      have hMs := Y.out.rg.arr.many
      have HN := Lib.hid Y.out.rg.arr.wf.n
      clear hbr L10
      go_wp2_with fail
      obtain ⟨m, hm⟩ : ∃ m : Nat, (0 + 1 + 0 : Int) % (s10.M : Int) = (m : Int) := ⟨((0 + 1 + 0 : Int) % (s10.M : Int)).toNat, by have := Int.emod_nonneg (0 + 1 + 0 : Int) (show (s10.M : Int) ≠ 0 by omega); omega⟩
      refine (Chunk_any 0 0 m (by have := HN.out; omega) (by omega) hm Y.out.rg.arr (by have := U10.out; omega)).mono ?_
      rintro e w12 ⟨v, er, s12, rfl, k1, k2, k3⟩
      obtain ⟨rfl, rfl, hg⟩ := chunk_gone k3 BR.out
      have Y12 := Lib.hid (Y.out.keep hg.same k1 k2)
      have BR12 := Lib.hid hg.broken
      have U12 := Lib.hid (show s12.u ≤ 6000 by have := hg.u.2; have := U10.out; omega)
      clear k1 k2 k3 hg r9 Y BR U10 hMs HN hm
      have r9 : w12.cell? ⟨R, 9, none⟩ = some (ptr P.a) := Y12.out.rg.rig.cell 9
      have SP := Lib.hid (show 0 < (s12.S : Int) by have h1 := Y12.out.rg.arr.wf.sect; have h2 := Y12.out.rg.arr.wf.some_; have h3 := Y12.out.rg.arr.wf.n; unfold AS.N at h3; omega)
      go_wp2_with fail
      refine (Same_any 0 (by have := SP.out; omega) Y12.out.rg.arr (by have := U12.out; omega)).mono ?_
      rintro e w13 ⟨v, er, s13, rfl, k1, k2, k3⟩
      obtain ⟨rfl, rfl, hg⟩ := same_gone k3 BR12.out
      have Y13 := Lib.hid (Y12.out.keep hg.same k1 k2)
      have BR13 := Lib.hid hg.broken
      have U13 := Lib.hid (show s13.u ≤ 7000 by have := hg.u.2; have := U12.out; omega)
      clear k1 k2 k3 hg r9 Y12 BR12 U12 SP
      have S0 : (fun w' : World => w'.cell? ⟨R, 9, none⟩ = some (ptr P.a) ∧ w'.rangeAt R 0 s13.sh) w13.drew := ⟨Y13.out.rg.rig.cell 9, Y13.out.range⟩
      have Y13' := Lib.hid (Y13.out.drewN 1)
      clear Y13
      go_wp2_with fail
      refine wp_region_early (fun w' : World => w'.cell? ⟨R, 9, none⟩ = some (ptr P.a) ∧ w'.rangeAt R 0 s13.sh) (fun _ => true) (by kernel_rfl) ?_
      change wpEarly _ _ _ _ _ _ 65 (Array.replicate 65 false) _ w13.drew
      refine early_take (i := 0) 115 (.int .i64 3) rfl rfl (by kernel_rfl) (by kernel_rfl) (by kernel_rfl) (by kernel_rfl) rfl (fun _ _ _ h => h) (fun w' hw' => by go_simp) S0 ?_
      simp only [Act.put, List.setIfInBounds_toArray, List.set_cons_zero, List.set_cons_succ]
      refine early_take (i := 1) 116 (.bool true) rfl rfl (by kernel_rfl) (by kernel_rfl) (by kernel_rfl) (by kernel_rfl) rfl (fun _ _ _ h => h) (fun w' hw' => by go_simp) S0 ?_
      simp only [Act.put, List.setIfInBounds_toArray, List.set_cons_zero, List.set_cons_succ]
      refine early_take (i := 2) 117 (.bool true) rfl rfl (by kernel_rfl) (by kernel_rfl) (by kernel_rfl) (by kernel_rfl) rfl (fun _ _ _ h => h) (fun w' hw' => by go_simp) S0 ?_
      simp only [Act.put, List.setIfInBounds_toArray, List.set_cons_zero, List.set_cons_succ]
      refine early_take (i := 3) 118 (.int .i64 3) rfl rfl (by kernel_rfl) (by kernel_rfl) (by kernel_rfl) (by kernel_rfl) rfl (fun _ _ _ h => h) (fun w' hw' => by go_simp) S0 ?_
      simp only [Act.put, List.setIfInBounds_toArray, List.set_cons_zero, List.set_cons_succ]
      refine early_take (i := 4) 119 (.bool true) rfl rfl (by kernel_rfl) (by kernel_rfl) (by kernel_rfl) (by kernel_rfl) rfl (fun _ _ _ h => h) (fun w' hw' => by go_simp) S0 ?_
      simp only [Act.put, List.setIfInBounds_toArray, List.set_cons_zero, List.set_cons_succ]
      refine early_take (i := 5) 120 (.bool true) rfl rfl (by kernel_rfl) (by kernel_rfl) (by kernel_rfl) (by kernel_rfl) rfl (fun _ _ _ h => h) (fun w' hw' => by go_simp) S0 ?_
      simp only [Act.put, List.setIfInBounds_toArray, List.set_cons_zero, List.set_cons_succ]
      refine early_take (i := 6) 121 (.bool true) rfl rfl (by kernel_rfl) (by kernel_rfl) (by kernel_rfl) (by kernel_rfl) rfl (fun _ _ _ h => h) (fun w' hw' => by go_simp) S0 ?_
      simp only [Act.put, List.setIfInBounds_toArray, List.set_cons_zero, List.set_cons_succ]
      refine early_take (i := 7) 122 (ptr R) rfl rfl (by kernel_rfl) (by kernel_rfl) (by kernel_rfl) (by kernel_rfl) rfl (fun _ _ _ h => h) (fun w' hw' => by go_simp) S0 ?_
      simp only [Act.put, List.setIfInBounds_toArray, List.set_cons_zero, List.set_cons_succ]
      refine early_take (i := 8) 123 (ptr R) rfl rfl (by kernel_rfl) (by kernel_rfl) (by kernel_rfl) (by kernel_rfl) rfl (fun _ _ _ h => h) (fun w' hw' => by go_simp) S0 ?_
      simp only [Act.put, List.setIfInBounds_toArray, List.set_cons_zero, List.set_cons_succ]
      refine early_take (i := 9) 124 (.pointer (some ⟨R, 9, none⟩)) rfl rfl (by kernel_rfl) (by kernel_rfl) (by kernel_rfl) (by kernel_rfl) rfl (fun _ _ _ h => h) (fun w' hw' => by go_simp) S0 ?_
      simp only [Act.put, List.setIfInBounds_toArray, List.set_cons_zero, List.set_cons_succ]
      refine early_take (i := 10) 125 (ptr P.a) rfl rfl (by kernel_rfl) (by kernel_rfl) (by kernel_rfl) (by kernel_rfl) rfl (fun _ _ _ h => h) (fun w' hw' => by obtain ⟨k1, k2⟩ := hw'; go_simp) S0 ?_
      simp only [Act.put, List.setIfInBounds_toArray, List.set_cons_zero, List.set_cons_succ]
      refine early_only (i := 11) (by kernel_rfl) rfl (fun K hK => ?_)
      simp only [opWp, List.getElem?_toArray]
      go_simp
      go_at_call 23
      refine (Flush_any Y13'.out.rg.arr (by have := U13.out; omega)).mono ?_
      rintro e w14 ⟨er, s14, rfl, hD, k3⟩
      obtain ⟨rfl, hg⟩ := each_gone k3 BR13.out
      obtain ⟨O14, k1, _, _⟩ := Y13'.out.did hg.same hD
      have Y14 := Lib.hid k1
      have BR14 := Lib.hid hg.broken
      have U14 := Lib.hid (show s14.u ≤ 8000 by have := hg.u.2; have := U13.out; omega)
      have SM14 := Lib.hid hg.same
      have S1 : (fun w' : World => w'.cell? ⟨R, 9, none⟩ = some (ptr P.a) ∧ w'.rangeAt R 0 s13.sh) w14 := ⟨Y14.out.rg.rig.cell 9, by have h1 := Y14.out.range; have h2 := SM14.out; unfold Same at h2; rw [h2] at h1; exact h1⟩
      clear k1 k3 hg hD Y13' BR13 U13
      refine hK _ _ (fun _ => S1) ?_
      clear S0
      refine early_take (i := 12) 127 (.bool true) rfl rfl (by kernel_rfl) (by kernel_rfl) (by kernel_rfl) (by kernel_rfl) rfl (fun _ _ _ h => h) (fun w' hw' => by go_simp) S1 ?_
      simp only [Act.put, List.setIfInBounds_toArray, List.set_cons_zero, List.set_cons_succ]
      refine early_take (i := 13) 128 (.bool true) rfl rfl (by kernel_rfl) (by kernel_rfl) (by kernel_rfl) (by kernel_rfl) rfl (fun _ _ _ h => h) (fun w' hw' => by go_simp) S1 ?_
      simp only [Act.put, List.setIfInBounds_toArray, List.set_cons_zero, List.set_cons_succ]
      refine early_take (i := 14) 129 (.bool true) rfl rfl (by kernel_rfl) (by kernel_rfl) (by kernel_rfl) (by kernel_rfl) rfl (fun _ _ _ h => h) (fun w' hw' => by go_simp) S1 ?_
      simp only [Act.put, List.setIfInBounds_toArray, List.set_cons_zero, List.set_cons_succ]
      refine early_take (i := 15) 130 (ptr R) rfl rfl (by kernel_rfl) (by kernel_rfl) (by kernel_rfl) (by kernel_rfl) rfl (fun _ _ _ h => h) (fun w' hw' => by go_simp) S1 ?_
      simp only [Act.put, List.setIfInBounds_toArray, List.set_cons_zero, List.set_cons_succ]
      refine early_take (i := 16) 131 (ptr R) rfl rfl (by kernel_rfl) (by kernel_rfl) (by kernel_rfl) (by kernel_rfl) rfl (fun _ _ _ h => h) (fun w' hw' => by go_simp) S1 ?_
      simp only [Act.put, List.setIfInBounds_toArray, List.set_cons_zero, List.set_cons_succ]
      refine early_take (i := 17) 132 (.pointer (some ⟨R, 9, none⟩)) rfl rfl (by kernel_rfl) (by kernel_rfl) (by kernel_rfl) (by kernel_rfl) rfl (fun _ _ _ h => h) (fun w' hw' => by go_simp) S1 ?_
      simp only [Act.put, List.setIfInBounds_toArray, List.set_cons_zero, List.set_cons_succ]
      refine early_take (i := 18) 133 (ptr P.a) rfl rfl (by kernel_rfl) (by kernel_rfl) (by kernel_rfl) (by kernel_rfl) rfl (fun _ _ _ h => h) (fun w' hw' => by obtain ⟨k1, k2⟩ := hw'; go_simp) S1 ?_
      simp only [Act.put, List.setIfInBounds_toArray, List.set_cons_zero, List.set_cons_succ]
      refine early_only (i := 19) (by kernel_rfl) rfl (fun K hK => ?_)
      simp only [opWp, List.getElem?_toArray]
      have HN := Lib.hid Y14.out.rg.arr.wf.n
      go_simp
      go_at_call 24
      refine (Mend_not 0 (by have := HN.out; omega) Y14.out.rg.arr (by rw [can_broken BR14.out]; decide)).mono ?_
      rintro e w15 ⟨rfl, hbl⟩
      rw [can_broken BR14.out]
      have Y15 := Lib.hid (Y14.out.up hbl)
      have S2 : (fun w' : World => w'.cell? ⟨R, 9, none⟩ = some (ptr P.a) ∧ w'.rangeAt R 0 s13.sh) w15 := ⟨Y15.out.rg.rig.cell 9, by have h1 := Y15.out.range; have h2 := SM14.out; unfold Same at h2; rw [h2] at h1; exact h1⟩
      clear hbl Y14 HN
      refine hK _ _ (fun _ => S2) ?_
      clear S1
      refine early_take (i := 20) 135 (.bool true) rfl rfl (by kernel_rfl) (by kernel_rfl) (by kernel_rfl) (by kernel_rfl) rfl (fun _ _ _ h => h) (fun w' hw' => by go_simp) S2 ?_
      simp only [Act.put, List.setIfInBounds_toArray, List.set_cons_zero, List.set_cons_succ]
      refine early_take (i := 21) 136 (.bool true) rfl rfl (by kernel_rfl) (by kernel_rfl) (by kernel_rfl) (by kernel_rfl) rfl (fun _ _ _ h => h) (fun w' hw' => by go_simp) S2 ?_
      simp only [Act.put, List.setIfInBounds_toArray, List.set_cons_zero, List.set_cons_succ]
      refine early_take (i := 22) 137 (.bool true) rfl rfl (by kernel_rfl) (by kernel_rfl) (by kernel_rfl) (by kernel_rfl) rfl (fun _ _ _ h => h) (fun w' hw' => by go_simp) S2 ?_
      simp only [Act.put, List.setIfInBounds_toArray, List.set_cons_zero, List.set_cons_succ]
      refine early_take (i := 23) 138 (ptr R) rfl rfl (by kernel_rfl) (by kernel_rfl) (by kernel_rfl) (by kernel_rfl) rfl (fun _ _ _ h => h) (fun w' hw' => by go_simp) S2 ?_
      simp only [Act.put, List.setIfInBounds_toArray, List.set_cons_zero, List.set_cons_succ]
      refine early_take (i := 24) 139 (ptr R) rfl rfl (by kernel_rfl) (by kernel_rfl) (by kernel_rfl) (by kernel_rfl) rfl (fun _ _ _ h => h) (fun w' hw' => by go_simp) S2 ?_
      simp only [Act.put, List.setIfInBounds_toArray, List.set_cons_zero, List.set_cons_succ]
      refine early_take (i := 25) 140 (.pointer (some ⟨R, 9, none⟩)) rfl rfl (by kernel_rfl) (by kernel_rfl) (by kernel_rfl) (by kernel_rfl) rfl (fun _ _ _ h => h) (fun w' hw' => by go_simp) S2 ?_
      simp only [Act.put, List.setIfInBounds_toArray, List.set_cons_zero, List.set_cons_succ]
      refine early_take (i := 26) 141 (ptr P.a) rfl rfl (by kernel_rfl) (by kernel_rfl) (by kernel_rfl) (by kernel_rfl) rfl (fun _ _ _ h => h) (fun w' hw' => by obtain ⟨k1, k2⟩ := hw'; go_simp) S2 ?_
      simp only [Act.put, List.setIfInBounds_toArray, List.set_cons_zero, List.set_cons_succ]
      refine early_only (i := 27) (by kernel_rfl) rfl (fun K hK => ?_)
      simp only [opWp, List.getElem?_toArray]
      go_simp
      go_at_call 25
      refine (Replace_broken 0 Y15.out.rg.arr BR14.out).mono ?_
      rintro e w16 ⟨rfl, rfl⟩
      refine hK _ _ (fun _ => S2) ?_
      refine early_take (i := 28) 143 (.bool true) rfl rfl (by kernel_rfl) (by kernel_rfl) (by kernel_rfl) (by kernel_rfl) rfl (fun _ _ _ h => h) (fun w' hw' => by go_simp) S2 ?_
      simp only [Act.put, List.setIfInBounds_toArray, List.set_cons_zero, List.set_cons_succ]
      refine early_take (i := 29) 144 (.bool true) rfl rfl (by kernel_rfl) (by kernel_rfl) (by kernel_rfl) (by kernel_rfl) rfl (fun _ _ _ h => h) (fun w' hw' => by go_simp) S2 ?_
      simp only [Act.put, List.setIfInBounds_toArray, List.set_cons_zero, List.set_cons_succ]
      refine early_take (i := 30) 145 (.bool true) rfl rfl (by kernel_rfl) (by kernel_rfl) (by kernel_rfl) (by kernel_rfl) rfl (fun _ _ _ h => h) (fun w' hw' => by go_simp) S2 ?_
      simp only [Act.put, List.setIfInBounds_toArray, List.set_cons_zero, List.set_cons_succ]
      refine early_take (i := 31) 146 (ptr R) rfl rfl (by kernel_rfl) (by kernel_rfl) (by kernel_rfl) (by kernel_rfl) rfl (fun _ _ _ h => h) (fun w' hw' => by go_simp) S2 ?_
      simp only [Act.put, List.setIfInBounds_toArray, List.set_cons_zero, List.set_cons_succ]
      refine early_take (i := 32) 147 (ptr R) rfl rfl (by kernel_rfl) (by kernel_rfl) (by kernel_rfl) (by kernel_rfl) rfl (fun _ _ _ h => h) (fun w' hw' => by go_simp) S2 ?_
      simp only [Act.put, List.setIfInBounds_toArray, List.set_cons_zero, List.set_cons_succ]
      refine early_take (i := 33) 148 (.pointer (some ⟨R, 9, none⟩)) rfl rfl (by kernel_rfl) (by kernel_rfl) (by kernel_rfl) (by kernel_rfl) rfl (fun _ _ _ h => h) (fun w' hw' => by go_simp) S2 ?_
      simp only [Act.put, List.setIfInBounds_toArray, List.set_cons_zero, List.set_cons_succ]
      refine early_take (i := 34) 149 (ptr P.a) rfl rfl (by kernel_rfl) (by kernel_rfl) (by kernel_rfl) (by kernel_rfl) rfl (fun _ _ _ h => h) (fun w' hw' => by obtain ⟨k1, k2⟩ := hw'; go_simp) S2 ?_
      simp only [Act.put, List.setIfInBounds_toArray, List.set_cons_zero, List.set_cons_succ]
      refine early_only (i := 35) (by kernel_rfl) rfl (fun K hK => ?_)
      simp only [opWp, List.getElem?_toArray]
      have hMs := Y15.out.rg.arr.many
      go_simp
      go_at_call 26
      refine (Lose_any 0 (by omega) Y15.out.rg.arr (by have := U14.out; omega)).mono ?_
      rintro e w17 hl
      obtain ⟨rfl, rfl⟩ : e = .returned (.int .i64 3) ∧ w17 = w16 := by
        rcases hl with ⟨_, e1, e2⟩ | ⟨e1, _⟩
        · exact ⟨e1, e2⟩
        · rw [BR14.out] at e1; cases e1
      clear hl
      refine hK _ _ (fun _ => S2) ?_
      refine early_take (i := 36) 151 (.bool true) rfl rfl (by kernel_rfl) (by kernel_rfl) (by kernel_rfl) (by kernel_rfl) rfl (fun _ _ _ h => h) (fun w' hw' => by go_simp) S2 ?_
      simp only [Act.put, List.setIfInBounds_toArray, List.set_cons_zero, List.set_cons_succ]
      refine early_take (i := 37) 152 (.bool true) rfl rfl (by kernel_rfl) (by kernel_rfl) (by kernel_rfl) (by kernel_rfl) rfl (fun _ _ _ h => h) (fun w' hw' => by go_simp) S2 ?_
      simp only [Act.put, List.setIfInBounds_toArray, List.set_cons_zero, List.set_cons_succ]
      refine early_take (i := 38) 153 (.bool true) rfl rfl (by kernel_rfl) (by kernel_rfl) (by kernel_rfl) (by kernel_rfl) rfl (fun _ _ _ h => h) (fun w' hw' => by go_simp) S2 ?_
      simp only [Act.put, List.setIfInBounds_toArray, List.set_cons_zero, List.set_cons_succ]
      refine early_take (i := 39) 154 (ptr R) rfl rfl (by kernel_rfl) (by kernel_rfl) (by kernel_rfl) (by kernel_rfl) rfl (fun _ _ _ h => h) (fun w' hw' => by go_simp) S2 ?_
      simp only [Act.put, List.setIfInBounds_toArray, List.set_cons_zero, List.set_cons_succ]
      refine early_take (i := 40) 155 (ptr R) rfl rfl (by kernel_rfl) (by kernel_rfl) (by kernel_rfl) (by kernel_rfl) rfl (fun _ _ _ h => h) (fun w' hw' => by go_simp) S2 ?_
      simp only [Act.put, List.setIfInBounds_toArray, List.set_cons_zero, List.set_cons_succ]
      refine early_take (i := 41) 156 (.pointer (some ⟨R, 9, none⟩)) rfl rfl (by kernel_rfl) (by kernel_rfl) (by kernel_rfl) (by kernel_rfl) rfl (fun _ _ _ h => h) (fun w' hw' => by go_simp) S2 ?_
      simp only [Act.put, List.setIfInBounds_toArray, List.set_cons_zero, List.set_cons_succ]
      refine early_take (i := 42) 157 (ptr P.a) rfl rfl (by kernel_rfl) (by kernel_rfl) (by kernel_rfl) (by kernel_rfl) rfl (fun _ _ _ h => h) (fun w' hw' => by obtain ⟨k1, k2⟩ := hw'; go_simp) S2 ?_
      simp only [Act.put, List.setIfInBounds_toArray, List.set_cons_zero, List.set_cons_succ]
      refine early_take (i := 43) 158 (ptr R) rfl rfl (by kernel_rfl) (by kernel_rfl) (by kernel_rfl) (by kernel_rfl) rfl (fun _ _ _ h => h) (fun w' hw' => by go_simp) S2 ?_
      simp only [Act.put, List.setIfInBounds_toArray, List.set_cons_zero, List.set_cons_succ]
      refine early_take (i := 44) 159 (ptr R) rfl rfl (by kernel_rfl) (by kernel_rfl) (by kernel_rfl) (by kernel_rfl) rfl (fun _ _ _ h => h) (fun w' hw' => by go_simp) S2 ?_
      simp only [Act.put, List.setIfInBounds_toArray, List.set_cons_zero, List.set_cons_succ]
      refine early_take (i := 45) 160 (ptr R) rfl rfl (by kernel_rfl) (by kernel_rfl) (by kernel_rfl) (by kernel_rfl) rfl (fun _ _ _ h => h) (fun w' hw' => by go_simp) S2 ?_
      simp only [Act.put, List.setIfInBounds_toArray, List.set_cons_zero, List.set_cons_succ]
      refine early_take (i := 46) 161 (sv (s13.M : Int) s13.b s13.g s13.s s13.n s13.l) rfl rfl (by kernel_rfl) (by kernel_rfl) (by kernel_rfl) (by kernel_rfl) rfl (fun _ _ _ h => h) (fun w' hw' => exec_shape (s := s13) (x := .tmp 160) rfl rfl hw'.2) S2 ?_
      simp only [Act.put, List.setIfInBounds_toArray, List.set_cons_zero, List.set_cons_succ]
      refine early_only (i := 47) (by kernel_rfl) rfl (fun K hK => ?_)
      simp only [opWp, List.getElem?_toArray]
      have NB := Lib.hid (show (s13.b.toNat : Int) = s14.b by rw [SM14.out.b]; have := Y15.out.rg.arr.wf.small.hb; rw [SM14.out.b] at this; omega)
      have b48 := Lib.hid (show 32 ≤ s13.b ∧ s13.b ≤ 48 by have := Y15.out.rg.arr.wf.small.hb; rw [SM14.out.b] at this; exact this)
      go_simp
      go_at_call 28
      refine (Block_any s13.M s13.b s13.g s13.s s13.n s13.l s13.b.toNat (by have := b48.out; omega) (by have := b48.out; omega) 1#8 _ rfl _).mono ?_
      rintro e w18 ⟨Bk, rfl, hown, hbl⟩
      have Y18 := Lib.hid (Y15.out.up hbl)
      have H18 := Lib.hid (own_slice hown)
      have NO := Lib.hid (show ∀ x, some (⟨Bk, 0, none⟩ : Addr) = some x → ¬ O14 x.block from fun x hx => (Y15.out.new _ (H18.out.2.2 x hx).1).1)
      have S3 : (fun w' : World => w'.cell? ⟨R, 9, none⟩ = some (ptr P.a) ∧ w'.rangeAt R 0 s13.sh) w18 := ⟨Y18.out.rg.rig.cell 9, by have h1 := Y18.out.range; have h2 := SM14.out; unfold Same at h2; rw [h2] at h1; exact h1⟩
      clear hown hbl
      refine hK _ _ (fun _ => S3) ?_
      refine early_only (i := 48) (by kernel_rfl) rfl (fun K hK => ?_)
      simp only [opWp, List.getElem?_toArray]
      have SP := Lib.hid (show 0 < (s14.S : Int) by have h1 := Y18.out.rg.arr.wf.sect; have h2 := Y18.out.rg.arr.wf.some_; have h3 := Y18.out.rg.arr.wf.n; unfold AS.N at h3; omega)
      go_simp
      go_at_call 27
      refine (PutSame_any 0 (by have := SP.out; omega) (some ⟨Bk, 0, none⟩) s13.b.toNat s13.b.toNat _ NB.out H18.out.1 NO.out Y18.out.rg.arr (by have := U14.out; omega)).mono ?_
      rintro e w19 ⟨er, s19, rfl, hD, k3⟩
      obtain ⟨rfl, hg⟩ := each_gone k3 BR14.out
      obtain ⟨O19, k1, _, _⟩ := Y18.out.did hg.same hD
      have Y19 := Lib.hid k1
      have BR19 := Lib.hid hg.broken
      have SM19 := Lib.hid (SM14.out.trans hg.same)
      have S4 : (fun w' : World => w'.cell? ⟨R, 9, none⟩ = some (ptr P.a) ∧ w'.rangeAt R 0 s13.sh) w19 := ⟨Y19.out.rg.rig.cell 9, by have h1 := Y19.out.range; have h2 := SM19.out; unfold Same at h2; rw [h2] at h1; exact h1⟩
      clear k1 k3 hg hD Y18 BR14 U14 NB b48 H18 NO SP
      refine hK _ _ (fun _ => S4) ?_
      clear S2 S3
      refine early_take (i := 49) 164 (.bool true) rfl rfl (by kernel_rfl) (by kernel_rfl) (by kernel_rfl) (by kernel_rfl) rfl (fun _ _ _ h => h) (fun w' hw' => by go_simp) S4 ?_
      simp only [Act.put, List.setIfInBounds_toArray, List.set_cons_zero, List.set_cons_succ]
      refine early_take (i := 50) 165 (.bool true) rfl rfl (by kernel_rfl) (by kernel_rfl) (by kernel_rfl) (by kernel_rfl) rfl (fun _ _ _ h => h) (fun w' hw' => by go_simp) S4 ?_
      simp only [Act.put, List.setIfInBounds_toArray, List.set_cons_zero, List.set_cons_succ]
      refine early_take (i := 51) 166 (.bool true) rfl rfl (by kernel_rfl) (by kernel_rfl) (by kernel_rfl) (by kernel_rfl) rfl (fun _ _ _ h => h) (fun w' hw' => by go_simp) S4 ?_
      simp only [Act.put, List.setIfInBounds_toArray, List.set_cons_zero, List.set_cons_succ]
      refine early_take (i := 52) 167 (ptr R) rfl rfl (by kernel_rfl) (by kernel_rfl) (by kernel_rfl) (by kernel_rfl) rfl (fun _ _ _ h => h) (fun w' hw' => by go_simp) S4 ?_
      simp only [Act.put, List.setIfInBounds_toArray, List.set_cons_zero, List.set_cons_succ]
      refine early_take (i := 53) 168 (ptr R) rfl rfl (by kernel_rfl) (by kernel_rfl) (by kernel_rfl) (by kernel_rfl) rfl (fun _ _ _ h => h) (fun w' hw' => by go_simp) S4 ?_
      simp only [Act.put, List.setIfInBounds_toArray, List.set_cons_zero, List.set_cons_succ]
      refine early_take (i := 54) 169 (.pointer (some ⟨R, 9, none⟩)) rfl rfl (by kernel_rfl) (by kernel_rfl) (by kernel_rfl) (by kernel_rfl) rfl (fun _ _ _ h => h) (fun w' hw' => by go_simp) S4 ?_
      simp only [Act.put, List.setIfInBounds_toArray, List.set_cons_zero, List.set_cons_succ]
      refine early_take (i := 55) 170 (ptr P.a) rfl rfl (by kernel_rfl) (by kernel_rfl) (by kernel_rfl) (by kernel_rfl) rfl (fun _ _ _ h => h) (fun w' hw' => by obtain ⟨k1, k2⟩ := hw'; go_simp) S4 ?_
      simp only [Act.put, List.setIfInBounds_toArray, List.set_cons_zero, List.set_cons_succ]
      refine early_take (i := 56) 171 (ptr R) rfl rfl (by kernel_rfl) (by kernel_rfl) (by kernel_rfl) (by kernel_rfl) rfl (fun _ _ _ h => h) (fun w' hw' => by go_simp) S4 ?_
      simp only [Act.put, List.setIfInBounds_toArray, List.set_cons_zero, List.set_cons_succ]
      refine early_take (i := 57) 172 (ptr R) rfl rfl (by kernel_rfl) (by kernel_rfl) (by kernel_rfl) (by kernel_rfl) rfl (fun _ _ _ h => h) (fun w' hw' => by go_simp) S4 ?_
      simp only [Act.put, List.setIfInBounds_toArray, List.set_cons_zero, List.set_cons_succ]
      refine early_take (i := 58) 173 (ptr R) rfl rfl (by kernel_rfl) (by kernel_rfl) (by kernel_rfl) (by kernel_rfl) rfl (fun _ _ _ h => h) (fun w' hw' => by go_simp) S4 ?_
      simp only [Act.put, List.setIfInBounds_toArray, List.set_cons_zero, List.set_cons_succ]
      refine early_take (i := 59) 174 (sv (s13.M : Int) s13.b s13.g s13.s s13.n s13.l) rfl rfl (by kernel_rfl) (by kernel_rfl) (by kernel_rfl) (by kernel_rfl) rfl (fun _ _ _ h => h) (fun w' hw' => exec_shape (s := s13) (x := .tmp 173) rfl rfl hw'.2) S4 ?_
      simp only [Act.put, List.setIfInBounds_toArray, List.set_cons_zero, List.set_cons_succ]
      refine early_only (i := 60) (by kernel_rfl) rfl (fun K hK => ?_)
      simp only [opWp, List.getElem?_toArray]
      have NB := Lib.hid (show (s13.b.toNat : Int) = s19.b by rw [SM19.out.b]; have := Y19.out.rg.arr.wf.small.hb; rw [SM19.out.b] at this; omega)
      have b48 := Lib.hid (show 32 ≤ s13.b ∧ s13.b ≤ 48 by have := Y19.out.rg.arr.wf.small.hb; rw [SM19.out.b] at this; exact this)
      go_simp
      go_at_call 28
      refine (Block_any s13.M s13.b s13.g s13.s s13.n s13.l s13.b.toNat (by have := b48.out; omega) (by have := b48.out; omega) 1#8 _ rfl _).mono ?_
      rintro e w20 ⟨Bj, rfl, hown, hbl⟩
      have Y20 := Lib.hid (Y19.out.up hbl)
      have H20 := Lib.hid (own_slice hown)
      have NO := Lib.hid (show ∀ x, some (⟨Bj, 0, none⟩ : Addr) = some x → ¬ O19 x.block from fun x hx => (Y19.out.new _ (H20.out.2.2 x hx).1).1)
      have S5 : (fun w' : World => w'.cell? ⟨R, 9, none⟩ = some (ptr P.a) ∧ w'.rangeAt R 0 s13.sh) w20 := ⟨Y20.out.rg.rig.cell 9, by have h1 := Y20.out.range; have h2 := SM19.out; unfold Same at h2; rw [h2] at h1; exact h1⟩
      clear hown hbl
      refine hK _ _ (fun _ => S5) ?_
      refine early_only (i := 61) (by kernel_rfl) rfl (fun K hK => ?_)
      simp only [opWp, List.getElem?_toArray]
      go_simp
      go_at_call 29
      refine (Finish_not (some ⟨Bj, 0, none⟩) s13.b.toNat s13.b.toNat _ NB.out H20.out.1 Y20.out.rg.arr (by rw [can_broken BR19.out]; decide)).mono ?_
      rintro e w21 ⟨rfl, hbl⟩
      rw [can_broken BR19.out]
      have Y21 := Lib.hid (Y20.out.up hbl)
      have B21 := Lib.hid (B2.out.trans (Y21.out.below.mono B2.out.size))
      have S6 : (fun w' : World => w'.cell? ⟨R, 9, none⟩ = some (ptr P.a) ∧ w'.rangeAt R 0 s13.sh) w21 := ⟨Y21.out.rg.rig.cell 9, by have h1 := Y21.out.range; have h2 := SM19.out; unfold Same at h2; rw [h2] at h1; exact h1⟩
      clear hbl
      refine hK _ _ (fun _ => S6) ?_
      clear S4 S5
      refine early_take (i := 62) 177 (.bool true) rfl rfl (by kernel_rfl) (by kernel_rfl) (by kernel_rfl) (by kernel_rfl) rfl (fun _ _ _ h => h) (fun w' hw' => by go_simp) S6 ?_
      simp only [Act.put, List.setIfInBounds_toArray, List.set_cons_zero, List.set_cons_succ]
      refine early_take (i := 63) 178 (.bool true) rfl rfl (by kernel_rfl) (by kernel_rfl) (by kernel_rfl) (by kernel_rfl) rfl (fun _ _ _ h => h) (fun w' hw' => by go_simp) S6 ?_
      simp only [Act.put, List.setIfInBounds_toArray, List.set_cons_zero, List.set_cons_succ]
      refine early_take (i := 64) 10 (.bool true) rfl rfl (by kernel_rfl) (by kernel_rfl) (by kernel_rfl) (by kernel_rfl) rfl (fun _ _ _ h => h) (fun w' hw' => by go_simp) S6 ?_
      simp only [Act.put, List.setIfInBounds_toArray, List.set_cons_zero, List.set_cons_succ]
      refine early_done (by kernel_rfl) ?_
      clear S6
      go_wp2
      go_ret
      exact ⟨rfl, B21.out⟩
end Go.Proofs.Ytapbphkhbhcdkaa
