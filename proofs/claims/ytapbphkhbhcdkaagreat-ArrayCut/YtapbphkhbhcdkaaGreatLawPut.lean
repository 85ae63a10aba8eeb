/-
  THE WALK OF THE LAW'S put.
-/
import Derived.Test.YtapbphkhbhcdkaaGreatInv
namespace Go.Proofs.YtapbphkhbhcdkaaGreat
open Go.RowKit Go.Maps
set_option linter.unusedVariables false
set_option maxRecDepth 100000

/-- What is kept while stripes are put, whether the array may be broken or not. -/
structure PutInv (broken : Bool) (Q : AS → Hv → Prop) : Prop where
  step : ∀ s s' H t f, Q s H → s.Wf → 0 ≤ t → t < s.N → Rel (fun j d d' => ∃ u1 u2, d' = (d.put u1 (s.at_ t) (partF s.M s.b.toNat t f j)).fl u2) 20 s s' → (∀ j : Nat, j < s.M → (s'.d j).dead = true → s'.stale = (j : Int)) → Q s' (H.set t f)
  gone : ∀ s s' H t, Q s H → Gone 20 s s' → broken = true ∧ Q s' (H.del t)

/-- A slice of stripes: two bytes each. -/
structure St (w : World) (A : Option Addr) (n : Nat) (xs : List (BitVec 8 × BitVec 8)) : Prop where
  len : xs.length = n
  some_ : 0 < n → ∃ b off, A = some ⟨b, off, none⟩ ∧ b < w.heap.size ∧ ∀ k (h : k < xs.length), w.cell? ⟨b, off + k * 2, none⟩ = some (val xs[k].1) ∧ w.cell? ⟨b, off + k * 2 + 1, none⟩ = some (val xs[k].2)
theorem St.below {w w' : World} {A : Option Addr} {n : Nat} {xs : List (BitVec 8 × BitVec 8)} (h : St w A n xs) (hb : Below w.heap.size w w') : St w' A n xs :=
  ⟨h.len, fun h0 => by
    obtain ⟨b, off, e, hlt, hc⟩ := h.some_ h0
    exact ⟨b, off, e, Nat.lt_of_lt_of_le hlt hb.size, fun k hk => ⟨(hb.cell (p := ⟨b, _, none⟩) hlt).trans (hc k hk).1, (hb.cell (p := ⟨b, _, none⟩) hlt).trans (hc k hk).2⟩⟩⟩
theorem St.one {w : World} {A : Option Addr} {n : Nat} {xs : List (BitVec 8 × BitVec 8)} (h : St w A n xs) {j : Nat} (hj : j < n) : ∃ (b off : Nat) (x f : BitVec 8), A = some ⟨b, off, none⟩ ∧ w.cell? ⟨b, off + j * 2, none⟩ = some (.int .u8 (x.toNat : Int)) ∧ w.cell? ⟨b, off + j * 2 + 1, none⟩ = some (.int .u8 (f.toNat : Int)) := by
  obtain ⟨b, off, e, _, hc⟩ := h.some_ (by omega)
  have hl : j < xs.length := by rw [h.len]; exact hj
  exact ⟨b, off, xs[j].1, xs[j].2, e, (hc j hl).1, (hc j hl).2⟩

theorem Cl.off2 {w : World} {B : Nat} {v : Value} {L : List Sl} (h : Cl w B v L) {O : Nat → Prop} (hO : ∀ k, B ≤ k → ¬ O k) : ∀ x ∈ L, ∀ a, x.A = some a → ¬ O a.block := fun x hx a ha => hO _ (h.off x hx a ha).2.1

/-- The chunks that were made are those that a stripe must have. -/
theorem spread_same {t : Int} {M nb : Nat} {f : BitVec 8} {L : List Sl} (hl : L.length = M - 1) (hm : L.map Sl.l = (List.range (M - 1)).map (chunkB nb f)) :
    spreadB t M (fun j => (L.getD j ⟨none, 0, 0, []⟩).l) (tab nb (par L)) (M - 1) = partF M nb t f := by
  have e1 : tab nb (par L) = tab nb (parB ((List.range (M - 1)).map (chunkB nb f))) := tab_congr (fun k _ => by rw [par_map, hm])
  unfold partF
  rw [e1]
  have e2 : ∀ k, k ≤ M - 1 → spreadB t M (fun j => (L.getD j ⟨none, 0, 0, []⟩).l) (tab nb (parB ((List.range (M - 1)).map (chunkB nb f)))) k = spreadB t M (chunkB nb f) (tab nb (parB ((List.range (M - 1)).map (chunkB nb f)))) k := by
    intro k
    induction k with
    | zero => intro _; rfl
    | succ k ih =>
      intro hk
      funext m
      show (if _ then (L.getD k ⟨none, 0, 0, []⟩).l else _) = (if _ then chunkB nb f k else _)
      have hkl : k < L.length := by omega
      have h1 : (L.map Sl.l)[k]? = ((List.range (M - 1)).map (chunkB nb f))[k]? := by rw [hm]
      rw [List.getElem?_map, List.getElem?_map, List.getElem?_eq_getElem hkl, List.getElem?_range (by omega)] at h1
      have h2 : (L[k]).l = chunkB nb f k := by simpa using h1
      rw [List.getD_eq_getElem?_getD, List.getElem?_eq_getElem hkl]
      show (if _ then (L[k]).l else _) = _
      rw [h2, ih (by omega)]
  exact e2 (M - 1) (Nat.le_refl _)

section
variable {B : Nat} {w0 w w' : World} {R q cap : Nat} {P : Pl} {O : Nat → Prop} {s : AS} {hb : Nat} {H : Hv}

/-- What the law's put comes to. -/
def PutDone (broken : Bool) (Q : AS → Hv → Prop) (B : Nat) (w0 w : World) (R q cap : Nat) (P : Pl) (O : Nat → Prop) (s : AS) (hb n : Nat) (w' : World) : Prop :=
  ∃ O' s' H', Lw B w0 w' R q cap P O' s' hb H' ∧ Same s s' ∧ Q s' H' ∧ s'.u ≤ s.u + 20 * (n : Int) ∧ (∀ k, O' k → O k ∨ w.heap.size ≤ k) ∧ But (fun k => O k ∨ k = hb) w w'

set_option maxHeartbeats 3200000 in
theorem put_any (broken : Bool) (Q : AS → Hv → Prop) (hQ : PutInv broken Q) (A : Option Addr) (n c : Nat) (xs : List (BitVec 8 × BitVec 8)) (hn : n ≤ 12) (hst : St w0 A n xs) (hB : w0.heap.size = B) (h : Lw B w0 w R q cap P O s hb H) (hq : Q s H) (hu : s.u ≤ 600000) :
    Calls Tryz.prog 7 #[ptr R, .slice A n c, .map (some hb), .bool broken] w fun e w' => e = .returned (.bool true) ∧ PutDone broken Q B w0 w R q cap P O s hb n w' := by
  have LW := Lib.hid h
  have HQ := Lib.hid hq
  have HS := Lib.hid hst
  have QI := Lib.hid hQ
  clear h hq hst hQ
  go_enter Tryz.func7, Tryz.ntmps7
  go_wp2_with fail
  go_loopw [15] (fun i wr => ∃ j : Nat, j ≤ n ∧ i = .int .i64 (j : Int) ∧ PutDone broken Q B w0 w R q cap P O s hb j wr) (fun i _ => n - (RowKit.intOf i).toNat)
  case atStart => exact ⟨0, Nat.zero_le _, rfl, O, s, H, LW.out, Same.refl s, HQ.out, by omega, fun _ h => .inl h, But.refl _ _⟩
  case round =>
    obtain ⟨j, hj, rfl, O1, s1, H1, k1, k2, k3, k4, k5, k6⟩ := hrel
    have L1 := Lib.hid k1
    have S1 := Lib.hid k2
    have Q1 := Lib.hid k3
    have U1 := Lib.hid k4
    have O1H := Lib.hid k5
    have B1 := Lib.hid k6
    clear k1 k2 k3 k4 k5 k6
    by_cases hlt : j < n
    · have hs1 := HS.out.below (w' := wr) (by rw [hB]; exact L1.out.sys.below)
      obtain ⟨b, off, x, f, rfl, hc1, hc2⟩ := hs1.one hlt
      clear hs1
      have x0 := x.isLt
      have f0 := f.isLt
      go_wp2_with fail
      have hMs := L1.out.sys.rg.arr.many
      have N1 := Lib.hid L1.out.sys.rg.arr.wf.n
      obtain ⟨t, ht⟩ : ∃ t, (x.toNat : Int) % s1.N = t := ⟨_, rfl⟩
      have HT := Lib.hid ht
      have T1 := Lib.hid (show 0 ≤ t ∧ t < s1.N by rw [← ht]; exact ⟨Int.emod_nonneg _ (by have := N1.out; omega), Int.emod_lt_of_pos _ (by have := N1.out; omega)⟩)
      clear ht
      obtain ⟨X, hX⟩ : ∃ X, X = wr.heap.size := ⟨_, rfl⟩
      have L2 := Lib.hid (L1.out.alloc (.cells #[val x, val f] 26))
      have A2 := Lib.hid (show At (wr.alloc (.cells #[val x, val f] 26)) X #[val x, val f] 26 by rw [hX]; exact At.new _ 26 rfl)
      have X2 := Lib.hid (show w.heap.size ≤ X ∧ ¬ O1 X ∧ X ≠ hb ∧ X ≠ R by
        have h1 := L1.out.sys.new X (by omega)
        have h2 := L1.out.map.lt
        have h3 := B1.out.size
        exact ⟨by omega, h1.1, by omega, h1.2.1⟩)
      have B2 := Lib.hid (B1.out.alloc (.cells #[val x, val f] 26))
      rw [← hX]
      have S4 : (fun w' : World => w'.rangeAt R 0 s1.sh ∧ At w' X #[val x, val f] 26) (wr.alloc (.cells #[val x, val f] 26)).drew := ⟨L2.out.sys.range, A2.out⟩
      refine wp_region_early (fun w' : World => w'.rangeAt R 0 s1.sh ∧ At w' X #[val x, val f] 26) (fun _ => true) (by kernel_rfl) ?_
      change wpEarly _ _ _ _ _ _ 10 (Array.replicate 10 false) _ (wr.alloc (.cells #[val x, val f] 26)).drew
      generalize wr.alloc (.cells #[val x, val f] 26) = V2 at *
      clear hX hc1 hc2
      refine early_take (i := 0) 19 (.pointer (some ⟨X, 0, none⟩)) rfl rfl (by kernel_rfl) (by kernel_rfl) (by kernel_rfl) (by kernel_rfl) rfl (fun _ _ _ h => h) (fun w' hw' => by go_simp) S4 ?_
      simp only [Act.put, List.setIfInBounds_toArray, List.set_cons_zero, List.set_cons_succ]
      refine early_take (i := 1) 20 (.int .u8 (x.toNat : Int)) rfl rfl (by kernel_rfl) (by kernel_rfl) (by kernel_rfl) (by kernel_rfl) rfl (fun _ _ _ h => h) (fun w' hw' => by obtain ⟨k1, k2⟩ := hw'; have k : w'.cell? ⟨X, 0, none⟩ = some (.int .u8 (x.toNat : Int)) := k2.cell 0; go_simp) S4 ?_
      simp only [Act.put, List.setIfInBounds_toArray, List.set_cons_zero, List.set_cons_succ]
      refine early_take (i := 2) 21 (.int .i64 (x.toNat : Int)) rfl rfl (by kernel_rfl) (by kernel_rfl) (by kernel_rfl) (by kernel_rfl) rfl (fun _ _ _ h => h) (fun w' hw' => by have e1 : IntKind.i64.wrap (x.toNat : Int) = (x.toNat : Int) := wrap_of (by omega) (by omega); go_simp) S4 ?_
      simp only [Act.put, List.setIfInBounds_toArray, List.set_cons_zero, List.set_cons_succ]
      refine early_take (i := 3) 22 (ptr R) rfl rfl (by kernel_rfl) (by kernel_rfl) (by kernel_rfl) (by kernel_rfl) rfl (fun _ _ _ h => h) (fun w' hw' => by go_simp) S4 ?_
      simp only [Act.put, List.setIfInBounds_toArray, List.set_cons_zero, List.set_cons_succ]
      refine early_take (i := 4) 23 (ptr R) rfl rfl (by kernel_rfl) (by kernel_rfl) (by kernel_rfl) (by kernel_rfl) rfl (fun _ _ _ h => h) (fun w' hw' => by go_simp) S4 ?_
      simp only [Act.put, List.setIfInBounds_toArray, List.set_cons_zero, List.set_cons_succ]
      refine early_take (i := 5) 24 (ptr R) rfl rfl (by kernel_rfl) (by kernel_rfl) (by kernel_rfl) (by kernel_rfl) rfl (fun _ _ _ h => h) (fun w' hw' => by go_simp) S4 ?_
      simp only [Act.put, List.setIfInBounds_toArray, List.set_cons_zero, List.set_cons_succ]
      refine early_take (i := 6) 25 (sv (s1.M : Int) s1.b s1.g s1.s s1.n s1.l) rfl rfl (by kernel_rfl) (by kernel_rfl) (by kernel_rfl) (by kernel_rfl) rfl (fun _ _ _ h => h) (fun w' hw' => exec_shape (s := s1) (x := .tmp 24) rfl rfl hw'.1) S4 ?_
      simp only [Act.put, List.setIfInBounds_toArray, List.set_cons_zero, List.set_cons_succ]
      refine early_only (i := 7) (by kernel_rfl) rfl (fun K hK => ?_)
      simp only [opWp, List.getElem?_toArray, List.getElem?_cons_succ, List.getElem?_cons_zero]
      go_simp
      go_at_call 8
      refine (all_call L2.out.sys.rg.arr.wf _).mono ?_
      rintro e w3 ⟨rfl, hbl⟩
      have L3 := Lib.hid (L2.out.drew.up hbl)
      have A3 := Lib.hid (show At w3 X #[val x, val f] 26 from At.below (w := V2.drew) A2.out hbl (At.lt A2.out))
      have B3 := Lib.hid (B2.out.trans (But.of_drewN 1 (But.of_below (S := fun _ => False) hbl)) (fun _ h _ => h.elim))
      have S5 : (fun w' : World => w'.rangeAt R 0 s1.sh ∧ At w' X #[val x, val f] 26) w3 := ⟨L3.out.sys.range, A3.out⟩
      clear hbl
      refine hK _ _ (fun _ => S5) ?_
      refine early_take (i := 8) 27 (.int .i64 t) rfl rfl (by kernel_rfl) (by kernel_rfl) (by kernel_rfl) (by kernel_rfl) rfl (fun _ _ _ h => h) (fun w' hw' => by have e1 : (x.toNat : Int).tmod s1.N = t := (by rw [Int.tmod_eq_emod_of_nonneg (by omega)]; exact HT.out); have e2 : ¬ s1.N = 0 := (by have := N1.out; omega); go_simp) S5 ?_
      simp only [Act.put, List.setIfInBounds_toArray, List.set_cons_zero, List.set_cons_succ]
      refine early_take (i := 9) 11 (.int .i64 t) rfl rfl (by kernel_rfl) (by kernel_rfl) (by kernel_rfl) (by kernel_rfl) rfl (fun _ _ _ h => h) (fun w' hw' => by go_simp) S5 ?_
      simp only [Act.put, List.setIfInBounds_toArray, List.set_cons_zero, List.set_cons_succ]
      refine early_done (by kernel_rfl) ?_
      clear S4 S5
      go_wp2_with fail
      have nb1 : (s1.b.toNat : Int) = s1.b := by have := L3.out.sys.rg.arr.wf.small.hb; omega
      have NB := Lib.hid nb1
      have b48 := Lib.hid L3.out.sys.rg.arr.wf.small.hb
      clear nb1
      have S6 : (fun w' : World => w'.cell? ⟨R, 9, none⟩ = some (ptr P.a) ∧ w'.rangeAt R 0 s1.sh ∧ At w' X #[val x, val f] 26) w3.drew := ⟨L3.out.cells.2.2.2.2, L3.out.sys.range, A3.out⟩
      refine wp_region_early (fun w' : World => w'.cell? ⟨R, 9, none⟩ = some (ptr P.a) ∧ w'.rangeAt R 0 s1.sh ∧ At w' X #[val x, val f] 26) (fun _ => true) (by kernel_rfl) ?_
      change wpEarly _ _ _ _ _ _ 14 (Array.replicate 14 false) _ w3.drew
      refine early_take (i := 0) 28 (ptr R) rfl rfl (by kernel_rfl) (by kernel_rfl) (by kernel_rfl) (by kernel_rfl) rfl (fun _ _ _ h => h) (fun w' hw' => by go_simp) S6 ?_
      simp only [Act.put, List.setIfInBounds_toArray, List.set_cons_zero, List.set_cons_succ]
      refine early_take (i := 1) 29 (ptr R) rfl rfl (by kernel_rfl) (by kernel_rfl) (by kernel_rfl) (by kernel_rfl) rfl (fun _ _ _ h => h) (fun w' hw' => by go_simp) S6 ?_
      simp only [Act.put, List.setIfInBounds_toArray, List.set_cons_zero, List.set_cons_succ]
      refine early_take (i := 2) 30 (.pointer (some ⟨R, 9, none⟩)) rfl rfl (by kernel_rfl) (by kernel_rfl) (by kernel_rfl) (by kernel_rfl) rfl (fun _ _ _ h => h) (fun w' hw' => by go_simp) S6 ?_
      simp only [Act.put, List.setIfInBounds_toArray, List.set_cons_zero, List.set_cons_succ]
      refine early_take (i := 3) 31 (ptr P.a) rfl rfl (by kernel_rfl) (by kernel_rfl) (by kernel_rfl) (by kernel_rfl) rfl (fun _ _ _ h => h) (fun w' hw' => by obtain ⟨k1, k2, k3⟩ := hw'; go_simp) S6 ?_
      simp only [Act.put, List.setIfInBounds_toArray, List.set_cons_zero, List.set_cons_succ]
      refine early_take (i := 4) 32 (.int .i64 t) rfl rfl (by kernel_rfl) (by kernel_rfl) (by kernel_rfl) (by kernel_rfl) rfl (fun _ _ _ h => h) (fun w' hw' => by go_simp) S6 ?_
      simp only [Act.put, List.setIfInBounds_toArray, List.set_cons_zero, List.set_cons_succ]
      refine early_take (i := 5) 33 (ptr R) rfl rfl (by kernel_rfl) (by kernel_rfl) (by kernel_rfl) (by kernel_rfl) rfl (fun _ _ _ h => h) (fun w' hw' => by go_simp) S6 ?_
      simp only [Act.put, List.setIfInBounds_toArray, List.set_cons_zero, List.set_cons_succ]
      refine early_take (i := 6) 34 (ptr R) rfl rfl (by kernel_rfl) (by kernel_rfl) (by kernel_rfl) (by kernel_rfl) rfl (fun _ _ _ h => h) (fun w' hw' => by go_simp) S6 ?_
      simp only [Act.put, List.setIfInBounds_toArray, List.set_cons_zero, List.set_cons_succ]
      refine early_take (i := 7) 35 (ptr R) rfl rfl (by kernel_rfl) (by kernel_rfl) (by kernel_rfl) (by kernel_rfl) rfl (fun _ _ _ h => h) (fun w' hw' => by go_simp) S6 ?_
      simp only [Act.put, List.setIfInBounds_toArray, List.set_cons_zero, List.set_cons_succ]
      refine early_take (i := 8) 36 (sv (s1.M : Int) s1.b s1.g s1.s s1.n s1.l) rfl rfl (by kernel_rfl) (by kernel_rfl) (by kernel_rfl) (by kernel_rfl) rfl (fun _ _ _ h => h) (fun w' hw' => exec_shape (s := s1) (x := .tmp 35) rfl rfl hw'.2.1) S6 ?_
      simp only [Act.put, List.setIfInBounds_toArray, List.set_cons_zero, List.set_cons_succ]
      refine early_take (i := 9) 37 (.pointer (some ⟨X, 1, none⟩)) rfl rfl (by kernel_rfl) (by kernel_rfl) (by kernel_rfl) (by kernel_rfl) rfl (fun _ _ _ h => h) (fun w' hw' => by go_simp) S6 ?_
      simp only [Act.put, List.setIfInBounds_toArray, List.set_cons_zero, List.set_cons_succ]
      refine early_take (i := 10) 38 (.int .u8 (f.toNat : Int)) rfl rfl (by kernel_rfl) (by kernel_rfl) (by kernel_rfl) (by kernel_rfl) rfl (fun _ _ _ h => h) (fun w' hw' => by obtain ⟨k1, k2, k3⟩ := hw'; have k : w'.cell? ⟨X, 1, none⟩ = some (.int .u8 (f.toNat : Int)) := k3.cell 1; go_simp) S6 ?_
      simp only [Act.put, List.setIfInBounds_toArray, List.set_cons_zero, List.set_cons_succ]
      refine early_only (i := 11) (by kernel_rfl) rfl (fun K hK => ?_)
      simp only [opWp, List.getElem?_toArray, List.getElem?_cons_succ, List.getElem?_cons_zero]
      go_simp
      go_at_call 13
      refine (Chunks_any s1.M s1.b s1.g s1.s s1.n s1.l s1.b.toNat NB.out.symm (by have := b48.out; omega) (by omega) f _ rfl w3.drew).mono ?_
      rintro e w4 ⟨v, L, rfl, hcl, hll, hlm, hln, hbl⟩
      have L4 := Lib.hid (L3.out.drew.up hbl)
      have A4 := Lib.hid (show At w4 X #[val x, val f] 26 from At.below (w := w3.drew) A3.out hbl (At.lt A3.out))
      have B4 := Lib.hid (B3.out.trans (But.of_drewN 1 (But.of_below (S := fun _ => False) hbl)) (fun _ h _ => h.elim))
      have Z3 := Lib.hid (show w.heap.size ≤ w3.heap.size from B3.out.size)
      have CL := Lib.hid hcl
      have LL := Lib.hid hll
      have LM := Lib.hid hlm
      have LN := Lib.hid hln
      have S7 : (fun w' : World => w'.cell? ⟨R, 9, none⟩ = some (ptr P.a) ∧ w'.rangeAt R 0 s1.sh ∧ At w' X #[val x, val f] 26) w4 := ⟨L4.out.cells.2.2.2.2, L4.out.sys.range, A4.out⟩
      clear hcl hll hlm hln hbl
      refine hK _ _ (fun _ => S7) ?_
      refine early_only (i := 12) (by kernel_rfl) rfl (fun K hK => ?_)
      simp only [opWp, List.getElem?_toArray, List.getElem?_cons_succ, List.getElem?_cons_zero]
      obtain ⟨A5, c5, rfl, hln5⟩ := CL.out.ln (by have := LL.out; omega)
      have no1 : ∀ k, w3.heap.size ≤ k → ¬ O1 k := fun k hk => (L3.out.sys.new k hk).1
      go_simp
      go_at_call 12
      refine (Put_any t T1.out A5 L.length c5 L (by have := LL.out; omega) hln5 (fun y hy => by rw [LN.out y hy]; exact NB.out) (CL.out.off2 no1) L4.out.sys.rg.arr (by have := U1.out; omega)).mono ?_
      rintro e w5 ⟨er, s5, rfl, hD, hP⟩
      rw [spread_same LL.out LM.out] at hP
      have sm5 : Same s1 s5 := by
        cases hP with
        | done hr _ => exact hr.same
        | gone hg => exact hg.same
      have SM5 := Lib.hid sm5
      have P5 := Lib.hid hP
      obtain ⟨O5, k1, k2, k3⟩ := L4.out.did sm5 hD
      have L5 := Lib.hid k1
      have OH5 := Lib.hid k2
      have A5' := Lib.hid (show At w5 X #[val x, val f] 26 from A4.out.but k3 X2.out.2.1)
      have B5 := Lib.hid (show But (fun k => O k ∨ k = hb) w w5 from B4.out.trans k3 (fun k hk hlt => (O1H.out k hk).imp id (fun h => by omega)))
      have S8 : (fun w' : World => w'.cell? ⟨R, 9, none⟩ = some (ptr P.a) ∧ w'.rangeAt R 0 s1.sh ∧ At w' X #[val x, val f] 26) w5 := ⟨k1.cells.2.2.2.2, by have := k1.sys.range; unfold Same at sm5; rw [sm5] at this; exact this, A5'.out⟩
      have Z4 := Lib.hid B4.out.size
      clear hD hP sm5 k1 k2 k3 no1 hln5
      refine hK _ _ (fun _ => S8) ?_
      refine early_take (i := 13) 12 (.int .i64 er) rfl rfl (by kernel_rfl) (by kernel_rfl) (by kernel_rfl) (by kernel_rfl) rfl (fun _ _ _ h => h) (fun w' hw' => by go_simp) S8 ?_
      simp only [Act.put, List.setIfInBounds_toArray, List.set_cons_zero, List.set_cons_succ]
      refine early_done (by kernel_rfl) ?_
      clear S6 S7 S8
      have O5H := Lib.hid (show ∀ k, O5 k → O k ∨ w.heap.size ≤ k from fun k hk => (OH5.out k hk).elim (O1H.out k) (fun h => .inr (by have := Z4.out; omega)))
      have P6 := P5.out
      cases P6 with
      | done hr ht =>
        have Q5 := Lib.hid (QI.out.step s1 s5 H1 t f Q1.out L4.out.sys.rg.arr.wf T1.out.1 T1.out.2 hr ht)
        have U5 := Lib.hid (show s5.u ≤ s.u + 20 * ((j + 1 : Nat) : Int) by have := hr.u.2; have := U1.out; omega)
        have i64 : In64 t := by unfold In64; have := T1.out; have := N1.out; omega
        have d1 := A5'.out.cell 1
        obtain ⟨w6, hrun, hm6, hb6⟩ := L5.out.map.store Tryz.underlying35 L5.out.under (by unfold maxLen; omega) i64 (val f)
        rw [← vals_set] at hm6
        have L6 := Lib.hid (L5.out.turn hm6 hb6 (fun u hu => by
          unfold Hv.set at hu
          by_cases e : u = t
          · rw [e, SM5.out.N]; exact T1.out
          · rw [if_neg e] at hu; exact L5.out.dom u hu))
        have B6 := Lib.hid (B5.out.trans hb6 (fun k e hlt => .inr e))
        have HR := Lib.hid hrun
        clear hr ht hm6 hb6 P5 i64 hrun
        have hr1 := HR.out
        go_wp2
        go_roundw
        case rel => exact ⟨j + 1, by omega, by go_num, O5, s5, _, L6.out, S1.out.trans SM5.out, Q5.out, U5.out, O5H.out, B6.out⟩
        case measure => simp [RowKit.intOf]; omega
      | gone hg =>
        obtain ⟨hbk, hq5⟩ := QI.out.gone s1 s5 H1 t Q1.out hg
        have Q5 := Lib.hid hq5
        have U5 := Lib.hid (show s5.u ≤ s.u + 20 * ((j + 1 : Nat) : Int) by have := hg.u.2; have := U1.out; omega)
        have K9 := L5.out.cells.2.2.2.2
        have BK := Lib.hid hg.broken
        clear hg hq5 P5
        subst hbk
        go_wp2_with fail
        refine (broken_any L5.out.sys.rg.arr).mono ?_
        rintro e w5 ⟨rfl, rfl⟩
        rw [BK.out]
        have i64 : In64 t := by unfold In64; have := T1.out; have := N1.out; omega
        obtain ⟨w6, hrun, hm6, hb6⟩ := L5.out.map.del Tryz.underlying35 i64
        have ev : (fun j => if j = t then none else H1.vals j) = (H1.del t).vals := by
          funext y
          unfold Hv.vals Hv.del
          split <;> rfl
        rw [ev] at hm6
        have L6 := Lib.hid (L5.out.turn hm6 hb6 (fun u hu => by
          unfold Hv.del at hu
          by_cases e : u = t
          · rw [if_pos e] at hu; exact absurd rfl hu
          · rw [if_neg e] at hu; exact L5.out.dom u hu))
        have B6 := Lib.hid (B5.out.trans hb6 (fun k e hlt => .inr e))
        clear hm6 hb6 ev i64 K9
        go_wp2
        go_roundw
        case rel => exact ⟨j + 1, by omega, by go_num, O5, s5, _, L6.out, S1.out.trans SM5.out, Q5.out, U5.out, O5H.out, B6.out⟩
        case measure => simp [RowKit.intOf]; omega
    · obtain rfl : j = n := by omega
      go_wp2
      go_ret
      exact ⟨rfl, O1, s1, H1, L1.out, S1.out, Q1.out, U1.out, O1H.out, B1.out⟩
end
end Go.Proofs.YtapbphkhbhcdkaaGreat
