/-
  TEXTS JOINED: LgF, LgP.
-/
import Derived.Test.YtplmdmchkaacoaaGreatJ45

/-
  THE WALK OF chunks.
-/
namespace Go.Proofs.YtplmdmchkaacoaaGreat
open Go.RowKit
open L7 (Rr Rc)
open L12 (Sg)
open L13 (setN)
set_option linter.unusedVariables false
set_option maxRecDepth 100000

theorem Cl.single {w : World} {B g : Nat} {x : Sl} (h : At w g #[.slice x.A x.n x.c] 57) (hx : Has w x.A x.n x.l) (hn : x.n ≤ 48) (hB : B ≤ g) (hA : ∀ a, x.A = some a → a.block ≠ g ∧ B ≤ a.block ∧ a.block < w.heap.size) : Cl w B (.slice (some ⟨g, 0, none⟩) 1 1) [x] :=
  ⟨⟨rfl, .inr ⟨g, 1, _, rfl, hB, h, Nat.le_refl _, by unfold maxLen; omega, rfl, rfl⟩⟩, fun y hy => by simp at hy; subst hy; exact hx, fun y hy => by simp at hy; subst hy; exact hn, fun y hy a ha => by
    simp at hy; subst hy
    obtain ⟨h1, h2, h3⟩ := hA a ha
    exact ⟨fun e => by simp [Value.ownBlock] at e; exact h1 e.symm, h2, h3⟩⟩
section
variable {w w' : World} {P : Pl} {q : Ql} {O : Nat → Prop} {x : LS} {l : Int}
set_option maxHeartbeats 3200000 in
theorem chunks_made (h : LG w P q O x l) (nt : L9.Nt) (A : Option Addr) (c : Nat) (hE : L9.Ers w A x.a.sl nt.es) (hq : nt.q < 18446744073709551616) (hz : -1 ≤ nt.z ∧ nt.z < 65535) (hf : ∀ e ∈ nt.es, e.fits)
    (A2 : Option Addr) (n2 c2 : Nat) (M : List Rc) (hM : L14.Rs w A2 n2 M) (hn : n2 ≤ x.a.sl) (hl : ∀ y ∈ M, y.n ≤ x.a.nb) :
    Calls Tryz.prog 86 #[.pointer (some ⟨q.b, 0, none⟩), .agg #[.int .u64 (nt.q : Int), .int .i64 nt.z, .slice A x.a.sl c], .slice A2 n2 c2] w fun e w' =>
      ∃ v L, e = .returned v ∧ Cl w' w.heap.size v L ∧ L.length = x.a.sl + 1 ∧ L.map Sl.l = L9.told nt.q (nt.z + 1).toNat nt.es x.a.nb :: (List.range x.a.sl).map (fun i => blk x.a.nb ((M.map Rc.l).getD i [])) ∧ (∀ y ∈ L, y.n = x.a.nb) ∧ Below w.heap.size w w' := by
  have NN := Lib.hid (small_nats h.wf)
  have SM := Lib.hid h.wf.small.hm
  have SB := Lib.hid h.wf.small.hb
  have HQ := Lib.hid hq
  have HZ := Lib.hid hz
  have HF := Lib.hid hf
  have HN2 := Lib.hid hn
  have HLN := Lib.hid hl
  have HMX := Lib.hid (show x.a.nb = max (15 + 5 * x.a.sl) x.a.nb by have := h.wf.small.ok.2.1; unfold Blk at this; have := small_nats h.wf; omega)
  obtain ⟨W, hW⟩ : ∃ W, W = w.alloc (.cells #[.int .u64 (nt.q : Int), .int .i64 nt.z, .slice A x.a.sl c] 66) := ⟨_, rfl⟩
  have bel : Below w.heap.size w W := by rw [hW]; exact (Below.refl _ _).alloc (Nat.le_refl _) _
  have GW := Lib.hid (h.up bel)
  have BW := Lib.hid bel
  have HE := Lib.hid (show L9.Ers W.drew A x.a.sl nt.es from (hE.below bel).heap rfl)
  have MW := Lib.hid (hM.below bel)
  have NB := Lib.hid (show At W w.heap.size #[.int .u64 (nt.q : Int), .int .i64 nt.z, .slice A x.a.sl c] 66 by rw [hW]; exact At.new _ _ rfl)
  have HL2 := Lib.hid hM.len
  have HW := Lib.hid hW
  have S0 : (fun w' : World => LB w' P q x ∧ At w' w.heap.size #[.int .u64 (nt.q : Int), .int .i64 nt.z, .slice A x.a.sl c] 66) W.drew := ⟨GW.out.lb, NB.out⟩
  clear h hE hM hq hz hf hn hl bel hW
  go_enter Tryz.func86, Tryz.ntmps86
  go_wp2_with fail
  rw [← HW.out]
  refine wp_region_early (fun w' : World => LB w' P q x ∧ At w' w.heap.size #[.int .u64 (nt.q : Int), .int .i64 nt.z, .slice A x.a.sl c] 66) (fun _ => true) (by kernel_rfl) ?_
  change wpEarly _ _ _ _ _ _ 9 (Array.replicate 9 false) _ _
  refine early_take (i := 0) 10 (.agg #[.int .u64 (nt.q : Int), .int .i64 nt.z, .slice A x.a.sl c]) rfl rfl (by kernel_rfl) (by kernel_rfl) (by kernel_rfl) (by kernel_rfl) rfl (fun _ _ _ h => h) (fun w' hw' => by have k0 : w'.cell? ⟨w.heap.size, 0, none⟩ = some (.int .u64 (nt.q : Int)) := hw'.2.cell 0; have k1 : w'.cell? ⟨w.heap.size, 1, none⟩ = some (.int .i64 nt.z) := hw'.2.cell 1; have k2 : w'.cell? ⟨w.heap.size, 2, none⟩ = some (.slice A x.a.sl c) := hw'.2.cell 2; go_simp) S0 ?_
  simp only [Act.put, List.setIfInBounds_toArray, List.set_cons_zero, List.set_cons_succ]
  refine early_take (i := 1) 11 (.pointer (some ⟨q.b, 0, none⟩)) rfl rfl (by kernel_rfl) (by kernel_rfl) (by kernel_rfl) (by kernel_rfl) rfl (fun _ _ _ h => h) (fun w' hw' => by go_simp) S0 ?_
  simp only [Act.put, List.setIfInBounds_toArray, List.set_cons_zero, List.set_cons_succ]
  refine early_take (i := 2) 12 (.pointer (some ⟨q.b, 0, none⟩)) rfl rfl (by kernel_rfl) (by kernel_rfl) (by kernel_rfl) (by kernel_rfl) rfl (fun _ _ _ h => h) (fun w' hw' => by go_simp) S0 ?_
  simp only [Act.put, List.setIfInBounds_toArray, List.set_cons_zero, List.set_cons_succ]
  refine early_take (i := 3) 13 (.pointer (some ⟨q.b, 0, none⟩)) rfl rfl (by kernel_rfl) (by kernel_rfl) (by kernel_rfl) (by kernel_rfl) rfl (fun _ _ _ h => h) (fun w' hw' => by go_simp) S0 ?_
  simp only [Act.put, List.setIfInBounds_toArray, List.set_cons_zero, List.set_cons_succ]
  refine early_take (i := 4) 14 (.pointer (some ⟨q.b, 1, none⟩)) rfl rfl (by kernel_rfl) (by kernel_rfl) (by kernel_rfl) (by kernel_rfl) rfl (fun _ _ _ h => h) (fun w' hw' => by go_simp) S0 ?_
  simp only [Act.put, List.setIfInBounds_toArray, List.set_cons_zero, List.set_cons_succ]
  refine early_take (i := 5) 15 (.int .i64 x.a.b) rfl rfl (by kernel_rfl) (by kernel_rfl) (by kernel_rfl) (by kernel_rfl) rfl (fun _ _ _ h => h) (fun w' hw' => by have k := hw'.1.c1; go_simp) S0 ?_
  simp only [Act.put, List.setIfInBounds_toArray, List.set_cons_zero, List.set_cons_succ]
  refine early_only (i := 6) (by kernel_rfl) rfl (fun K hK => ?_)
  simp only [opWp, List.getElem?_toArray, List.getElem?_cons_succ, List.getElem?_cons_zero]
  go_simp
  go_at_call 131
  rw [← NN.out.2.2.2.2]
  refine (L9.encode_any nt.q (nt.z + 1).toNat nt.z A x.a.sl c nt.es x.a.nb x.a.nb _ HQ.out (by have := HZ.out; omega) (by have := HZ.out; omega) (by have := NN.out.1; have := SM.out; omega) (by have := NN.out.2.2.2.2; have := SB.out; omega) HMX.out HF.out HE.out).mono ?_
  rintro e w3 ⟨v3, rfl, hown, hb⟩
  obtain ⟨A3, c3, rfl, _, _, hd3, hA3⟩ := Has.of_own hown
  have B3 := Lib.hid (below_drew hb)
  have H3 := Lib.hid hd3
  have X3 := Lib.hid (show ∀ a, A3 = some a → W.heap.size ≤ a.block ∧ a.block < w3.heap.size from fun a ha => ⟨by obtain ⟨i, rfl, hi⟩ := hA3 a ha; exact hi, hd3.low (by have := NN.out.2.2.2.2; have := SB.out; omega) a ha⟩)
  have S3 : (fun w' : World => LB w' P q x ∧ At w' w.heap.size #[.int .u64 (nt.q : Int), .int .i64 nt.z, .slice A x.a.sl c] 66) w3 := ⟨(GW.out.up B3.out).lb, NB.out.below B3.out NB.out.lt⟩
  clear hown hb hd3 hA3
  refine hK _ _ (fun _ => S3) ?_
  refine early_only (i := 7) (by kernel_rfl) rfl (fun K hK => ?_)
  simp only [opWp, List.getElem?_toArray, List.getElem?_cons_succ, List.getElem?_cons_zero]
  go_simp
  have B4 := Lib.hid (B3.out.alloc B3.out.size (.cells #[.slice A3 x.a.nb c3] 57))
  have S4 : (fun w' : World => LB w' P q x ∧ At w' w.heap.size #[.int .u64 (nt.q : Int), .int .i64 nt.z, .slice A x.a.sl c] 66) (w3.alloc (.cells #[.slice A3 x.a.nb c3] 57)) := ⟨(GW.out.up B4.out).lb, NB.out.below B4.out NB.out.lt⟩
  refine hK _ _ (fun _ => S4) ?_
  refine early_take (i := 8) 7 (.slice (some ⟨w3.heap.size, 0, none⟩) 1 1) rfl rfl (by kernel_rfl) (by kernel_rfl) (by kernel_rfl) (by kernel_rfl) rfl (fun _ _ _ h => h) (fun w' hw' => by go_simp) S4 ?_
  simp only [Act.put, List.setIfInBounds_toArray, List.set_cons_zero, List.set_cons_succ]
  refine early_done (by kernel_rfl) ?_
  have hk2 : (w3.alloc (.cells #[.slice A3 x.a.nb c3] 57)).cell? ⟨w.heap.size, 2, none⟩ = some (.slice A x.a.sl c) := S4.2.cell 2
  have C4 := Lib.hid (show Cl (w3.alloc (.cells #[.slice A3 x.a.nb c3] 57)) W.heap.size (.slice (some ⟨w3.heap.size, 0, none⟩) 1 1) [⟨A3, x.a.nb, c3, L9.told nt.q (nt.z + 1).toNat nt.es x.a.nb⟩] from Cl.single (x := ⟨A3, x.a.nb, c3, L9.told nt.q (nt.z + 1).toNat nt.es x.a.nb⟩) (At.new _ _ rfl) (H3.out.below ((Below.refl w3.heap.size w3).alloc (Nat.le_refl _) (.cells #[.slice A3 x.a.nb c3] 57))) (by have := NN.out.2.2.2.2; have := SB.out; show x.a.nb ≤ 48; omega) B3.out.size (fun a ha => by have := X3.out a ha; simp; omega))
  generalize w3.alloc (.cells #[.slice A3 x.a.nb c3] 57) = W4 at *
  obtain ⟨sl, hsl⟩ : ∃ sl, sl = x.a.sl := ⟨_, rfl⟩
  clear S0 S3 S4
  go_wp2_with fail
  go_loopw [7, 21] (fun cv i wr => ∃ (j : Nat) (L : List Sl), j ≤ x.a.sl ∧ i = .int .i64 (j : Int) ∧ Cl wr W.heap.size cv L ∧ L.length = j + 1 ∧ L.map Sl.l = L9.told nt.q (nt.z + 1).toNat nt.es x.a.nb :: (List.range j).map (fun i => blk x.a.nb ((M.map Rc.l).getD i [])) ∧ (∀ y ∈ L, y.n = x.a.nb) ∧ Below W.heap.size W wr) (fun _ i _ => x.a.sl - (RowKit.intOf i).toNat)
  case atStart => exact ⟨0, _, Nat.zero_le _, rfl, C4.out, rfl, rfl, fun y hy => by simp at hy; subst hy; rfl, B4.out⟩
  case round =>
    obtain ⟨j, L, hj, rfl, k1, k2, k3, k4, k5⟩ := hrel
    have C1 := Lib.hid k1
    have L1 := Lib.hid k2
    have M1 := Lib.hid k3
    have N1 := Lib.hid k4
    have B1 := Lib.hid k5
    have GR := Lib.hid (GW.out.up k5)
    clear k1 k2 k3 k4 k5
    have hj9 : j ≤ 9 := by have := NN.out.1; have := SM.out; omega
    by_cases hlt : j < x.a.sl
    · by_cases h2 : j < n2
      · obtain ⟨b, off, rfl, hbl, hl, y, hy, oy, q0, q1, q2, q3⟩ := (MW.out.below B1.out).one h2
        have FE := Lib.hid (show blk x.a.nb y.l = blk x.a.nb ((M.map Rc.l).getD j []) by rw [List.getD_eq_getElem?_getD, List.getElem?_map, List.getElem?_eq_getElem hl, hy]; rfl)
        have HD := Lib.hid oy.has
        have HN := Lib.hid (HLN.out y (by rw [← hy]; exact List.getElem_mem hl))
        obtain ⟨ys, yk, yl, yA, yn, yc, yd⟩ := y
        clear hy oy q0 q1 q2
        simp only at q3
        go_wp2_with fail
        refine (block_any GR.out yA yn yc yd HD.out HN.out).mono ?_
        rintro e w6 ⟨v6, rfl, hown, hb⟩
        obtain ⟨A6, c6, rfl, _, _, hd6, hA6⟩ := Has.of_own hown
        have H6 := Lib.hid hd6
        have X6 := Lib.hid (show ∀ a, A6 = some a → wr.heap.size ≤ a.block ∧ a.block < w6.heap.size from fun a ha => ⟨by obtain ⟨i, rfl, hi⟩ := hA6 a ha; exact hi, hd6.low (by have := NN.out.2.2.2.2; have := SB.out; omega) a ha⟩)
        have B6 := Lib.hid hb
        have B7 := Lib.hid (hb.alloc hb.size (.cells #[.slice A6 x.a.nb c6] 57))
        have SZ := Lib.hid B1.out.size
        clear hown hb hd6 hA6
        go_wp2_with (at_builtin; refine wpList_append_ln rfl (.tmp 33) (.tmp 37) rfl W.heap.size u7 L.length L rfl (own_below C1.out.own B7.out) ⟨w6.heap.size, 0, none⟩ 1 1 [⟨A6, x.a.nb, c6, blk x.a.nb yd⟩] rfl (one_row ⟨A6, x.a.nb, c6, blk x.a.nb yd⟩ (At.new #[.slice A6 x.a.nb c6] 57 rfl)) (by have := L1.out; have := NN.out.1; have := SM.out; omega) (by have := SZ.out; have := B6.out.size; simp; omega) ?_; intro A8 c8 w8 hown8 hg8 hf8; have C8 := Lib.hid (C1.out.push (S := fun _ => False) (w1 := w6.alloc (.cells #[.slice A6 x.a.nb c6] 57)) (x := ⟨A6, x.a.nb, c6, blk x.a.nb yd⟩) (But.of_below B7.out) (fun _ _ h => h) SZ.out (H6.out.below ((Below.refl w6.heap.size w6).alloc (Nat.le_refl _) (.cells #[.slice A6 x.a.nb c6] 57))) (by have := NN.out.2.2.2.2; have := SB.out; show x.a.nb ≤ 48; omega) (fun a ha => by have := X6.out a ha; simp; omega) hown8 hg8 hf8); have B8 := Lib.hid ((B1.out.trans (B7.out.mono SZ.out)).grown hg8 (by have := SZ.out; have := B7.out.size; omega) (fun k hk => (C1.out.own.lt k hk).1)); clear hown8 hg8 hf8)
        go_roundw
        case rel =>
          refine ⟨j + 1, L ++ [⟨A6, x.a.nb, c6, blk x.a.nb yd⟩], by omega, by go_num, C8.out, by simp [L1.out], ?_, ?_, B8.out⟩
          · rw [List.map_append, M1.out, List.range_succ, List.map_append, List.cons_append, List.map_singleton, List.map_singleton, ← FE.out]
          · intro y hy
            rcases List.mem_append.1 hy with h | h
            · exact N1.out y h
            · simp at h; subst h; rfl
        case measure => simp [RowKit.intOf]; omega
      · have FE := Lib.hid (show blk x.a.nb [] = blk x.a.nb ((M.map Rc.l).getD j []) by rw [List.getD_eq_getElem?_getD, List.getElem?_eq_none (by rw [List.length_map, HL2.out]; omega)]; rfl)
        have HD := Lib.hid (Has.nil wr none)
        have HN := Lib.hid (Nat.zero_le x.a.nb)
        go_wp2_with fail
        refine (block_any GR.out none 0 0 [] HD.out HN.out).mono ?_
        rintro e w6 ⟨v6, rfl, hown, hb⟩
        obtain ⟨A6, c6, rfl, _, _, hd6, hA6⟩ := Has.of_own hown
        have H6 := Lib.hid hd6
        have X6 := Lib.hid (show ∀ a, A6 = some a → wr.heap.size ≤ a.block ∧ a.block < w6.heap.size from fun a ha => ⟨by obtain ⟨i, rfl, hi⟩ := hA6 a ha; exact hi, hd6.low (by have := NN.out.2.2.2.2; have := SB.out; omega) a ha⟩)
        have B6 := Lib.hid hb
        have B7 := Lib.hid (hb.alloc hb.size (.cells #[.slice A6 x.a.nb c6] 57))
        have SZ := Lib.hid B1.out.size
        clear hown hb hd6 hA6
        go_wp2_with (at_builtin; refine wpList_append_ln rfl (.tmp 33) (.tmp 37) rfl W.heap.size u7 L.length L rfl (own_below C1.out.own B7.out) ⟨w6.heap.size, 0, none⟩ 1 1 [⟨A6, x.a.nb, c6, blk x.a.nb []⟩] rfl (one_row ⟨A6, x.a.nb, c6, blk x.a.nb []⟩ (At.new #[.slice A6 x.a.nb c6] 57 rfl)) (by have := L1.out; have := NN.out.1; have := SM.out; omega) (by have := SZ.out; have := B6.out.size; simp; omega) ?_; intro A8 c8 w8 hown8 hg8 hf8; have C8 := Lib.hid (C1.out.push (S := fun _ => False) (w1 := w6.alloc (.cells #[.slice A6 x.a.nb c6] 57)) (x := ⟨A6, x.a.nb, c6, blk x.a.nb []⟩) (But.of_below B7.out) (fun _ _ h => h) SZ.out (H6.out.below ((Below.refl w6.heap.size w6).alloc (Nat.le_refl _) (.cells #[.slice A6 x.a.nb c6] 57))) (by have := NN.out.2.2.2.2; have := SB.out; show x.a.nb ≤ 48; omega) (fun a ha => by have := X6.out a ha; simp; omega) hown8 hg8 hf8); have B8 := Lib.hid ((B1.out.trans (B7.out.mono SZ.out)).grown hg8 (by have := SZ.out; have := B7.out.size; omega) (fun k hk => (C1.out.own.lt k hk).1)); clear hown8 hg8 hf8)
        go_roundw
        case rel =>
          refine ⟨j + 1, L ++ [⟨A6, x.a.nb, c6, blk x.a.nb []⟩], by omega, by go_num, C8.out, by simp [L1.out], ?_, ?_, B8.out⟩
          · rw [List.map_append, M1.out, List.range_succ, List.map_append, List.cons_append, List.map_singleton, List.map_singleton, ← FE.out]
          · intro y hy
            rcases List.mem_append.1 hy with h | h
            · exact N1.out y h
            · simp at h; subst h; rfl
        case measure => simp [RowKit.intOf]; omega
    · obtain rfl : j = x.a.sl := by omega
      go_wp2
      go_ret
      refine ⟨_, L, rfl, ⟨own_base C1.out.own (fun k hk => Nat.le_trans BW.out.size (C1.out.own.lt k hk).1), C1.out.has, C1.out.len, fun y hy a ha => ?_⟩, L1.out, M1.out, N1.out, BW.out.trans (B1.out.mono BW.out.size)⟩
      obtain ⟨q1, q2, q3⟩ := C1.out.off y hy a ha
      exact ⟨q1, Nat.le_trans BW.out.size q2, q3⟩
end
end Go.Proofs.YtplmdmchkaacoaaGreat

/-
  A STRIPE PUT, UNDER A LIMIT OR NOT, WHILE NOTHING FAILS: what it leaves.
-/
namespace Go.Proofs.YtplmdmchkaacoaaGreat
open Go.RowKit
open L7 (Rr Rc)
open L12 (Sg)
open L13 (setN)
set_option linter.unusedVariables false
set_option maxRecDepth 100000

section
variable {w w' : World} {P : Pl} {O : Nat → Prop} {s : AS} {l : Int}
theorem broken_anyL (h : Arl w P O s l) : Calls Tryz.prog 59 #[.pointer (some ⟨P.a, 0, none⟩)] w fun e w' => e = .returned (.bool s.broken) ∧ w' = w := by
  obtain ⟨c6, c7, c8⟩ := h.cells
  clear h c6 c7
  go_enter Tryz.func59, Tryz.ntmps59
  go_wp2
  go_ret
  exact ⟨rfl, rfl⟩
/-- What Put comes to while nothing fails. -/
inductive PutX (i : Int) (B : Nat → Bytes) (l : Int) (w : World) (P : Pl) (O : Nat → Prop) (s : AS) (w' : World) : Ending → Prop
  | done (s' : AS) (l' : Int) (hl' : (l = -1 ∧ l' = -1) ∨ (0 ≤ l' ∧ l' ≤ l)) (hD : Dil w P O s' l' w') (hr : Rel (fun j d d' => ∃ u1 u2, d' = (d.put u1 i (B j)).fl u2) 20 s s') : PutX i B l w P O s w' (.returned (.int .i64 0))
  | cut (s' : AS) (hl : l ≠ -1) (hD : Dil w P O s' 0 w') (hr : Rel (fun j d d' => Some1 i (B j) d d') 20 s s') : PutX i B l w P O s w' (.panicked out)
theorem put_x (t : Int) (ht : 0 ≤ t ∧ t < s.N) (A : Option Addr) (KC c : Nat) (L : List Sl) (hKC : (KC : Int) = (s.M : Int) - 1) (hL : Ln w A KC L) (hF : Fits L s.b) (hO : ∀ x ∈ L, ∀ a, x.A = some a → ¬ O a.block) (h : Arl w P O s l) (hu : s.u ≤ 700000) (hcalm : Calm s) (hl : l = -1 ∨ (0 ≤ l ∧ l ≤ 1000)) :
    Calls Tryz.prog 85 #[.pointer (some ⟨P.a, 0, none⟩), .int .i64 t, .slice A KC c] w fun e w' => PutX (s.at_ t) (spreadB t s.M (fun j => (L.getD j ⟨none, 0, 0, []⟩).l) (tab s.b.toNat (par L)) (s.M - 1)) l w P O s w' e := by
  rcases hl with rfl | hl
  · refine (Put_any t ht A KC c L hKC hL hF hO h.arr hu).mono ?_
    rintro e w' ⟨er, s', rfl, ⟨O', a, b, d⟩, hp⟩
    cases hp with
    | done hr ht => exact .done s' (-1) (.inl ⟨rfl, rfl⟩) ⟨O', a.arl, b, d⟩ hr
    | gone hg => exact absurd (hcalm 0) (hg.unsound 0)
  · refine (Put_anyL t ht A KC c L hKC hL hF hO h hu hcalm hl).mono ?_
    rintro e w' hp
    cases hp with
    | done s' l' hl' hD hr =>
      cases hr with
      | done hr ht => exact .done s' l' (.inr hl') hD hr
    | cut s' hD hr => exact .cut s' (by omega) hD hr
end

/-- Behind a stripe t that was put with the chunks C. -/
structure Wrote (a a' : AS) (t : Int) (C : Nat → Bytes) : Prop where
  M : a'.M = a.M
  same : a'.b = a.b ∧ a'.g = a.g ∧ a'.s = a.s ∧ a'.n = a.n ∧ a'.l = a.l
  calm : Calm a'
  u : a.u ≤ a'.u ∧ a'.u ≤ a.u + 21
  new : ∀ k m : Nat, k < a.M - 1 → (m : Int) = (t + 1 + (k : Int)) % (a.M : Int) → (a'.d m).read (a.at_ t) = C k
  old : ∀ (i : Int) (m : Nat), m < a.M → i ≠ a.at_ t → (a'.d m).read i = (a.d m).read i
theorem Same.shape {s s' : AS} (h : Same s s') : s'.b = s.b ∧ s'.g = s.g ∧ s'.s = s.s ∧ s'.n = s.n ∧ s'.l = s.l ∧ s'.dur = s.dur ∧ s'.rv = s.rv ∧ s'.rl = s.rl := by
  unfold Same at h
  rw [h]
  exact ⟨rfl, rfl, rfl, rfl, rfl, rfl, rfl, rfl⟩
theorem wrote_of {s s' : AS} {t : Int} {C : Nat → Bytes} {X : Bytes} (hc : Calm s) (ht : 0 ≤ t) (hM : 2 ≤ s.M) (hr : Rel (fun j d d' => ∃ u1 u2, d' = (d.put u1 (s.at_ t) (spreadB t s.M C X (s.M - 1) j)).fl u2) 20 s s') {u d : Int} {v : Value} {rl : Nat} (hu : u = s'.u + 1) :
    Wrote s { s' with u := u, dur := d, rv := v, rl := rl } t C := by
  have hs := hr.same.shape
  have hc' := hc.rel hr
  have rd : ∀ (i : Int) (m : Nat), m < s.M → (s'.d m).read i = with1 (s.d m).read (s.at_ t) (spreadB t s.M C X (s.M - 1) m) i := by
    intro i m hm
    obtain ⟨u1, u2, e⟩ := hr.disk m hm
    have hl := (hc'.live (i := m) (by rw [hr.same.M]; exact hm)).1
    have := (put_fl (s.d m) u1 u2 (s.at_ t) (spreadB t s.M C X (s.M - 1) m)).read (by rw [← e]; exact hl) i
    rw [e]
    exact this
  refine ⟨hr.same.M, ⟨hs.1, hs.2.1, hs.2.2.1, hs.2.2.2.1, hs.2.2.2.2.1⟩, fun k => ⟨(hc' k).whole, (hc' k).stale, (hc' k).live⟩, ?_, ?_, ?_⟩
  · show s.u ≤ u ∧ u ≤ s.u + 21
    have := hr.u
    omega
  · intro k m hk hm
    have hml : m < s.M := by
      have := Int.emod_lt_of_pos (t + 1 + (k : Int)) (show 0 < (s.M : Int) by omega)
      omega
    show (s'.d m).read (s.at_ t) = C k
    rw [rd _ m hml]
    unfold with1
    rw [if_pos rfl, spread_chunk ht hk hm]
  · intro i m hm hi
    show (s'.d m).read i = _
    rw [rd _ m hm]
    unfold with1
    rw [if_neg hi]

/-- The chunks that are laid are those of the list. -/
theorem list_chunk (L : List Sl) (k : Nat) : (L.getD k ⟨none, 0, 0, []⟩).l = (L.map Sl.l).getD k [] := by
  rw [List.getD_eq_getElem?_getD, List.getD_eq_getElem?_getD, List.getElem?_map]
  cases L[k]? <;> rfl
theorem chunk_list (x : LS) {k : Nat} (hk : k < x.a.sl + 1) (M : List Rc) (hM : M.map Rc.abs = x.batch) :
    (L9.told x.note.q (x.note.z + 1).toNat x.note.es x.a.nb :: (List.range x.a.sl).map (fun i => blk x.a.nb ((M.map Rc.l).getD i []))).getD k [] = x.chunk k := by
  have e : M.map Rc.l = x.batch.map Rr.l := by rw [← hM, List.map_map]; rfl
  unfold LS.chunk
  cases k with
  | zero => rfl
  | succ k =>
    rw [if_neg (by omega), List.getD_cons_succ, List.getD_eq_getElem?_getD, List.getElem?_map, List.getElem?_range (by omega), e]
    rfl
end Go.Proofs.YtplmdmchkaacoaaGreat
