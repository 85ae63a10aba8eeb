/-
  TEXTS JOINED: LgN.
-/
import Derived.Test.YtplmdmchkaacoaaGreatJ47
import Derived.Test.YtplmdmchkaacoaaGreatJ20

/-
  THE WALKS OF log.New AND Start: an empty log and its rig.
-/
namespace Go.Proofs.YtplmdmchkaacoaaGreat
open Go.RowKit
open L7 (Rr Rc)
open L12 (Sg)
open L13 (setN)
set_option linter.unusedVariables false
set_option maxRecDepth 100000

/-- An empty log. -/
def LS.new (a : AS) : LS := ⟨a, [], fun _ => -1, (List.replicate a.gs L12.Sg.zero).set 0 ⟨1, 0, 0⟩, 0, 0⟩
theorem new_wf {a : AS} (h : a.Wf) (hd : a.dur = 0 ∧ a.rl = 0) : (LS.new a).Wf := by
  have h2 := h.small.hg
  have h3 := h.small.hs
  have h4 := h.small.ok.2.2.1.1
  have hm := h.small.hm
  refine ⟨?_, by show ((0 : Nat) : Int) < a.g; omega, by show ((0 : Nat) : Int) < a.s; omega, fun i => ?_, fun i hi => ?_, fun r hr => (by cases hr), List.Pairwise.nil, by show ((0 : Nat) : Int) ≤ a.n; omega, by show 0 ≤ a.dur ∧ a.dur ≤ 100000; omega, by show a.rl ≤ 100000; omega, fun r hr => (by cases hr)⟩
  · show (((List.replicate a.gs L12.Sg.zero).set 0 ⟨1, 0, 0⟩).length : Int) = a.g
    rw [List.length_set, List.length_replicate]
    exact (small_nats h).2.2.2.1
  · show -1 ≤ (-1 : Int) ∧ (-1 : Int) < a.N * ((a.M : Int) - 2)
    have h1 := h.n
    have : 0 ≤ a.N * ((a.M : Int) - 2) := Int.mul_nonneg (by omega) (by omega)
    omega
  · have e : lives (fun _ => -1) a.sl a.k a.lb i = 0 := by
      unfold lives
      rw [List.countP_eq_zero]
      intro j _
      simp
    have hi2 : i < ((List.replicate a.gs L12.Sg.zero).set 0 ⟨1, 0, 0⟩).length := hi
    show (((List.replicate a.gs L12.Sg.zero).set 0 ⟨1, 0, 0⟩)[i]'hi2).lv = (lives (fun _ => -1) a.sl a.k a.lb i : Int)
    rw [e, List.getElem_set]
    split
    · rfl
    · rw [List.getElem_replicate]
      rfl
section
variable {w w' : World} {P : Pl} {q : Ql} {O : Nat → Prop} {x : LS} {l : Int}
set_option maxHeartbeats 1600000 in
theorem lnew_any {s : AS} (h : Arr w P O s) (hr : s.rv = .slice none 0 0 ∧ s.dur = 0 ∧ s.rl = 0) : Calls Tryz.prog 46 #[.pointer (some ⟨P.a, 0, none⟩), .pointer (some ⟨P.n, 0, none⟩)] w fun e w' =>
    ∃ q O', e = .returned (.pointer (some ⟨q.b, 0, none⟩)) ∧ LG w' P q O' (LS.new s) (-1) ∧ (∀ k, O' k → O k ∨ w.heap.size ≤ k) ∧ But O w w' := by
  have HA := Lib.hid h
  have AN := Lib.hid h.nv
  have NN := Lib.hid (small_nats h.wf)
  have SM := Lib.hid h.wf.small.hm
  have SG := Lib.hid h.wf.small.hg
  have SHL := Lib.hid h.wf.small.hl
  have OKS := Lib.hid h.wf.small.ok
  have HR := Lib.hid hr
  have fs := fun (w : World) => field_shape (.int .i64 (s.M : Int)) (.int .i64 s.b) (.int .i64 s.g) (.int .i64 s.s) (.int .i64 s.n) (.int .i64 s.l) (.int .u64 0) (.int .u64 s.dur) (.int .i64 s.stale) w
  clear h hr
  go_enter Tryz.func46, Tryz.ntmps46
  go_wp2_with fail
  refine (root_any AN.out).mono ?_
  rintro e w0 ⟨rfl, hb⟩
  have B0 := Lib.hid hb
  have A0 := Lib.hid (HA.out.up hb)
  clear hb
  unfold Rt.cs AS.rt
  have T0 := Lib.hid (At.new (w := w0) (g := w0.heap.size) #[.int .i64 (s.M : Int), .int .i64 s.b, .int .i64 s.g, .int .i64 s.s, .int .i64 s.n, .int .i64 s.l] 27 rfl)
  have k0 := T0.out.cell 0; have k1 := T0.out.cell 1; have k2 := T0.out.cell 2; have k3 := T0.out.cell 3; have k4 := T0.out.cell 4; have k5 := T0.out.cell 5
  simp at k0 k1 k2 k3 k4 k5
  go_wp2_with fail
  have T0' := Lib.hid (At.new (w := w0) (g := w0.heap.size) #[.int .i64 (s.M : Int), .int .i64 s.b, .int .i64 s.g, .int .i64 s.s, .int .i64 s.n, .int .i64 s.l] 27 rfl)
  have A0' := Lib.hid (A0.out.alloc (.cells #[.int .i64 (s.M : Int), .int .i64 s.b, .int .i64 s.g, .int .i64 s.s, .int .i64 s.n, .int .i64 s.l] 27))
  have B0' := Lib.hid (B0.out.alloc B0.out.size (.cells #[.int .i64 (s.M : Int), .int .i64 s.b, .int .i64 s.g, .int .i64 s.s, .int .i64 s.n, .int .i64 s.l] 27))
  refine (check_ok (s.M : Int) s.b s.g s.s s.n s.l OKS.out _).mono ?_
  rintro e w1 ⟨rfl, hb⟩
  have A1 := Lib.hid (A0'.out.up hb)
  have B1 := Lib.hid (B0'.out.trans (hb.mono B0'.out.size))
  have T1 := Lib.hid (T0'.out.below hb T0'.out.lt)
  obtain ⟨b5, hb5⟩ : ∃ b5, b5 = w0.heap.size := ⟨_, rfl⟩
  rw [← hb5] at T1
  clear hb fs k0 k1 k2 k3 k4 k5 T0 T0' A0' B0'
  go_wp2_with fail
  rw [← hb5]
  clear hb5
  have S0 : (fun w' : World => w'.rangeAt b5 0 s.sh) w1.drew := sh_range T1.out
  refine wp_region_early (fun w' : World => w'.rangeAt b5 0 s.sh) (fun _ => true) (by kernel_rfl) ?_
  change wpEarly _ _ _ _ _ _ 12 (Array.replicate 12 false) _ _
  refine early_take (i := 0) 14 (sv (s.M : Int) s.b s.g s.s s.n s.l) rfl rfl (by kernel_rfl) (by kernel_rfl) (by kernel_rfl) (by kernel_rfl) rfl (fun _ _ _ h => h) (fun w' hw' => exec_shape (s := s) (x := .tmp 5) rfl rfl hw') S0 ?_
  simp only [Act.put, List.setIfInBounds_toArray, List.set_cons_zero, List.set_cons_succ]
  refine early_take (i := 1) 15 (.pointer (some ⟨P.a, 0, none⟩)) rfl rfl (by kernel_rfl) (by kernel_rfl) (by kernel_rfl) (by kernel_rfl) rfl (fun _ _ _ h => h) (fun w' hw' => by go_simp) S0 ?_
  simp only [Act.put, List.setIfInBounds_toArray, List.set_cons_zero, List.set_cons_succ]
  refine early_take (i := 2) 16 (.pointer (some ⟨P.n, 0, none⟩)) rfl rfl (by kernel_rfl) (by kernel_rfl) (by kernel_rfl) (by kernel_rfl) rfl (fun _ _ _ h => h) (fun w' hw' => by go_simp) S0 ?_
  simp only [Act.put, List.setIfInBounds_toArray, List.set_cons_zero, List.set_cons_succ]
  refine early_take (i := 3) 17 (.pointer (some ⟨b5, 5, none⟩)) rfl rfl (by kernel_rfl) (by kernel_rfl) (by kernel_rfl) (by kernel_rfl) rfl (fun _ _ _ h => h) (fun w' hw' => by go_simp) S0 ?_
  simp only [Act.put, List.setIfInBounds_toArray, List.set_cons_zero, List.set_cons_succ]
  refine early_take (i := 4) 18 (.int .i64 s.l) rfl rfl (by kernel_rfl) (by kernel_rfl) (by kernel_rfl) (by kernel_rfl) rfl (fun _ _ _ h => h) (fun w' hw' => by have k := hw' 5 (.int .i64 s.l) rfl; rw [Nat.zero_add] at k; go_simp) S0 ?_
  simp only [Act.put, List.setIfInBounds_toArray, List.set_cons_zero, List.set_cons_succ]
  refine early_take (i := 6) 20 (.pointer (some ⟨b5, 2, none⟩)) rfl rfl (by kernel_rfl) (by kernel_rfl) (by kernel_rfl) (by kernel_rfl) rfl (fun _ _ _ h => h) (fun w' hw' => by go_simp) S0 ?_
  simp only [Act.put, List.setIfInBounds_toArray, List.set_cons_zero, List.set_cons_succ]
  refine early_take (i := 7) 21 (.int .i64 s.g) rfl rfl (by kernel_rfl) (by kernel_rfl) (by kernel_rfl) (by kernel_rfl) rfl (fun _ _ _ h => h) (fun w' hw' => by have k := hw' 2 (.int .i64 s.g) rfl; rw [Nat.zero_add] at k; go_simp) S0 ?_
  simp only [Act.put, List.setIfInBounds_toArray, List.set_cons_zero, List.set_cons_succ]
  refine early_only (i := 5) (by kernel_rfl) rfl (fun K hK => ?_)
  simp only [opWp, List.getElem?_toArray, List.getElem?_cons_succ, List.getElem?_cons_zero]
  go_simp
  go_at_call 105
  refine (L13.new_any s.l s.lb _ (by have := NN.out.2.2.1; have := SHL.out; omega)).mono ?_
  rintro e w2 ⟨mg, rfl, hm, hb⟩
  obtain ⟨r, Q0, hl2, ht, hmade⟩ := hm
  have M2 := Lib.hid hl2
  have MT := Lib.hid ht
  have MLT := Lib.hid (show ∀ k, L13.Mine mg r Q0 k → k < w2.heap.size from fun k hk => hl2.lt hk)
  have B2 := Lib.hid (B1.out.trans ((below_drew hb).mono B1.out.size))
  have A2 := Lib.hid (A1.out.up (below_drew hb))
  have T2 := Lib.hid (T1.out.below (below_drew hb) T1.out.lt)
  have C2 := Lib.hid (below_drew hb)
  have S2 : (fun w' : World => w'.rangeAt b5 0 s.sh) w2 := sh_range T2.out
  clear hl2 ht hmade hb
  refine hK _ _ (fun _ => S2) ?_
  refine early_only (i := 8) (by kernel_rfl) rfl (fun K hK => ?_)
  simp only [opWp, List.getElem?_toArray, List.getElem?_cons_succ, List.getElem?_cons_zero]
  go_simp
  go_at_call 106
  have NT := L12.new_any s.gs w2 (by have := NN.out.2.2.2.1; have := SG.out; omega)
  rw [NN.out.2.2.2.1] at NT
  refine NT.mono ?_
  rintro e w3 ⟨tg, tr, rfl, ht, htg, htr, hb⟩
  have T3 := Lib.hid ht
  have H3 := Lib.hid (And.intro htg htr)
  have M3 := Lib.hid (M2.out.below hb)
  have B3 := Lib.hid (B2.out.trans (hb.mono B2.out.size))
  have A3 := Lib.hid (A2.out.up hb)
  have C3 := Lib.hid (C2.out.trans (hb.mono C2.out.size))
  have S3 : (fun w' : World => w'.rangeAt b5 0 s.sh) w3 := sh_range (T2.out.below hb T2.out.lt)
  have R3 := Lib.hid (T2.out.below hb T2.out.lt)
  clear ht htg htr hb NT
  refine hK _ _ (fun _ => S3) ?_
  refine early_take (i := 9) 23 (.agg #[.int .i64 (s.M : Int), .int .i64 s.b, .int .i64 s.g, .int .i64 s.s, .int .i64 s.n, .int .i64 s.l, .pointer (some ⟨P.a, 0, none⟩), .pointer (some ⟨P.n, 0, none⟩), .pointer (some ⟨mg, 0, none⟩), .pointer (some ⟨tg, 0, none⟩), .int .i64 0, .int .i64 0]) rfl rfl (by kernel_rfl) (by kernel_rfl) (by kernel_rfl) (by kernel_rfl) rfl (fun _ _ _ h => h) (fun w' hw' => by go_simp) S3 ?_
  simp only [Act.put, List.setIfInBounds_toArray, List.set_cons_zero, List.set_cons_succ]
  refine early_only (i := 10) (by kernel_rfl) rfl (fun K hK => ?_)
  simp only [opWp, List.getElem?_toArray, List.getElem?_cons_succ, List.getElem?_cons_zero]
  go_simp
  have R4 := Lib.hid (R3.out.alloc (.cells #[.int .i64 (s.M : Int), .int .i64 s.b, .int .i64 s.g, .int .i64 s.s, .int .i64 s.n, .int .i64 s.l, .pointer (some ⟨P.a, 0, none⟩), .pointer (some ⟨P.n, 0, none⟩), .pointer (some ⟨mg, 0, none⟩), .pointer (some ⟨tg, 0, none⟩), .int .i64 0, .int .i64 0] 46))
  refine hK _ _ (fun _ => sh_range R4.out) ?_
  refine early_take (i := 11) 6 (.pointer (some ⟨w3.heap.size, 0, none⟩)) rfl rfl (by kernel_rfl) (by kernel_rfl) (by kernel_rfl) (by kernel_rfl) rfl (fun _ _ _ h => h) (fun w' hw' => by go_simp) (sh_range R4.out) ?_
  simp only [Act.put, List.setIfInBounds_toArray, List.set_cons_zero, List.set_cons_succ]
  refine early_done (by kernel_rfl) ?_
  obtain ⟨W4, hW4⟩ : ∃ W4, W4 = w3.alloc (.cells #[.int .i64 (s.M : Int), .int .i64 s.b, .int .i64 s.g, .int .i64 s.s, .int .i64 s.n, .int .i64 s.l, .pointer (some ⟨P.a, 0, none⟩), .pointer (some ⟨P.n, 0, none⟩), .pointer (some ⟨mg, 0, none⟩), .pointer (some ⟨tg, 0, none⟩), .int .i64 0, .int .i64 0] 46) := ⟨_, rfl⟩
  have bel : Below w3.heap.size w3 W4 := by rw [hW4]; exact (Below.refl _ _).alloc (Nat.le_refl _) _
  have hl := M3.out
  have ht := MT.out
  obtain ⟨x, hx⟩ : ∃ x : LS, x = ⟨s, [], fun _ => -1, List.replicate s.gs L12.Sg.zero, 0, 0⟩ := ⟨_, rfl⟩
  have zA := A3.out.lt
  have zM := fun k hk => hl.lt (k := k) hk
  have zT := T3.out.lt
  have g5 : LG W4 P ⟨w3.heap.size, mg, tg, tr⟩ (fun k => O k ∨ L13.Mine mg r Q0 k ∨ (k = tg ∨ k = tr) ∨ k = w3.heap.size) x (-1) := by
    refine ⟨fun i k => (i = 0 ∧ O k) ∨ (i = 2 ∧ L13.Mine mg r Q0 k) ∨ (i = 3 ∧ (k = tg ∨ k = tr)) ∨ (i = 4 ∧ k = w3.heap.size), ?_, ?_⟩
    · have lm : ∀ k, L13.Mine mg r Q0 k → w1.heap.size ≤ k ∧ k < w2.heap.size := fun k hk => ⟨ht k hk, MLT.out k hk⟩
      have hO : ∀ k, O k → k < w1.heap.size := fun k hk => A1.out.lt k hk
      have h3 := H3.out
      have s12 := C2.out.size
      have arr0 : (fun k => (((0 : Nat) = 0 ∧ O k) ∨ ((0 : Nat) = 2 ∧ L13.Mine mg r Q0 k) ∨ ((0 : Nat) = 3 ∧ (k = tg ∨ k = tr)) ∨ ((0 : Nat) = 4 ∧ k = w3.heap.size))) = O := by funext k; simp
      have map2 : (fun k => (((2 : Nat) = 0 ∧ O k) ∨ ((2 : Nat) = 2 ∧ L13.Mine mg r Q0 k) ∨ ((2 : Nat) = 3 ∧ (k = tg ∨ k = tr)) ∨ ((2 : Nat) = 4 ∧ k = w3.heap.size))) = L13.Mine mg r Q0 := by funext k; simp
      refine
        { arr := ?_
          rcs := ⟨[], by rw [hx]; show L7.Rw W4 0 s.rv []; rw [HR.out.1]; exact L7.Rw.nil _ _, by rw [hx]; rfl, fun y hy => (by cases hy)⟩
          rv := fun k hk => by rw [hx] at hk; rw [show ({ a := s, recs := [], V := fun _ => -1, T := List.replicate s.gs L12.Sg.zero, seg := 0, idx := 0 } : LS).a.rv = s.rv from rfl, HR.out.1] at hk; simp [Value.ownBlock] at hk
          map := ⟨L13.made Q0, ?_⟩
          tab := by rw [hx]; exact T3.out.below bel
          box := by rw [hx, hW4]; exact At.new _ _ rfl
          t3 := .inr (.inr (.inl ⟨rfl, .inl rfl⟩))
          r3 := .inr (.inr (.inl ⟨rfl, .inr rfl⟩))
          b4 := .inr (.inr (.inr ⟨rfl, rfl⟩))
          ap := ?_
          lt := ?_ }
      · rw [hx]
        show Arl W4 P (fun k => _) s (-1)
        rw [arr0]
        exact (A3.out.up bel).arl
      · rw [hx]
        show L13.Lm W4 (fun k => _) mg s.lb (fun _ => -1) _
        rw [map2]
        exact ⟨r, Q0, hl.below bel, fun k hk => hk, rfl⟩
      · rintro i j k (⟨rfl, hi⟩ | ⟨rfl, hi⟩ | ⟨rfl, hi⟩ | ⟨rfl, hi⟩) (⟨rfl, hj⟩ | ⟨rfl, hj⟩ | ⟨rfl, hj⟩ | ⟨rfl, hj⟩) <;> first
          | rfl
          | (exfalso; have := hO k hi; have := lm k hj; omega)
          | (exfalso; have := hO k hj; have := lm k hi; omega)
          | (exfalso; have := hO k hi; omega)
          | (exfalso; have := hO k hj; omega)
          | (exfalso; have := lm k hi; omega)
          | (exfalso; have := lm k hj; omega)
          | (exfalso; omega)
      · rintro i k (⟨rfl, hi⟩ | ⟨rfl, hi⟩ | ⟨rfl, hi⟩ | ⟨rfl, hi⟩)
        · have := zA k hi; have := bel.size; omega
        · have := zM k hi; have := bel.size; omega
        · have := bel.size; omega
        · rw [hi, hW4]; simp
    · intro k
      constructor
      · rintro (h | h | h | h)
        · exact ⟨0, .inl ⟨rfl, h⟩⟩
        · exact ⟨2, .inr (.inl ⟨rfl, h⟩)⟩
        · exact ⟨3, .inr (.inr (.inl ⟨rfl, h⟩))⟩
        · exact ⟨4, .inr (.inr (.inr ⟨rfl, h⟩))⟩
      · rintro ⟨i, ⟨_, h⟩ | ⟨_, h⟩ | ⟨_, h⟩ | ⟨_, h⟩⟩
        · exact .inl h
        · exact .inr (.inl h)
        · exact .inr (.inr (.inl h))
        · exact .inr (.inr (.inr h))
  have G5 := Lib.hid g5
  have X0 := Lib.hid (show (x.seg : Int) = 0 by rw [hx]; rfl)
  have HXX := Lib.hid hx
  have B4 := Lib.hid (B3.out.trans (bel.mono B3.out.size))
  obtain ⟨q, hq⟩ : ∃ q : Ql, q = ⟨w3.heap.size, mg, tg, tr⟩ := ⟨_, rfl⟩
  rw [← hq] at G5
  have hqb : w3.heap.size = q.b := by rw [hq]
  have HM := Lib.hid (show ∀ k, (O k ∨ L13.Mine mg r Q0 k ∨ (k = tg ∨ k = tr) ∨ k = w3.heap.size) → O k ∨ w.heap.size ≤ k from fun k hk => by
    have h1 := B1.out.size
    have h2 := B2.out.size
    have h3 := B3.out.size
    have h4 := H3.out
    rcases hk with h | h | h | h
    · exact .inl h
    · have h5 : w1.heap.size ≤ k := ht k h
      exact .inr (by omega)
    · exact .inr (by omega)
    · exact .inr (by omega))
  generalize hOO : (fun k => O k ∨ L13.Mine mg r Q0 k ∨ (k = tg ∨ k = tr) ∨ k = w3.heap.size) = OO at G5
  have HO0 := Lib.hid (show ∀ k, OO k → O k ∨ w.heap.size ≤ k from fun k hk => by rw [← hOO] at hk; exact HM.out k hk)
  have HO1 := Lib.hid (show ∀ k, O k → OO k from fun k hk => by rw [← hOO]; exact .inl hk)
  rw [← hW4, hqb]
  clear g5 hx hq hW4 bel hl ht zA zM zT hOO HM
  have S0 : (fun w' : World => LB w' P q x) W4.drew := G5.out.lb
  go_wp2_with fail
  refine wp_region_early (fun w' : World => LB w' P q x) (fun _ => true) (by kernel_rfl) ?_
  change wpEarly _ _ _ _ _ _ 9 (Array.replicate 9 false) _ _
  refine early_take (i := 0) 25 (.pointer (some ⟨q.b, 0, none⟩)) rfl rfl (by kernel_rfl) (by kernel_rfl) (by kernel_rfl) (by kernel_rfl) rfl (fun _ _ _ h => h) (fun w' hw' => by go_simp) S0 ?_
  simp only [Act.put, List.setIfInBounds_toArray, List.set_cons_zero, List.set_cons_succ]
  refine early_take (i := 1) 26 (.pointer (some ⟨q.b, 0, none⟩)) rfl rfl (by kernel_rfl) (by kernel_rfl) (by kernel_rfl) (by kernel_rfl) rfl (fun _ _ _ h => h) (fun w' hw' => by go_simp) S0 ?_
  simp only [Act.put, List.setIfInBounds_toArray, List.set_cons_zero, List.set_cons_succ]
  refine early_take (i := 2) 27 (.pointer (some ⟨q.b, 9, none⟩)) rfl rfl (by kernel_rfl) (by kernel_rfl) (by kernel_rfl) (by kernel_rfl) rfl (fun _ _ _ h => h) (fun w' hw' => by go_simp) S0 ?_
  simp only [Act.put, List.setIfInBounds_toArray, List.set_cons_zero, List.set_cons_succ]
  refine early_take (i := 3) 28 (.pointer (some ⟨q.t, 0, none⟩)) rfl rfl (by kernel_rfl) (by kernel_rfl) (by kernel_rfl) (by kernel_rfl) rfl (fun _ _ _ h => h) (fun w' hw' => by have k := hw'.c9; go_simp) S0 ?_
  simp only [Act.put, List.setIfInBounds_toArray, List.set_cons_zero, List.set_cons_succ]
  refine early_take (i := 4) 29 (.pointer (some ⟨q.b, 0, none⟩)) rfl rfl (by kernel_rfl) (by kernel_rfl) (by kernel_rfl) (by kernel_rfl) rfl (fun _ _ _ h => h) (fun w' hw' => by go_simp) S0 ?_
  simp only [Act.put, List.setIfInBounds_toArray, List.set_cons_zero, List.set_cons_succ]
  refine early_take (i := 5) 30 (.pointer (some ⟨q.b, 0, none⟩)) rfl rfl (by kernel_rfl) (by kernel_rfl) (by kernel_rfl) (by kernel_rfl) rfl (fun _ _ _ h => h) (fun w' hw' => by go_simp) S0 ?_
  simp only [Act.put, List.setIfInBounds_toArray, List.set_cons_zero, List.set_cons_succ]
  refine early_take (i := 6) 31 (.pointer (some ⟨q.b, 10, none⟩)) rfl rfl (by kernel_rfl) (by kernel_rfl) (by kernel_rfl) (by kernel_rfl) rfl (fun _ _ _ h => h) (fun w' hw' => by go_simp) S0 ?_
  simp only [Act.put, List.setIfInBounds_toArray, List.set_cons_zero, List.set_cons_succ]
  refine early_take (i := 7) 32 (.int .i64 0) rfl rfl (by kernel_rfl) (by kernel_rfl) (by kernel_rfl) (by kernel_rfl) rfl (fun _ _ _ h => h) (fun w' hw' => by have k := hw'.c10; rw [X0.out] at k; go_simp) S0 ?_
  simp only [Act.put, List.setIfInBounds_toArray, List.set_cons_zero, List.set_cons_succ]
  refine early_only (i := 8) (by kernel_rfl) rfl (fun K hK => ?_)
  simp only [opWp, List.getElem?_toArray, List.getElem?_cons_succ, List.getElem?_cons_zero]
  go_simp
  go_at_call 80
  refine (L12.open_any 0 G5.out.drew.zoomT.1).mono ?_
  rintro e w6 ⟨rfl, k1, k2⟩
  have hD := (G5.out.drew.zoomT.2.2.2 w6 _ k1 k2).of_drew
  have D6 := Lib.hid hD
  have S6 : (fun w' : World => LB w' P q x) w6 := hD.lb rfl rfl rfl
  clear k1 k2 hD
  refine hK _ _ (fun _ => S6) ?_
  refine early_done (by kernel_rfl) ?_
  obtain ⟨O6, g6, s6, b6⟩ := D6.out
  have E6 := Lib.hid (show ({ x with T := L12.put x.T 0 fun y => ⟨1, y.lv, y.bo⟩ } : LS) = LS.new s by
    rw [HXX.out]
    unfold LS.new
    congr 1
    have := SG.out
    have := NN.out.2.2.2.1
    show L12.put (List.replicate s.gs L12.Sg.zero) ((0 : Nat) : Int) _ = _
    rw [L12.put_in (by rw [List.length_replicate]; omega), List.getElem_replicate]
    rfl)
  rw [E6.out] at g6
  have G6 := Lib.hid g6
  have S6' := Lib.hid s6
  have B6 := Lib.hid b6
  clear g6 s6 b6 S0 S6
  go_wp2
  go_ret
  refine ⟨q, rfl, O6, G6.out, fun k hk => ?_, ?_⟩
  · rcases S6'.out k hk with h | h
    · exact HO0.out k h
    · exact .inr (by have := B4.out.size; omega)
  · exact (But.of_below (S := O) B4.out).trans B6.out (fun k hk hlt => (HO0.out k hk).elim id (fun h => by omega))
/-- A log, and its rig's box, all of it above B; below B nothing has turned since w0. -/
structure Ly (B : Nat) (w0 w : World) (R : Nat) (P : Pl) (q : Ql) (O : Nat → Prop) (x : LS) (l : Int) : Prop where
  lg : LG w P q O x l
  rig : ∃ v, At w R (rcells x.a.M x.a.b x.a.g x.a.s x.a.n x.a.l P.p v (.pointer (some ⟨P.n, 0, none⟩)) (.pointer (some ⟨P.a, 0, none⟩))) 86
  off : ¬ O R
  own : ∀ k, O k → B ≤ k
  lo : B ≤ R
  below : Below B w0 w
  size : B ≤ w.heap.size
theorem Ly.dg {B R : Nat} {w0 : World} {x' : LS} {l' : Int} (h : Ly B w0 w R P q O x l) (hD : Dg w P q O x' l' w') (hM : x'.a.M = x.a.M) (hs : x'.a.b = x.a.b ∧ x'.a.g = x.a.g ∧ x'.a.s = x.a.s ∧ x'.a.n = x.a.n ∧ x'.a.l = x.a.l) : ∃ O', Ly B w0 w' R P q O' x' l' ∧ (∀ k, O' k → O k ∨ w.heap.size ≤ k) ∧ But O w w' := by
  obtain ⟨O', a, b, c⟩ := hD
  obtain ⟨v, hr⟩ := h.rig
  obtain ⟨s1, s2, s3, s4, s5⟩ := hs
  refine ⟨O', ⟨a, ⟨v, ?_⟩, fun e => (b _ e).elim h.off (fun h' => by have := hr.lt; omega), fun k hk => (b k hk).elim (h.own k) (fun h' => by have := h.size; omega), h.lo, h.below.trans (c.below h.own h.size), Nat.le_trans h.size c.size⟩, b, c⟩
  rw [hM, s1, s2, s3, s4, s5]
  exact hr.but c h.off
theorem Ly.but {B R : Nat} {w0 : World} {S : Nat → Prop} (h : Ly B w0 w R P q O x l) (hb : But S w w') (hS : ∀ k, S k → ¬ O k ∧ k ≠ R ∧ B ≤ k) : Ly B w0 w' R P q O x l := by
  obtain ⟨v, hr⟩ := h.rig
  exact ⟨h.lg.but hb (fun k hk e => (hS k e).1 hk), ⟨v, hr.but hb (fun e => (hS _ e).2.1 rfl)⟩, h.off, h.own, h.lo, h.below.trans (hb.below (fun k hk => (hS k hk).2.2) h.size), Nat.le_trans h.size hb.size⟩
theorem Ly.up {B R : Nat} {w0 : World} (h : Ly B w0 w R P q O x l) (hb : Below w.heap.size w w') : Ly B w0 w' R P q O x l := h.but (S := fun _ => False) (But.of_below hb) (fun _ h => h.elim)
theorem init_facts2 {w w' : World} {B R q cap : Nat} {P : Pl} {O : Nat → Prop} {M : Nat} {b g s n l : Int} {S z : Nat} (h : Sys B w w' R q cap P O (AS.init M b g s n l S z)) (hz : (z : Int) = b) : ∃ s1 : AS, Sys B w w' R q cap P O s1 ∧ Calm s1 ∧ s1.u = 1 ∧ s1.M = M ∧ s1.b = b ∧ s1.g = g ∧ s1.s = s ∧ s1.n = n ∧ s1.l = l ∧ (s1.rv = .slice none 0 0 ∧ s1.dur = 0 ∧ s1.rl = 0) ∧ (∀ m, s1.d m = blank S z) :=
  ⟨_, h, init_calm M b g s n l S z, rfl, rfl, rfl, rfl, rfl, rfl, rfl, ⟨rfl, rfl, rfl⟩, fun _ => rfl⟩
/-- What a log that was started is. -/
structure Fresh0 (M : Nat) (b g s n l : Int) (x : LS) : Prop where
  new : x = LS.new x.a
  M : x.a.M = M
  sh : x.a.b = b ∧ x.a.g = g ∧ x.a.s = s ∧ x.a.n = n ∧ x.a.l = l
  calm : Calm x.a
  u : x.a.u = 1
  dur : x.a.dur = 0 ∧ x.a.rl = 0
  wf : x.Wf
set_option maxHeartbeats 1600000 in
theorem start_any (M : Nat) (b g s n l : Int) (hs : Small (M : Int) b g s n l) (w : World) : Calls Tryz.prog 13 #[sv (M : Int) b g s n l] w fun e w' =>
    ∃ R P q O x, e = .returned (.tuple #[.pointer (some ⟨q.b, 0, none⟩), .pointer (some ⟨R, 0, none⟩), .bool true]) ∧ Ly w.heap.size w w' R P q O x (-1) ∧ Fresh0 M b g s n l x := by
  have HS := Lib.hid hs
  have T0 := Lib.hid (At.new (w := w) (g := w.heap.size) #[.int .i64 (M : Int), .int .i64 b, .int .i64 g, .int .i64 s, .int .i64 n, .int .i64 l] 27 rfl)
  have k0 := T0.out.cell 0; have k1 := T0.out.cell 1; have k2 := T0.out.cell 2; have k3 := T0.out.cell 3; have k4 := T0.out.cell 4; have k5 := T0.out.cell 5
  simp at k0 k1 k2 k3 k4 k5
  have B0 := Lib.hid ((Below.refl w.heap.size w).alloc (Nat.le_refl _) (.cells #[.int .i64 (M : Int), .int .i64 b, .int .i64 g, .int .i64 s, .int .i64 n, .int .i64 l] 27))
  clear hs
  unfold sv
  go_enter Tryz.func13, Tryz.ntmps13
  go_wp2_with fail
  refine (New_any M b g s n l HS.out _).mono ?_
  rintro e w1 ⟨R, qd, cap, P, O, S, z, rfl, hy, hS, hz⟩
  obtain ⟨a, hY, hc, hu, rfl, rfl, rfl, rfl, rfl, rfl, hr, hd⟩ := init_facts2 hy hz
  have W0 := Lib.hid B0.out.size
  have Y := Lib.hid hY
  have CM := Lib.hid hc
  have HU := Lib.hid hu
  have HR := Lib.hid hr
  have B1 := Lib.hid (B0.out.trans (hY.below.mono W0.out))
  clear hy hz hS hY hc hu hr hd
  go_wp2_with fail
  go_wp2_with fail
  have S0 : (fun w' : World => w'.cell? ⟨R, 9, none⟩ = some (.pointer (some ⟨P.a, 0, none⟩)) ∧ w'.cell? ⟨R, 8, none⟩ = some (.pointer (some ⟨P.n, 0, none⟩))) w1.drew := ⟨Y.out.rg.rig.cell 9, Y.out.rg.rig.cell 8⟩
  refine wp_region_early (fun w' : World => w'.cell? ⟨R, 9, none⟩ = some (.pointer (some ⟨P.a, 0, none⟩)) ∧ w'.cell? ⟨R, 8, none⟩ = some (.pointer (some ⟨P.n, 0, none⟩))) (fun _ => true) (by kernel_rfl) ?_
  change wpEarly _ _ _ _ _ _ 10 (Array.replicate 10 false) _ _
  refine early_take (i := 0) 16 (.pointer (some ⟨R, 0, none⟩)) rfl rfl (by kernel_rfl) (by kernel_rfl) (by kernel_rfl) (by kernel_rfl) rfl (fun _ _ _ h => h) (fun w' hw' => by go_simp) S0 ?_
  simp only [Act.put, List.setIfInBounds_toArray, List.set_cons_zero, List.set_cons_succ]
  refine early_take (i := 1) 17 (.pointer (some ⟨R, 0, none⟩)) rfl rfl (by kernel_rfl) (by kernel_rfl) (by kernel_rfl) (by kernel_rfl) rfl (fun _ _ _ h => h) (fun w' hw' => by go_simp) S0 ?_
  simp only [Act.put, List.setIfInBounds_toArray, List.set_cons_zero, List.set_cons_succ]
  refine early_take (i := 2) 18 (.pointer (some ⟨R, 9, none⟩)) rfl rfl (by kernel_rfl) (by kernel_rfl) (by kernel_rfl) (by kernel_rfl) rfl (fun _ _ _ h => h) (fun w' hw' => by go_simp) S0 ?_
  simp only [Act.put, List.setIfInBounds_toArray, List.set_cons_zero, List.set_cons_succ]
  refine early_take (i := 3) 19 (.pointer (some ⟨P.a, 0, none⟩)) rfl rfl (by kernel_rfl) (by kernel_rfl) (by kernel_rfl) (by kernel_rfl) rfl (fun _ _ _ h => h) (fun w' hw' => by obtain ⟨k1, k2⟩ := hw'; go_simp) S0 ?_
  simp only [Act.put, List.setIfInBounds_toArray, List.set_cons_zero, List.set_cons_succ]
  refine early_take (i := 4) 20 (.pointer (some ⟨R, 0, none⟩)) rfl rfl (by kernel_rfl) (by kernel_rfl) (by kernel_rfl) (by kernel_rfl) rfl (fun _ _ _ h => h) (fun w' hw' => by go_simp) S0 ?_
  simp only [Act.put, List.setIfInBounds_toArray, List.set_cons_zero, List.set_cons_succ]
  refine early_take (i := 5) 21 (.pointer (some ⟨R, 0, none⟩)) rfl rfl (by kernel_rfl) (by kernel_rfl) (by kernel_rfl) (by kernel_rfl) rfl (fun _ _ _ h => h) (fun w' hw' => by go_simp) S0 ?_
  simp only [Act.put, List.setIfInBounds_toArray, List.set_cons_zero, List.set_cons_succ]
  refine early_take (i := 6) 22 (.pointer (some ⟨R, 8, none⟩)) rfl rfl (by kernel_rfl) (by kernel_rfl) (by kernel_rfl) (by kernel_rfl) rfl (fun _ _ _ h => h) (fun w' hw' => by go_simp) S0 ?_
  simp only [Act.put, List.setIfInBounds_toArray, List.set_cons_zero, List.set_cons_succ]
  refine early_take (i := 7) 23 (.pointer (some ⟨P.n, 0, none⟩)) rfl rfl (by kernel_rfl) (by kernel_rfl) (by kernel_rfl) (by kernel_rfl) rfl (fun _ _ _ h => h) (fun w' hw' => by obtain ⟨k1, k2⟩ := hw'; go_simp) S0 ?_
  simp only [Act.put, List.setIfInBounds_toArray, List.set_cons_zero, List.set_cons_succ]
  refine early_only (i := 8) (by kernel_rfl) rfl (fun K hK => ?_)
  simp only [opWp, List.getElem?_toArray, List.getElem?_cons_succ, List.getElem?_cons_zero]
  go_simp
  go_at_call 46
  refine (lnew_any (Y.out.rg.arr.drewN 1) HR.out).mono ?_
  rintro e w2 ⟨ql, O2, rfl, g2, s2, b2⟩
  have G2 := Lib.hid g2
  have SB := Lib.hid s2
  have B2 := Lib.hid b2
  have RG := Lib.hid (At.but (show At w1.drew R _ _ from Y.out.rg.rig) b2 Y.out.rg.off.1)
  have S2 : (fun w' : World => w'.cell? ⟨R, 9, none⟩ = some (.pointer (some ⟨P.a, 0, none⟩)) ∧ w'.cell? ⟨R, 8, none⟩ = some (.pointer (some ⟨P.n, 0, none⟩))) w2 := ⟨RG.out.cell 9, RG.out.cell 8⟩
  clear g2 s2 b2
  refine hK _ _ (fun _ => S2) ?_
  refine early_take (i := 9) 7 (.pointer (some ⟨ql.b, 0, none⟩)) rfl rfl (by kernel_rfl) (by kernel_rfl) (by kernel_rfl) (by kernel_rfl) rfl (fun _ _ _ h => h) (fun w' hw' => by go_simp) S2 ?_
  simp only [Act.put, List.setIfInBounds_toArray, List.set_cons_zero, List.set_cons_succ]
  refine early_done (by kernel_rfl) ?_
  have c6 := G2.out.lb.c6; have c7 := G2.out.lb.c7; have c8 := G2.out.lb.c8; have c9 := G2.out.lb.c9
  clear S0 S2
  go_wp2_with fail
  go_quiet (fail)
  go_wp2
  go_ret3
  have SB2 : ∀ k, O2 k → O k ∨ w1.heap.size ≤ k := SB.out
  have hw1 : w.heap.size ≤ w1.heap.size := B1.out.size
  have hRl : R < w1.heap.size := Y.out.rg.rig.lt
  have hlo : w.heap.size ≤ R := Nat.le_trans W0.out Y.out.lo.1
  have hB2 : But O w1 w2 := ⟨B2.out.1, B2.out.2, B2.out.3, B2.out.4, B2.out.5⟩
  refine ⟨R, P, ql, O2, LS.new a, rfl, Ly.but (w := w2) (S := fun _ => False) ⟨G2.out, ⟨_, RG.out⟩, fun e => (SB2 _ e).elim Y.out.rg.off.1 (fun h => by omega), fun k hk => (SB2 _ hk).elim (fun h => Nat.le_trans W0.out (Y.out.own k h)) (fun h => by omega), hlo, ?_, ?_⟩ ((But.refl _ _).drewN nq) (fun _ h => h.elim), ⟨rfl, rfl, ⟨rfl, rfl, rfl, rfl, rfl⟩, CM.out, HU.out, HR.out.2, new_wf Y.out.rg.arr.wf HR.out.2⟩⟩
  · exact B1.out.trans (hB2.below (fun k hk => Nat.le_trans W0.out (Y.out.own k hk)) hw1)
  · exact Nat.le_trans hw1 hB2.size
end
end Go.Proofs.YtplmdmchkaacoaaGreat
