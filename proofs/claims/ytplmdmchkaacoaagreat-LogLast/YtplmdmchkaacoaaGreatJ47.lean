/-
  TEXTS JOINED: LgG.
-/
import Derived.Test.YtplmdmchkaacoaaGreatJ46
import Derived.Test.YtplmdmchkaacoaaGreatJ28

/-
  THE WALK OF Destage.
-/
namespace Go.Proofs.YtplmdmchkaacoaaGreat
open Go.RowKit
open L7 (Rr Rc)
open L12 (Sg)
open L13 (setN)
set_option linter.unusedVariables false
set_option maxRecDepth 100000

theorem batch_many (x : LS) (h : x.a.Wf) : (L14.vw Rr.lba x.recs).take (L14.many ((x.a.M : Int) - 2) (L14.vw Rr.lba x.recs).length) = x.batch := by
  have h1 := (small_nats h).1
  have h2 := h.small.hm
  unfold LS.batch
  rw [show L14.many ((x.a.M : Int) - 2) (L14.vw Rr.lba x.recs).length = min x.a.sl (L14.vw Rr.lba x.recs).length by unfold L14.many; omega]
  rw [← List.take_take, List.take_length]
theorem batch_pos (x : LS) (h : x.a.Wf) (hr : x.recs ≠ []) : 0 < x.batch.length := by
  have h1 := (small_nats h).1
  have h2 := h.small.hm
  have h3 := L14.vw_pos (f := Rr.lba) (l := x.recs) (List.length_pos_iff.2 hr)
  unfold LS.batch
  rw [List.length_take]
  omega
theorem batch_le (x : LS) : x.batch.length ≤ x.a.sl := by
  unfold LS.batch
  rw [List.length_take]
  omega
theorem batch_mem (x : LS) {r : Rr} (h : r ∈ x.batch) : r ∈ x.recs := L14.vw_mem (List.mem_of_mem_take h)
/-- A log whose first records went, the array being another one. -/
def LS.rest (x : LS) (a : AS) : LS := { x with recs := x.recs.filter (fun r => decide (L14.upTo Rr.lba Rr.seq x.recs x.batch.length < r.seq)), a := a }
theorem done_rest (x : LS) (a : AS) : x.done a = (x.rest a).apply x.note := rfl
theorem rest_wf {x : LS} {a : AS} (hw : x.Wf) (hM : a.M = x.a.M) (hs : a.b = x.a.b ∧ a.g = x.a.g ∧ a.s = x.a.s ∧ a.n = x.a.n ∧ a.l = x.a.l) (hd : 0 ≤ a.dur ∧ a.dur ≤ 100000) (hr : a.rl = x.a.rl) : (x.rest a).Wf := by
  obtain ⟨b1, b2, b3, b4, b5⟩ := hs
  refine ⟨by show (x.T.length : Int) = a.g; rw [b2]; exact hw.T, by show (x.seg : Int) < a.g; rw [b2]; exact hw.sg, by show (x.idx : Int) < a.s; rw [b3]; exact hw.ix, fun i => ?_, fun i hi => ?_, fun r hr => ?_, hw.up.filter _, ?_, hd, by show a.rl ≤ _; rw [hr]; exact hw.rl, fun r hr' => ?_⟩
  · show -1 ≤ x.V i ∧ x.V i < a.N * ((a.M : Int) - 2)
    unfold AS.N
    rw [b2, b3, hM]
    exact hw.V i
  · show x.T[i].lv = (lives x.V a.sl a.k a.lb i : Int)
    unfold AS.sl AS.k AS.lb
    rw [b3, b5, hM]
    exact hw.lv i hi
  · have h := hw.ok r ((List.mem_filter.1 hr).1)
    exact ⟨h.kind, by show 0 ≤ r.lba ∧ r.lba < a.l; rw [b5]; exact h.lba, by show r.l.length ≤ a.nb; unfold AS.nb; rw [b1]; exact h.len⟩
  · show ((x.recs.filter _).length : Int) ≤ a.n
    rw [b4]
    have := List.length_filter_le (fun r => decide (L14.upTo Rr.lba Rr.seq x.recs x.batch.length < r.seq)) x.recs
    have := hw.few
    omega
  · show r.seq ≤ a.rl
    rw [hr]
    exact hw.top r ((List.mem_filter.1 hr').1)
theorem nx_in {x : LS} (ha : x.a.Wf) (hw : x.Wf) (hn : ¬ x.none_) : -1 ≤ x.nx ∧ x.nx < 65535 := by
  have h1 := hw.T
  have h2 := ha.small.hg
  unfold LS.nx
  split
  · rename_i hl
    have : -1 ≤ L12.first x.T ∧ L12.first x.T < (x.T.length : Int) := by
      unfold L12.first
      split
      · rename_i i hi
        have := (List.findIdx?_eq_some_iff_getElem.1 hi).1
        omega
      · omega
    omega
  · omega
theorem note_fits {x : LS} (ha : x.a.Wf) (hw : x.Wf) : ∀ e ∈ x.note.es, e.fits := by
  intro e he
  have h4 := ha.small.hl
  rcases List.mem_append.1 he with h | h
  · obtain ⟨r, hr, rfl⟩ := List.mem_map.1 h
    have hk := hw.ok r (batch_mem x hr)
    have := hk.kind
    have := hk.lba
    exact ⟨by show r.kind.toNat < 256; omega, by show r.lba.toNat < 4294967296; omega⟩
  · obtain rfl := List.eq_of_mem_replicate h
    exact ⟨by decide, by decide⟩
theorem note_len {x : LS} : x.note.es.length = x.a.sl := by
  have := batch_le x
  show (x.batch.map ent ++ List.replicate (x.a.sl - x.batch.length) (⟨0, 0⟩ : L9.En)).length = _
  simp
  omega
/-- What Destage comes to. -/
inductive DestAs (w : World) (P : Pl) (q : Ql) (O : Nat → Prop) (x : LS) (l : Int) (w' : World) : Ending → Prop
  | none (h0 : x.recs = []) (hD : Dg w P q O x l w') : DestAs w P q O x l w' (.returned (.int .i64 0))
  | room (h0 : x.recs ≠ []) (hn : x.none_) (hD : Dg w P q O x l w') : DestAs w P q O x l w' (.returned (.int .i64 2))
  | broken (h0 : x.recs ≠ []) (hn : ¬ x.none_) (hb : x.a.broken = true) (hD : Dg w P q O x l w') : DestAs w P q O x l w' (.returned (.int .i64 3))
  | done (h0 : x.recs ≠ []) (hn : ¬ x.none_) (a : AS) (l' : Int) (hl : l = -1 → l' = -1) (hW : Wrote x.a a x.stripe x.chunk) (hd : a.dur = x.a.dur + 1 ∧ a.rl = x.a.rl) (hD : Dg w P q O (x.done a) l' w') : DestAs w P q O x l w' (.returned (.int .i64 0))
  | cut (h0 : x.recs ≠ []) (a : AS) (hl : l ≠ -1) (hc : Calm a) (hs : Same x.a a) (hD : Dg w P q O { x with a := a } 0 w') : DestAs w P q O x l w' (.panicked out)
section
variable {w w' : World} {P : Pl} {q : Ql} {O : Nat → Prop} {x : LS} {l : Int}
theorem lb_shape {y : LS} (ha : lcells P q y.a (y.seg : Int) (y.idx : Int) = lcells P q x.a (x.seg : Int) (x.idx : Int)) (hb : True = True) (h : LB w P q y) : LB w P q x := by
  unfold LB at h ⊢
  rw [← ha]
  exact h
theorem Dg.lb0 {w0 : World} (h : Dg w0 P q O x l w) : LB w P q x := by
  obtain ⟨O', g, _⟩ := h
  exact g.lb
theorem Dg.lb' {w0 : World} {y : LS} {a : AS} (h : Dg w0 P q O { y with a := a } l w) (h0 : y.seg = x.seg) (h1 : y.idx = x.idx) (h2 : y.a = x.a) (hs : Same x.a a) : LB w P q x := by
  obtain ⟨O', g, _⟩ := h
  have k := g.lb
  have e : a = { x.a with d := a.d, stale := a.stale, broken := a.broken, u := a.u } := hs
  unfold LB at k ⊢
  rw [show ({ y with a := a } : LS).a = a from rfl, e, show ({ y with a := a } : LS).seg = y.seg from rfl, show ({ y with a := a } : LS).idx = y.idx from rfl, h0, h1] at k
  exact k
set_option maxHeartbeats 6400000 in
theorem destage_any (h : LG w P q O x l) (hw : x.Wf) (hu : x.a.u ≤ 600000) (hd : x.a.dur ≤ 90000) (hc : Calm x.a ∨ x.a.broken = true) (hl : l = -1 ∨ (0 ≤ l ∧ l ≤ 1000)) :
    Calls Tryz.prog 31 #[.pointer (some ⟨q.b, 0, none⟩)] w fun e w' => DestAs w P q O x l w' e := by
  have WF := Lib.hid h.wf
  have H := Lib.hid h
  have HW := Lib.hid hw
  have HU := Lib.hid (show x.a.u ≤ 700000 by omega)
  have HC0 := Lib.hid hc
  have HU0 := Lib.hid hu
  have HL := Lib.hid hl
  have DU := Lib.hid (show 0 ≤ x.a.dur ∧ x.a.dur ≤ 90000 from ⟨hw.dur.1, hd⟩)
  have RI := Lib.hid (recs_in h.wf hw)
  have FEW := Lib.hid (few_recs h.wf hw)
  have NN := Lib.hid (small_nats h.wf)
  have SM := Lib.hid h.wf.small.hm
  have SI := Lib.hid (stripe_in hw h.wf)
  have k7 := h.c7
  obtain ⟨T, hn, _⟩ := h.zoomN
  have HN := Lib.hid hn
  clear h hn hu hd hl hc
  by_cases h0 : x.recs = []
  · have hr0 : ((⟨x.a.rt, x.a.rl, x.recs⟩ : L7.NS).recs.length : Int) = 0 := by show (x.recs.length : Int) = 0; rw [h0]; rfl
    go_enter Tryz.func31, Tryz.ntmps31
    go_wp2_with fail
    refine (L7.len_any HN.out).mono ?_
    rintro e w1 ⟨rfl, hw1⟩
    replace hw1 := hw1.symm
    subst hw1
    rw [hr0]
    clear hr0
    go_wp2
    go_ret
    exact .none h0 (Dg.refl H.out)
  · have NE := Lib.hid h0
    have BP := Lib.hid (batch_pos x WF.out h0)
    have hr0 : ¬ (x.recs.length : Int) = 0 := by have := List.length_pos_iff.2 h0; omega
    clear hw h0
    go_enter Tryz.func31, Tryz.ntmps31
    go_wp2_with fail
    refine (L7.len_any HN.out).mono ?_
    rintro e w1 ⟨rfl, hw1⟩
    replace hw1 := hw1.symm
    subst hw1
    show _
    go_wp2_with fail
    refine (next_any H.out HW.out).mono ?_
    rintro e w1 ⟨rfl, hb1⟩
    have B1 := Lib.hid hb1
    have G1 := Lib.hid (H.out.up hb1)
    clear hb1 k7
    by_cases hno : x.none_
    · rw [show x.nxv = .tuple #[.int .i64 0, .int .i64 2] from if_pos hno]
      have NO := Lib.hid hno
      clear hno
      go_wp2
      go_ret
      exact .room NE.out NO.out (Dg.of_up H.out B1.out)
    · rw [show x.nxv = .tuple #[.int .i64 x.nx, .int .i64 0] from if_neg hno]
      have NO := Lib.hid hno
      have NXI := Lib.hid (nx_in WF.out HW.out hno)
      have S0 : (fun w' : World => LB w' P q x) w1.drew := G1.out.lb
      clear hno
      go_wp2_with fail
      refine wp_region_early (fun w' : World => LB w' P q x) (fun _ => true) (by kernel_rfl) ?_
      change wpEarly _ _ _ _ _ _ 16 (Array.replicate 16 false) _ _
      refine early_take (i := 0) 24 (.pointer (some ⟨q.b, 0, none⟩)) rfl rfl (by kernel_rfl) (by kernel_rfl) (by kernel_rfl) (by kernel_rfl) rfl (fun _ _ _ h => h) (fun w' hw' => by go_simp) S0 ?_
      simp only [Act.put, List.setIfInBounds_toArray, List.set_cons_zero, List.set_cons_succ]
      refine early_take (i := 1) 25 (.pointer (some ⟨q.b, 0, none⟩)) rfl rfl (by kernel_rfl) (by kernel_rfl) (by kernel_rfl) (by kernel_rfl) rfl (fun _ _ _ h => h) (fun w' hw' => by go_simp) S0 ?_
      simp only [Act.put, List.setIfInBounds_toArray, List.set_cons_zero, List.set_cons_succ]
      refine early_take (i := 2) 26 (.pointer (some ⟨q.b, 7, none⟩)) rfl rfl (by kernel_rfl) (by kernel_rfl) (by kernel_rfl) (by kernel_rfl) rfl (fun _ _ _ h => h) (fun w' hw' => by go_simp) S0 ?_
      simp only [Act.put, List.setIfInBounds_toArray, List.set_cons_zero, List.set_cons_succ]
      refine early_take (i := 3) 27 (.pointer (some ⟨P.n, 0, none⟩)) rfl rfl (by kernel_rfl) (by kernel_rfl) (by kernel_rfl) (by kernel_rfl) rfl (fun _ _ _ h => h) (fun w' hw' => by have k := hw'.c7; go_simp) S0 ?_
      simp only [Act.put, List.setIfInBounds_toArray, List.set_cons_zero, List.set_cons_succ]
      refine early_take (i := 5) 29 (.pointer (some ⟨q.b, 0, none⟩)) rfl rfl (by kernel_rfl) (by kernel_rfl) (by kernel_rfl) (by kernel_rfl) rfl (fun _ _ _ h => h) (fun w' hw' => by go_simp) S0 ?_
      simp only [Act.put, List.setIfInBounds_toArray, List.set_cons_zero, List.set_cons_succ]
      refine early_take (i := 6) 30 (.pointer (some ⟨q.b, 0, none⟩)) rfl rfl (by kernel_rfl) (by kernel_rfl) (by kernel_rfl) (by kernel_rfl) rfl (fun _ _ _ h => h) (fun w' hw' => by go_simp) S0 ?_
      simp only [Act.put, List.setIfInBounds_toArray, List.set_cons_zero, List.set_cons_succ]
      refine early_take (i := 7) 31 (.pointer (some ⟨q.b, 0, none⟩)) rfl rfl (by kernel_rfl) (by kernel_rfl) (by kernel_rfl) (by kernel_rfl) rfl (fun _ _ _ h => h) (fun w' hw' => by go_simp) S0 ?_
      simp only [Act.put, List.setIfInBounds_toArray, List.set_cons_zero, List.set_cons_succ]
      refine early_take (i := 8) 32 (sv (x.a.M : Int) x.a.b x.a.g x.a.s x.a.n x.a.l) rfl rfl (by kernel_rfl) (by kernel_rfl) (by kernel_rfl) (by kernel_rfl) rfl (fun _ _ _ h => h) (fun w' hw' => exec_shape (x := .tmp 31) rfl rfl hw'.range) S0 ?_
      simp only [Act.put, List.setIfInBounds_toArray, List.set_cons_zero, List.set_cons_succ]
      refine early_only (i := 4) (by kernel_rfl) rfl (fun K hK => ?_)
      simp only [opWp, List.getElem?_toArray, List.getElem?_cons_succ, List.getElem?_cons_zero]
      go_simp
      go_at_call 18
      obtain ⟨T, hn, _⟩ := G1.out.drew.zoomN
      refine (L7.records_any hn (by have := FEW.out; show x.recs.length ≤ 1000; omega)).mono ?_
      rintro e w2 ⟨v2, rfl, hR, hb⟩
      have hR : L7.Recs w2 w1.heap.size v2 x.recs := hR
      obtain ⟨A2, c2, L2, rfl, hs2, hL2, _, _, _⟩ := recs14 hR RI.out
      have B2 := Lib.hid (B1.out.trans ((below_drew hb).mono B1.out.size))
      have G2 := Lib.hid (G1.out.up (below_drew hb))
      have R2 := Lib.hid hs2
      have L2H := Lib.hid hL2
      have S2 : (fun w' : World => LB w' P q x) w2 := G2.out.lb
      clear hn hR hs2 hL2 hb
      refine hK _ _ (fun _ => S2) ?_
      refine early_only (i := 9) (by kernel_rfl) rfl (fun K hK => ?_)
      simp only [opWp, List.getElem?_toArray, List.getElem?_cons_succ, List.getElem?_cons_zero]
      go_simp
      go_at_call 56
      refine (slots_any (x.a.M : Int) x.a.b x.a.g x.a.s x.a.n x.a.l ⟨by have := SM.out; omega, by have := SM.out; omega⟩ _).mono ?_
      rintro e w3 ⟨rfl, hb⟩
      have B3 := Lib.hid (B2.out.trans (hb.mono B2.out.size))
      have G3 := Lib.hid (G2.out.up hb)
      have R3 := Lib.hid (R2.out.below hb)
      have S3 : (fun w' : World => LB w' P q x) w3 := G3.out.lb
      clear hb
      refine hK _ _ (fun _ => S3) ?_
      refine early_only (i := 10) (by kernel_rfl) rfl (fun K hK => ?_)
      simp only [opWp, List.getElem?_toArray, List.getElem?_cons_succ, List.getElem?_cons_zero]
      go_simp
      go_at_call 83
      refine (L14.batch_any A2 L2.length c2 L2 ((x.a.M : Int) - 2) w3 (by have := FEW.out; rw [← L2H.out] at this; simp at this; omega) R3.out).mono ?_
      rintro e w4 ⟨A4, c4, M4, u4, rfl, hs4, hM4, hN4, _, hu4, hb⟩
      rw [L2H.out] at hM4 hu4
      rw [batch_many x WF.out] at hM4
      have B4 := Lib.hid (B3.out.trans (hb.mono B3.out.size))
      have G4 := Lib.hid (G3.out.up hb)
      have R4 := Lib.hid hs4
      have M4H := Lib.hid hM4
      have LEN4 := Lib.hid (show M4.length = x.batch.length by rw [← hM4]; simp)
      have U4 := Lib.hid (show u4 = L14.upTo Rr.lba Rr.seq x.recs x.batch.length by rw [hu4 (by rw [LEN4.out]; exact BP.out), LEN4.out])
      have S4 : (fun w' : World => LB w' P q x) w4 := G4.out.lb
      clear hs4 hM4 hN4 hu4 hb
      refine hK _ _ (fun _ => S4) ?_
      refine early_take (i := 11) 23 (.tuple #[.slice A4 M4.length c4, .int .u64 (u4 : Int)]) rfl rfl (by kernel_rfl) (by kernel_rfl) (by kernel_rfl) (by kernel_rfl) rfl (fun _ _ _ h => h) (fun w' hw' => by go_simp) S4 ?_
      simp only [Act.put, List.setIfInBounds_toArray, List.set_cons_zero, List.set_cons_succ]
      refine early_take (i := 12) 35 (.slice A4 M4.length c4) rfl rfl (by kernel_rfl) (by kernel_rfl) (by kernel_rfl) (by kernel_rfl) rfl (fun _ _ _ h => h) (fun w' hw' => by go_simp) S4 ?_
      simp only [Act.put, List.setIfInBounds_toArray, List.set_cons_zero, List.set_cons_succ]
      refine early_take (i := 13) 36 (.int .u64 (u4 : Int)) rfl rfl (by kernel_rfl) (by kernel_rfl) (by kernel_rfl) (by kernel_rfl) rfl (fun _ _ _ h => h) (fun w' hw' => by go_simp) S4 ?_
      simp only [Act.put, List.setIfInBounds_toArray, List.set_cons_zero, List.set_cons_succ]
      refine early_take (i := 14) 5 (.slice A4 M4.length c4) rfl rfl (by kernel_rfl) (by kernel_rfl) (by kernel_rfl) (by kernel_rfl) rfl (fun _ _ _ h => h) (fun w' hw' => by go_simp) S4 ?_
      simp only [Act.put, List.setIfInBounds_toArray, List.set_cons_zero, List.set_cons_succ]
      refine early_take (i := 15) 6 (.int .u64 (u4 : Int)) rfl rfl (by kernel_rfl) (by kernel_rfl) (by kernel_rfl) (by kernel_rfl) rfl (fun _ _ _ h => h) (fun w' hw' => by go_simp) S4 ?_
      simp only [Act.put, List.setIfInBounds_toArray, List.set_cons_zero, List.set_cons_succ]
      refine early_done (by kernel_rfl) ?_
      go_wp2_with fail
      refine (noteOf_any G4.out A4 M4.length c4 M4 R4.out (by rw [LEN4.out]; exact batch_le x) x.nx (fun y hy => by have := HW.out.ok y.abs (batch_mem x (by rw [← M4H.out]; exact List.mem_map_of_mem hy)); have h1 := this.kind; have h2 := this.lba; exact ⟨by show 0 ≤ y.abs.kind; omega, h2.1⟩) ⟨DU.out.1, by have := DU.out; omega⟩).mono ?_
      rintro e w5 ⟨A5, c5, rfl, hE, hA5, hb⟩
      have B5 := Lib.hid (B4.out.trans (hb.mono B4.out.size))
      have G5 := Lib.hid (G4.out.up hb)
      have R5 := Lib.hid (R4.out.below hb)
      have EN := Lib.hid (show M4.map (fun y => ent y.abs) ++ List.replicate (x.a.sl - M4.length) ⟨0, 0⟩ = x.note.es by
        rw [LEN4.out]
        show _ = x.batch.map ent ++ List.replicate (x.a.sl - x.batch.length) ⟨0, 0⟩
        rw [← M4H.out, List.map_map]
        rfl)
      rw [EN.out] at hE
      obtain ⟨nb, hnb⟩ : ∃ nb, nb = w5.heap.size := ⟨_, rfl⟩
      obtain ⟨W6, hW6⟩ : ∃ W6, W6 = w5.alloc (.cells #[.int .u64 (x.a.dur + 1), .int .i64 x.nx, .slice A5 x.a.sl c5] 66) := ⟨_, rfl⟩
      have bel : Below w5.heap.size w5 W6 := by rw [hW6]; exact (Below.refl _ _).alloc (Nat.le_refl _) _
      have G6 := Lib.hid (G5.out.up bel)
      have B6 := Lib.hid (B5.out.trans (bel.mono B5.out.size))
      have R6 := Lib.hid (R5.out.below bel)
      have E6 := Lib.hid (hE.below bel)
      have NB6 := Lib.hid (show At W6 nb #[.int .u64 (x.a.dur + 1), .int .i64 x.nx, .slice A5 x.a.sl c5] 66 by rw [hW6, hnb]; exact At.new _ _ rfl)
      have NBO := Lib.hid (show ¬ O nb from fun e => by have := G5.out.lt _ e; omega)
      have A5N := Lib.hid (show ∀ a, A5 = some a → w.heap.size ≤ a.block from fun a ha => Nat.le_trans B4.out.size (hA5 a ha))
      have A5L := Lib.hid (show ∀ a, A5 = some a → a.block < W6.heap.size from fun a ha => ent_lt E6.out (by have := NN.out.1; have := SM.out; omega) a ha)
      have HW6 := Lib.hid hW6
      have HNB := Lib.hid hnb
      have k6 := (G5.out.alloc (.cells #[.int .u64 (x.a.dur + 1), .int .i64 x.nx, .slice A5 x.a.sl c5] 66)).c6
      clear hE hA5 hb bel hW6 hnb S0
      go_wp2_with fail
      rw [← HW6.out, ← HNB.out]
      clear k6
      obtain ⟨O0, ha, hO0, _⟩ := G6.out.zoomA
      refine (broken_anyL ha).mono ?_
      rintro e w7 ⟨rfl, hw7⟩
      replace hw7 := hw7.symm
      subst hw7
      cases hbr : x.a.broken with
      | true =>
        have HBR := Lib.hid hbr
        clear ha hO0 hbr
        go_wp2
        go_ret
        exact .broken NE.out NO.out HBR.out (Dg.of_up H.out B6.out)
      | false =>
        have HC := Lib.hid (show Calm x.a from HC0.out.elim id (fun e => by rw [hbr] at e; cases e))
        clear ha hO0 hbr
        have QE := Lib.hid (show ((x.note.q : Nat) : Int) = x.a.dur + 1 by show ((x.a.dur.toNat + 1 : Nat) : Int) = _; have := DU.out; omega)
        have NF := Lib.hid (note_fits WF.out HW.out)
        have BL := Lib.hid (show M4.length ≤ x.a.sl by rw [LEN4.out]; exact batch_le x)
        have ML := Lib.hid (show ∀ y ∈ M4, y.n ≤ x.a.nb from fun y hy => by
          have h1 := (HW.out.ok y.abs (batch_mem x (by rw [← M4H.out]; exact List.mem_map_of_mem hy))).len
          have h2 := (R6.out.ok y hy).has.1
          rw [← h2]; exact h1)
        have S0 : (fun w' : World => LB w' P q x ∧ At w' nb #[.int .u64 (x.a.dur + 1), .int .i64 x.nx, .slice A5 x.a.sl c5] 66) W6.drew := ⟨G6.out.lb, NB6.out⟩
        go_wp2_with fail
        refine wp_region_early (fun w' : World => LB w' P q x ∧ At w' nb #[.int .u64 (x.a.dur + 1), .int .i64 x.nx, .slice A5 x.a.sl c5] 66) (fun _ => true) (by kernel_rfl) ?_
        change wpEarly _ _ _ _ _ _ 12 (Array.replicate 12 false) _ _
        refine early_take (i := 0) 46 (.pointer (some ⟨q.b, 0, none⟩)) rfl rfl (by kernel_rfl) (by kernel_rfl) (by kernel_rfl) (by kernel_rfl) rfl (fun _ _ _ h => h) (fun w' hw' => by go_simp) S0 ?_
        simp only [Act.put, List.setIfInBounds_toArray, List.set_cons_zero, List.set_cons_succ]
        refine early_take (i := 1) 47 (.pointer (some ⟨q.b, 0, none⟩)) rfl rfl (by kernel_rfl) (by kernel_rfl) (by kernel_rfl) (by kernel_rfl) rfl (fun _ _ _ h => h) (fun w' hw' => by go_simp) S0 ?_
        simp only [Act.put, List.setIfInBounds_toArray, List.set_cons_zero, List.set_cons_succ]
        refine early_take (i := 2) 48 (.pointer (some ⟨q.b, 6, none⟩)) rfl rfl (by kernel_rfl) (by kernel_rfl) (by kernel_rfl) (by kernel_rfl) rfl (fun _ _ _ h => h) (fun w' hw' => by go_simp) S0 ?_
        simp only [Act.put, List.setIfInBounds_toArray, List.set_cons_zero, List.set_cons_succ]
        refine early_take (i := 3) 49 (.pointer (some ⟨P.a, 0, none⟩)) rfl rfl (by kernel_rfl) (by kernel_rfl) (by kernel_rfl) (by kernel_rfl) rfl (fun _ _ _ h => h) (fun w' hw' => by have k := hw'.1.c6; go_simp) S0 ?_
        simp only [Act.put, List.setIfInBounds_toArray, List.set_cons_zero, List.set_cons_succ]
        refine early_take (i := 4) 50 (.pointer (some ⟨q.b, 0, none⟩)) rfl rfl (by kernel_rfl) (by kernel_rfl) (by kernel_rfl) (by kernel_rfl) rfl (fun _ _ _ h => h) (fun w' hw' => by go_simp) S0 ?_
        simp only [Act.put, List.setIfInBounds_toArray, List.set_cons_zero, List.set_cons_succ]
        refine early_take (i := 6) 52 (.pointer (some ⟨q.b, 0, none⟩)) rfl rfl (by kernel_rfl) (by kernel_rfl) (by kernel_rfl) (by kernel_rfl) rfl (fun _ _ _ h => h) (fun w' hw' => by go_simp) S0 ?_
        simp only [Act.put, List.setIfInBounds_toArray, List.set_cons_zero, List.set_cons_succ]
        refine early_take (i := 7) 53 (.agg #[.int .u64 (x.a.dur + 1), .int .i64 x.nx, .slice A5 x.a.sl c5]) rfl rfl (by kernel_rfl) (by kernel_rfl) (by kernel_rfl) (by kernel_rfl) rfl (fun _ _ _ h => h) (fun w' hw' => by have k0 : w'.cell? ⟨nb, 0, none⟩ = some (.int .u64 (x.a.dur + 1)) := hw'.2.cell 0; have k1 : w'.cell? ⟨nb, 1, none⟩ = some (.int .i64 x.nx) := hw'.2.cell 1; have k2 : w'.cell? ⟨nb, 2, none⟩ = some (.slice A5 x.a.sl c5) := hw'.2.cell 2; go_simp) S0 ?_
        simp only [Act.put, List.setIfInBounds_toArray, List.set_cons_zero, List.set_cons_succ]
        refine early_take (i := 8) 54 (.slice A4 M4.length c4) rfl rfl (by kernel_rfl) (by kernel_rfl) (by kernel_rfl) (by kernel_rfl) rfl (fun _ _ _ h => h) (fun w' hw' => by go_simp) S0 ?_
        simp only [Act.put, List.setIfInBounds_toArray, List.set_cons_zero, List.set_cons_succ]
        refine early_only (i := 5) (by kernel_rfl) rfl (fun K hK => ?_)
        simp only [opWp, List.getElem?_toArray, List.getElem?_cons_succ, List.getElem?_cons_zero]
        go_simp
        go_at_call 42
        refine (stripe_call G6.out.drew HW.out).mono ?_
        rintro e w7 ⟨rfl, hb⟩
        have B7 := Lib.hid (B6.out.trans ((below_drew hb).mono B6.out.size))
        have G7 := Lib.hid (G6.out.up (below_drew hb))
        have K7 := Lib.hid (below_drew hb)
        have S7 : (fun w' : World => LB w' P q x ∧ At w' nb #[.int .u64 (x.a.dur + 1), .int .i64 x.nx, .slice A5 x.a.sl c5] 66) w7 := ⟨G7.out.lb, NB6.out.below (below_drew hb) NB6.out.lt⟩
        clear hb
        refine hK _ _ (fun _ => S7) ?_
        refine early_only (i := 9) (by kernel_rfl) rfl (fun K hK => ?_)
        simp only [opWp, List.getElem?_toArray, List.getElem?_cons_succ, List.getElem?_cons_zero]
        go_simp
        go_at_call 86
        have HC := chunks_made G7.out x.note A5 c5 (E6.out.below K7.out) (by have := DU.out; show x.a.dur.toNat + 1 < 18446744073709551616; omega) NXI.out NF.out A4 M4.length c4 M4 (R6.out.below K7.out) BL.out ML.out
        rw [QE.out] at HC
        refine HC.mono ?_
        rintro e w8 ⟨v8, L8, rfl, hCl, hLL, hLm, hLn, hb⟩
        obtain ⟨A8, c8, rfl, hln⟩ := hCl.ln (by rw [hLL]; have := NN.out.1; have := SM.out; omega)
        have B8 := Lib.hid (B7.out.trans (hb.mono B7.out.size))
        have G8 := Lib.hid (G7.out.up hb)
        have LN8 := Lib.hid hln
        have CL8 := Lib.hid hCl
        have LL8 := Lib.hid hLL
        have LM8 := Lib.hid hLm
        have LF8 := Lib.hid hLn
        have NB8 := Lib.hid (S7.2.below hb S7.2.lt)
        have S8 : (fun w' : World => LB w' P q x ∧ At w' nb #[.int .u64 (x.a.dur + 1), .int .i64 x.nx, .slice A5 x.a.sl c5] 66) w8 := ⟨G8.out.lb, NB8.out⟩
        have K8 := Lib.hid (K7.out.trans (hb.mono K7.out.size))
        clear hln hCl hLL hLm hLn hb HC
        refine hK _ _ (fun _ => S8) ?_
        refine early_only (i := 10) (by kernel_rfl) rfl (fun K hK => ?_)
        simp only [opWp, List.getElem?_toArray, List.getElem?_cons_succ, List.getElem?_cons_zero]
        go_simp
        go_at_call 85
        obtain ⟨O0, ha, hO0, hQB, hZ⟩ := G8.out.zoomA
        have Z8 := Lib.hid hZ
        have QB8 := Lib.hid hQB
        have OS8 := Lib.hid hO0
        refine (put_x x.stripe SI.out A8 L8.length c8 L8 (by rw [LL8.out]; have := NN.out.1; have := SM.out; omega) LN8.out (fun y hy => by rw [LF8.out y hy]; exact NN.out.2.2.2.2) (fun y hy a hya hOa => by have h1 := (CL8.out.off y hy a hya).2.1; have h2 := G7.out.lt _ (hO0 _ hOa); omega) ha HU.out HC.out HL.out).mono ?_
        rintro e w9 hp
        cases hp with
        | cut a9 hl9 hD9 hr9 =>
          have hDD := Z8.out a9 0 w9 hr9.same hD9
          have D9 := Lib.hid (Dg.trans (fun _ h => .inl h) (But.of_below B8.out) hDD)
          have HS9 := Lib.hid hr9.same
          have HC9 := Lib.hid (HC.out.rel hr9)
          clear hD9 hr9 hDD
          unfold out
          go_wp2
          exact ⟨rfl, .cut NE.out a9 hl9 HC9.out HS9.out D9.out⟩
        | done a9 l9 hl9 hD9 hr9 =>
          have hDD := Z8.out a9 l9 w9 hr9.same hD9
          have D9 := Lib.hid hDD
          have DS9 := Lib.hid hr9.same
          have RR9 := Lib.hid hr9
          have HL9 := Lib.hid hl9
          have NB9 := Lib.hid (NB8.out.but hD9.choose_spec.2.2 (fun e => NBO.out (OS8.out _ e)))
          have EQ9 := Lib.hid hD9.choose_spec.2.2
          have S9 : (fun w' : World => LB w' P q x ∧ At w' nb #[.int .u64 (x.a.dur + 1), .int .i64 x.nx, .slice A5 x.a.sl c5] 66) w9 := ⟨hDD.lb' rfl rfl rfl hr9.same, NB9.out⟩
          clear hD9 hr9 hDD hl9 ha hO0 hQB hZ
          refine hK _ _ (fun _ => S9) ?_
          refine early_take (i := 11) 8 (.int .i64 0) rfl rfl (by kernel_rfl) (by kernel_rfl) (by kernel_rfl) (by kernel_rfl) rfl (fun _ _ _ h => h) (fun w' hw' => by go_simp) S9 ?_
          simp only [Act.put, List.setIfInBounds_toArray, List.set_cons_zero, List.set_cons_succ]
          refine early_done (by kernel_rfl) ?_
          obtain ⟨X9, hX9⟩ : ∃ X9 : LS, X9 = { x with a := a9 } := ⟨_, rfl⟩
          obtain ⟨O9, g9, s9, b9⟩ := D9.out
          have HX9 := Lib.hid hX9
          have G9 := Lib.hid (show LG w9 P q O9 X9 l9 by rw [hX9]; exact g9)
          have SB9 := Lib.hid s9
          have BT9 := Lib.hid b9
          have XR9 := Lib.hid (show X9.recs = x.recs by rw [hX9])
          have U09 := Lib.hid (show 0 ≤ X9.a.u ∧ X9.a.u ≤ 700000 by rw [hX9]; have := RR9.out.u; have := WF.out.u0; have := HU0.out; show 0 ≤ a9.u ∧ a9.u ≤ 700000; omega)
          have NBO9 := Lib.hid (show ¬ O9 nb from fun e => (s9 nb e).elim NBO.out (fun h => by have := NB8.out.lt; omega))
          have A5O9 := Lib.hid (show ∀ a, A5 = some a → ¬ O9 a.block from fun a ha e => (s9 _ e).elim (fun h => by have := A5N.out a ha; have := H.out.lt _ h; omega) (fun h => by have := A5L.out a ha; have := K8.out.size; omega))
          have E9 := Lib.hid ((E6.out.below K8.out).but EQ9.out (fun _ a ha e => by have := A5N.out a ha; have := H.out.lt _ (OS8.out _ e); omega))
          have S0 : (fun w' : World => LB w' P q X9 ∧ At w' nb #[.int .u64 (x.a.dur + 1), .int .i64 x.nx, .slice A5 x.a.sl c5] 66) w9.drew := ⟨G9.out.lb, NB9.out⟩
          clear g9 s9 b9 hX9 S9
          go_wp2_with fail
          refine wp_region_early (fun w' : World => LB w' P q X9 ∧ At w' nb #[.int .u64 (x.a.dur + 1), .int .i64 x.nx, .slice A5 x.a.sl c5] 66) (fun _ => true) (by kernel_rfl) ?_
          change wpEarly _ _ _ _ _ _ 8 (Array.replicate 8 false) _ _
          refine early_take (i := 0) 60 (.pointer (some ⟨q.b, 0, none⟩)) rfl rfl (by kernel_rfl) (by kernel_rfl) (by kernel_rfl) (by kernel_rfl) rfl (fun _ _ _ h => h) (fun w' hw' => by go_simp) S0 ?_
          simp only [Act.put, List.setIfInBounds_toArray, List.set_cons_zero, List.set_cons_succ]
          refine early_take (i := 1) 61 (.pointer (some ⟨q.b, 0, none⟩)) rfl rfl (by kernel_rfl) (by kernel_rfl) (by kernel_rfl) (by kernel_rfl) rfl (fun _ _ _ h => h) (fun w' hw' => by go_simp) S0 ?_
          simp only [Act.put, List.setIfInBounds_toArray, List.set_cons_zero, List.set_cons_succ]
          refine early_take (i := 2) 62 (.pointer (some ⟨q.b, 7, none⟩)) rfl rfl (by kernel_rfl) (by kernel_rfl) (by kernel_rfl) (by kernel_rfl) rfl (fun _ _ _ h => h) (fun w' hw' => by go_simp) S0 ?_
          simp only [Act.put, List.setIfInBounds_toArray, List.set_cons_zero, List.set_cons_succ]
          refine early_take (i := 3) 63 (.pointer (some ⟨P.n, 0, none⟩)) rfl rfl (by kernel_rfl) (by kernel_rfl) (by kernel_rfl) (by kernel_rfl) rfl (fun _ _ _ h => h) (fun w' hw' => by have k := hw'.1.c7; go_simp) S0 ?_
          simp only [Act.put, List.setIfInBounds_toArray, List.set_cons_zero, List.set_cons_succ]
          refine early_take (i := 4) 64 (.pointer (some ⟨nb, 0, none⟩)) rfl rfl (by kernel_rfl) (by kernel_rfl) (by kernel_rfl) (by kernel_rfl) rfl (fun _ _ _ h => h) (fun w' hw' => by go_simp) S0 ?_
          simp only [Act.put, List.setIfInBounds_toArray, List.set_cons_zero, List.set_cons_succ]
          refine early_take (i := 5) 65 (.int .u64 (x.a.dur + 1)) rfl rfl (by kernel_rfl) (by kernel_rfl) (by kernel_rfl) (by kernel_rfl) rfl (fun _ _ _ h => h) (fun w' hw' => by have k : w'.cell? ⟨nb, 0, none⟩ = some (.int .u64 (x.a.dur + 1)) := hw'.2.cell 0; go_simp) S0 ?_
          simp only [Act.put, List.setIfInBounds_toArray, List.set_cons_zero, List.set_cons_succ]
          refine early_take (i := 6) 66 (.int .u64 (u4 : Int)) rfl rfl (by kernel_rfl) (by kernel_rfl) (by kernel_rfl) (by kernel_rfl) rfl (fun _ _ _ h => h) (fun w' hw' => by go_simp) S0 ?_
          simp only [Act.put, List.setIfInBounds_toArray, List.set_cons_zero, List.set_cons_succ]
          refine early_only (i := 7) (by kernel_rfl) rfl (fun K hK => ?_)
          simp only [opWp, List.getElem?_toArray, List.getElem?_cons_succ, List.getElem?_cons_zero]
          go_simp
          go_at_call 87
          obtain ⟨T, hn, hp, hTO, hPO, hZ⟩ := G9.out.drew.zoomN
          by_cases hl0 : l9 = 0
          · subst hl0
            refine (L7.commit_out (x.a.dur + 1) X9.a.u u4 hn hp).mono ?_
            rintro e w10 ⟨rfl, o10, rfl⟩
            have D10 := Lib.hid (show Dg w P q O X9 0 ((w9.drew).alloc o10) from Dg.trans (fun _ h => .inl h) (But.of_below B8.out) ⟨O9, (G9.out.drew).alloc o10, SB9.out, (BT9.out.drew).alloc o10⟩)
            have HC9 := Lib.hid (HC.out.rel RR9.out)
            clear hn hp hTO hPO hZ
            unfold out
            go_wp2
            exact ⟨rfl, .cut NE.out a9 (fun e => by have := HL9.out; omega) HC9.out DS9.out (by have := D10.out; rw [HX9.out] at this; exact this)⟩
          · refine (L7.commit_go (x.a.dur + 1) X9.a.u l9 u4 hn hp (by have := FEW.out; show X9.recs.length ≤ 1000; rw [XR9.out]; omega) ⟨by have := U09.out; omega, by have := U09.out; omega⟩ hl0 (by have := HL9.out; have := HL.out; omega)).mono ?_
            rintro e w10 ⟨rfl, k1, k2, k3⟩
            obtain ⟨v10, hD10⟩ := hZ w10 T (x.a.dur + 1) X9.a.rl _ (less l9) k1 k2 (fun k hk => .inl hk) k3
            have D10 := Lib.hid hD10.of_drew
            have K10 := Lib.hid (show ¬ (T nb ∨ nb = P.p) from fun e => NBO9.out (e.elim (hTO nb) (fun e => e ▸ hPO)))
            have NB10 := Lib.hid (NB9.out.but (But.of_drewN 1 k3) K10.out)
            have EQ10 := Lib.hid (show But (fun k => T k ∨ k = P.p) w9 w10 from But.of_drewN 1 k3)
            have TO10 := Lib.hid (show ∀ k, (T k ∨ k = P.p) → O9 k from fun k e => e.elim (hTO k) (fun e => e ▸ hPO))
            have S10 : (fun w' : World => LB w' P q X9 ∧ At w' nb #[.int .u64 (x.a.dur + 1), .int .i64 x.nx, .slice A5 x.a.sl c5] 66) w10 := ⟨lb_shape rfl rfl hD10.lb0, NB10.out⟩
            clear hn hp hTO hPO hZ k1 k2 k3 hD10
            refine hK _ _ (fun _ => S10) ?_
            refine early_done (by kernel_rfl) ?_
            obtain ⟨O10, g10, s10, b10⟩ := D10.out
            have NB11 := NB10.out
            have z0 : w10.cell? ⟨nb, 0, none⟩ = some (.int .u64 (x.a.dur + 1)) := NB11.cell 0
            have z1 : w10.cell? ⟨nb, 1, none⟩ = some (.int .i64 x.nx) := NB11.cell 1
            have z2 : w10.cell? ⟨nb, 2, none⟩ = some (.slice A5 x.a.sl c5) := NB11.cell 2
            have HX10 := Lib.hid (show ({ X9 with a := { X9.a with u := X9.a.u + 1, dur := x.a.dur + 1, rv := v10, rl := X9.a.rl }, recs := X9.recs.filter (fun r => decide (u4 < r.seq)) } : LS) = x.rest { a9 with u := a9.u + 1, dur := x.a.dur + 1, rv := v10, rl := a9.rl } by rw [HX9.out, U4.out]; rfl)
            have G10 := Lib.hid (show LG w10 P q O10 (x.rest { a9 with u := a9.u + 1, dur := x.a.dur + 1, rv := v10, rl := a9.rl }) (less l9) by rw [← HX10.out]; exact g10)
            have SB10 := Lib.hid s10
            have BT10 := Lib.hid b10
            have WR := Lib.hid (show Wrote x.a { a9 with u := a9.u + 1, dur := x.a.dur + 1, rv := v10, rl := a9.rl } x.stripe (fun k => (L8.getD k ⟨none, 0, 0, []⟩).l) from wrote_of HC.out SI.out.1 (by have := SM.out; omega) RR9.out rfl)
            have WR2 := Lib.hid (show Wrote x.a { a9 with u := a9.u + 1, dur := x.a.dur + 1, rv := v10, rl := a9.rl } x.stripe x.chunk from ⟨WR.out.M, WR.out.same, WR.out.calm, WR.out.u, fun k m hk hm => by
              rw [WR.out.new k m hk hm]
              show (L8.getD k ⟨none, 0, 0, []⟩).l = _
              rw [list_chunk, LM8.out]
              exact chunk_list x (by have := NN.out.1; have := SM.out; omega) M4 M4H.out, WR.out.old⟩)
            have RL := Lib.hid (show a9.rl = x.a.rl from DS9.out.shape.2.2.2.2.2.2.2)
            have RW := Lib.hid (rest_wf HW.out WR2.out.M WR2.out.same (a := { a9 with u := a9.u + 1, dur := x.a.dur + 1, rv := v10, rl := a9.rl }) ⟨by have := DU.out; show 0 ≤ x.a.dur + 1; omega, by have := DU.out; show x.a.dur + 1 ≤ 100000; omega⟩ RL.out)
            have E10 := Lib.hid (E9.out.but EQ10.out (fun _ a ha e => A5O9.out a ha (TO10.out _ e)))
            have A5O10 := Lib.hid (show ∀ a, A5 = some a → ¬ O10 a.block from fun a ha e => (s10 _ e).elim (A5O9.out a ha) (fun h => by have := A5L.out a ha; have := K8.out.size; have := BT9.out.size; omega))
            have HAP := Lib.hid (apply_any G10.out RW.out x.note A5 x.a.sl c5 E10.out A5O10.out (by have := NN.out.1; have := SM.out; omega) (by have := DU.out; show x.a.dur.toNat + 1 < 18446744073709551616; omega) ⟨by have := NXI.out; show -9223372036854775808 ≤ x.nx; omega, by have := NXI.out; show x.nx ≤ 9223372036854775807; omega⟩)
            clear g10 s10 b10 NB11 S0 S10
            go_wp2_with fail
            have HAP2 := HAP.out
            rw [QE.out] at HAP2
            refine HAP2.mono ?_
            rintro e w11 ⟨rfl, hD⟩
            have D11 := Lib.hid (Dg.trans (fun _ h => .inl h) (But.of_below B8.out) (Dg.trans SB9.out BT9.out (Dg.trans SB10.out BT10.out hD)))
            clear hD HAP2 z0 z1 z2
            go_wp2
            go_ret
            exact .done NE.out NO.out _ (less l9) (fun e => by have := HL9.out; have h9 : l9 = -1 := by omega
                                                               rw [h9]; rfl) WR2.out ⟨rfl, RL.out⟩ D11.out
end
end Go.Proofs.YtplmdmchkaacoaaGreat
