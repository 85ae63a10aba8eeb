/-
  THE WALK OF ArrayParity.
-/
import Derived.Test.YtapbphkhbhcdkaaZero
namespace Go.Proofs.Ytapbphkhbhcdkaa
open Go.RowKit Go.Maps
set_option linter.unusedVariables false
set_option maxRecDepth 100000

set_option maxHeartbeats 6400000 in
theorem parity_walk (x0 x1 x2 x3 x4 x5 : Int) (A : Option Addr) (n c : Nat) (xs : List (BitVec 8 × BitVec 8)) {w : World} (hst : St w A n xs) (h0 : 0 ≤ x0 ∧ x0 ≤ 255) (h1 : 0 ≤ x1 ∧ x1 ≤ 255) (h2 : 0 ≤ x2 ∧ x2 ≤ 255) (h3 : 0 ≤ x3 ∧ x3 ≤ 255) (h4 : 0 ≤ x4 ∧ x4 ≤ 255) (h5 : 0 ≤ x5 ∧ x5 ≤ 255) :
    Calls Try.prog 6 #[.agg #[.int .u8 x0, .int .u8 x1, .int .u8 x2, .int .u8 x3, .int .u8 x4, .int .u8 x5], .slice A n c] w fun e w' => e = .returned (.bool true) ∧ Below w.heap.size w w' := by
  have ST := Lib.hid hst
  clear hst
  obtain ⟨M0, b, g, sg, n0, l0, hsm, hshape⟩ := shape_small x0 x1 x2 x3 x4 x5 h0 h1 h2 h3 h4 h5
  obtain ⟨M, rfl⟩ : ∃ M : Nat, M0 = (M : Int) := ⟨M0.toNat, by have := hsm.hm; omega⟩
  have SM := Lib.hid hsm
  have SH := Lib.hid hshape
  clear hsm hshape
  go_enter Try.func6, Try.ntmps6
  go_wp2_with fail
  have A0 := Lib.hid (show At (w.alloc (.cells #[.int .u8 x0, .int .u8 x1, .int .u8 x2, .int .u8 x3, .int .u8 x4, .int .u8 x5] 23)) w.heap.size #[.int .u8 x0, .int .u8 x1, .int .u8 x2, .int .u8 x3, .int .u8 x4, .int .u8 x5] 23 from At.new _ 23 rfl)
  have B0 := Lib.hid ((Below.refl w.heap.size w).alloc (Nat.le_refl _) (.cells #[.int .u8 x0, .int .u8 x1, .int .u8 x2, .int .u8 x3, .int .u8 x4, .int .u8 x5] 23))
  refine (awake_any _).mono ?_
  rintro e w1 ⟨rfl, hbl⟩
  have A1 := Lib.hid (A0.out.below hbl A0.out.lt)
  have B1 := Lib.hid (B0.out.trans (hbl.mono B0.out.size))
  clear hbl A0 B0
  have c0 : w1.cell? ⟨w.heap.size, 0, none⟩ = some (.int .u8 x0) := A1.out.cell 0
  have c1 : w1.cell? ⟨w.heap.size, 1, none⟩ = some (.int .u8 x1) := A1.out.cell 1
  have c2 : w1.cell? ⟨w.heap.size, 2, none⟩ = some (.int .u8 x2) := A1.out.cell 2
  have c3 : w1.cell? ⟨w.heap.size, 3, none⟩ = some (.int .u8 x3) := A1.out.cell 3
  have c4 : w1.cell? ⟨w.heap.size, 4, none⟩ = some (.int .u8 x4) := A1.out.cell 4
  have c5 : w1.cell? ⟨w.heap.size, 5, none⟩ = some (.int .u8 x5) := A1.out.cell 5
  by_cases hn0 : 12 < n
  · have hn0' : (12 : Int) < (n : Int) := by omega
    clear c0 c1 c2 c3 c4 c5
    go_wp2
    go_ret
    exact ⟨rfl, B1.out⟩
  go_wp2_with fail
  refine (SH.out w1).mono ?_
  rintro e w2 ⟨rfl, hbl⟩
  have B2 := Lib.hid (B1.out.trans (hbl.mono B1.out.size))
  clear hbl A1 c0 c1 c2 c3 c4 c5 SH
  go_wp2_with fail
  refine (New_any M b g sg n0 l0 SM.out w2).mono ?_
  rintro e w3 ⟨R, q, cap, P, O, S0, z, rfl, hsys, hS, hz⟩
  obtain ⟨s, hy, hcalm, hu, rfl, rfl, rfl, rfl, rfl, rfl, hd⟩ := init_facts hsys hz
  have HY := Lib.hid hy
  have CM := Lib.hid hcalm
  have HU := Lib.hid hu
  have HD := Lib.hid hd
  have B3 := Lib.hid (B2.out.trans (hy.below.mono B2.out.size))
  have hMs := hy.rg.arr.many
  obtain ⟨r0, r1, r2, r3, r4, r5⟩ := hy.shape
  clear hsys hS hz hy hcalm hu hd SM B1
  have ZB := Lib.hid (show z = s.b.toNat by
    have h1 := (HY.out.rg.arr.wf.each 0 (by omega)).2.1
    rw [HD.out 0] at h1
    have h2 : (z : Int) = s.b := h1
    omega)
  have Q4 := Lib.hid (show KeptP s (fun _ => none) from ⟨CM.out, inv_none s, fun m hm t h0 h1 _ => by
    rw [HD.out m]
    show List.replicate z 0#8 = _
    rw [ZB.out]⟩)
  clear r0 r1 r2 r3 r4 r5
  have ST2 := Lib.hid (ST.out.below B2.out)
  have hmk : ∀ w : World, (Instr.makeMap 38 none).run Try.prog w = .ok (.map (some w.heap.size)) (w.alloc (.map #[] 0)) := fun w => by kernel_rfl
  go_wp2_with fail
  have L4 := Lib.hid HY.out.begin_
  obtain ⟨hb, hhb⟩ : ∃ hb, hb = w3.heap.size := ⟨_, rfl⟩
  clear hmk
  rw [← hhb] at L4 ⊢
  refine (put_any false KeptP put_parity A n c xs (by omega) ST2.out rfl L4.out Q4.out (by have := HU.out; omega)).mono ?_
  rintro e w5 ⟨rfl, O5, s5, H5, k1, k2, k3, k4, k5, k6⟩
  have L5 := Lib.hid k1
  have Q5 := Lib.hid k3
  have U5 := Lib.hid (show s5.u ≤ 300 by have := HU.out; omega)
  clear k1 k2 k3 k4 k5 k6 L4 HY ST2 hhb Q4 ZB HD HU CM hMs B3
  obtain ⟨r0, r1, r2, r3, r4, r5⟩ := L5.out.sys.shape
  go_wp2_with fail
  refine (all_call L5.out.sys.rg.arr.wf w5).mono ?_
  rintro e w6 ⟨rfl, hbl⟩
  have L6 := Lib.hid (L5.out.up hbl)
  have WF := Lib.hid L6.out.sys.rg.arr.wf
  have HN := Lib.hid WF.out.n
  have hMs := L6.out.sys.rg.arr.many
  have NB := Lib.hid (show (s5.b.toNat : Int) = s5.b by have := WF.out.small.hb; omega)
  have b48 := Lib.hid WF.out.small.hb
  obtain ⟨nb, hnb⟩ : ∃ nb, nb = s5.b.toNat := ⟨_, rfl⟩
  have EB := Lib.hid hnb
  have B48 := Lib.hid (show 32 ≤ nb ∧ nb ≤ 48 by have := b48.out; omega)
  have NN := Lib.hid (show s5.b = (nb : Int) by rw [hnb]; exact NB.out.symm)
  clear hbl r0 r1 r2 r3 r4 r5 L5 hnb
  obtain ⟨i0, hi, hz0, hz1, hz2⟩ := info_parts byte_info
  go_wp2_with fail
  obtain ⟨N, hN⟩ : ∃ N : Nat, s5.N = (N : Int) := ⟨s5.N.toNat, by have := HN.out; omega⟩
  have EN := Lib.hid hN
  have n18 : N ≤ 18 := by have := HN.out; omega
  rw [hN]
  clear hN
  go_loopw [47] (fun i wr => ∃ j : Nat, j ≤ N ∧ i = .int .i64 (j : Int) ∧ ∃ u : Int, Lw w2.heap.size w2 wr R q cap P O5 (s5.tick u) hb H5 ∧ u ≤ 300 + 10 * (j : Int)) (fun i _ => N - (RowKit.intOf i).toNat)
  case atStart => exact ⟨0, Nat.zero_le _, rfl, s5.u, L6.out, by have := U5.out; omega⟩
  case round =>
    obtain ⟨j, hj, rfl, u, k1, k2⟩ := hrel
    have L7 := Lib.hid k1
    have U7 := Lib.hid k2
    clear k1 k2 L6 U5
    by_cases hlt : j < N
    · have TN := Lib.hid (show 0 ≤ (j : Int) ∧ (j : Int) < s5.N by rw [EN.out]; omega)
      have RW5 := Lib.hid (kept_rows Q5.out WF.out TN.out)
      have AI := Lib.hid (show 0 ≤ s5.at_ (j : Int) ∧ s5.at_ (j : Int) < (s5.S : Int) by
        have h1 := WF.out.sect
        have h2 := WF.out.some_
        have h3 := TN.out
        unfold AS.at_
        unfold AS.N at h3
        omega)
      have r1 : wr.cell? ⟨R, 1, none⟩ = some (.int .i64 (nb : Int)) := by rw [← NN.out]; exact L7.out.sys.shape.2.1
      have r7 : wr.cell? ⟨R, 7, none⟩ = some (.slice (some ⟨q, 0, none⟩) s5.M cap) := L7.out.cells.2.2.1
      go_wp2_with (at_make; refine wpList_make_full _ rfl (.tmp 54) (.tmp 54) 46 rfl wr.heap.size 5 i0 (.int .u8 0) 1 Try.underlying46 hi hz0 hz1 .i64 .i64 nb nb nb rfl rfl rfl rfl (by rw [hz2]; have := B48.out; omega) (by have := B48.out; unfold maxLen; omega) (Nat.le_refl _) ?_; intro wm hown1 hg1; have RW1 := Lib.hid (made_tab hown1); have BM := Lib.hid (show Below wr.heap.size wr wm from (Below.refl _ _).grown hg1 (Nat.le_refl _) (by simp)); clear hown1 hg1; have r7m : wm.cell? ⟨R, 7, none⟩ = some (.slice (some ⟨q, 0, none⟩) s5.M cap) := (L7.out.up BM.out).cells.2.2.1)
      have L8 := Lib.hid (L7.out.up BM.out)
      obtain ⟨g, hg⟩ : ∃ g, g = wr.heap.size := ⟨_, rfl⟩
      rw [← hg] at RW1 ⊢
      have GO := Lib.hid (show ¬ O5 g ∧ g ≠ R ∧ g ≠ q ∧ w2.heap.size ≤ g ∧ g ≠ hb by
        have h1 := L7.out.sys.new g (by omega)
        have h2 := L7.out.map.lt
        exact ⟨h1.1, h1.2.1, h1.2.2.1, h1.2.2.2, by omega⟩)
      clear r1 r7 r7m BM hg L7
      go_loopw [61] (fun i wr => ∃ m : Nat, m ≤ s5.M ∧ i = .int .i64 (m : Int) ∧ ∃ u : Int, Lw w2.heap.size w2 wr R q cap P O5 (s5.tick u) hb H5 ∧ u ≤ 300 + 10 * (j : Int) + (m : Int) ∧ At wr g (tabA nb (parB ((List.range m).map (fun k => (s5.d k).read (s5.at_ (j : Int)))))) 5) (fun i _ => s5.M - (RowKit.intOf i).toNat)
      case atStart => exact ⟨0, Nat.zero_le _, rfl, u, L8.out, by have := U7.out; omega, RW1.out⟩
      case round =>
        obtain ⟨m, hm, rfl, u, k1, k2, k3⟩ := hrel
        have L9 := Lib.hid k1
        have U9 := Lib.hid k2
        have A9 := Lib.hid k3
        clear k1 k2 k3 L8 RW1 U7
        by_cases hltm : m < s5.M
        · have hd := L9.out.sys.rg.row.2 m hltm
          have m2 : (m : Int) < (s5.M : Int) := by omega
          obtain ⟨r0, r1, r2, r3, r4, r5⟩ := L9.out.sys.shape
          have q0 : wr.cell? ⟨R, 0, none⟩ = some (.int .i64 (s5.M : Int)) := r0
          have q1 : wr.cell? ⟨R, 1, none⟩ = some (.int .i64 s5.b) := r1
          have q2 : wr.cell? ⟨R, 2, none⟩ = some (.int .i64 s5.g) := r2
          have q3 : wr.cell? ⟨R, 3, none⟩ = some (.int .i64 s5.s) := r3
          have q4 : wr.cell? ⟨R, 4, none⟩ = some (.int .i64 s5.n) := r4
          have q5 : wr.cell? ⟨R, 5, none⟩ = some (.int .i64 s5.l) := r5
          clear r0 r1 r2 r3 r4 r5
          go_wp2_with fail
          refine (at_call WF.out (j : Int) (by omega) _).mono ?_
          rintro e w10 ⟨rfl, hbl⟩
          have L10 := Lib.hid (L9.out.up hbl)
          have A10 := Lib.hid (A9.out.below hbl A9.out.lt)
          clear hbl L9 A9 hd m2 q0 q1 q2 q3 q4 q5
          go_wp2_with fail
          refine (read_sys m Q5.out.1 hltm (s5.at_ (j : Int)) u AI.out L10.out (by have := U9.out; omega)).mono ?_
          rintro e w11 ⟨v, rfl, hr, k1, k2⟩
          have L11 := Lib.hid k1
          have A11 := Lib.hid (A10.out.but k2 GO.out.1)
          have LT := Lib.hid A10.out.lt
          have HL := Lib.hid (show ((s5.d m).read (s5.at_ (j : Int))).length = nb by rw [EB.out]; exact RW5.out.1 m hltm)
          have PN := Lib.hid (fun x => parB_next (fun k => (s5.d k).read (s5.at_ (j : Int))) x m)
          obtain ⟨rw_, hrw⟩ : ∃ rw_, (s5.d m).read (s5.at_ (j : Int)) = rw_ := ⟨_, rfl⟩
          rw [hrw] at hr HL PN
          obtain ⟨Ab, cb, rfl, hh, _, hlt1⟩ := own_form hr
          rw [HL.out] at hh ⊢
          have HH := Lib.hid hh
          have HB := Lib.hid (show ∀ x, Ab = some x → ¬ x.block = g from fun x hx e => by have := (hlt1 x hx).1; have := LT.out; omega)
          clear hr k1 k2 hh hlt1 L10 A10 hrw LT
          have BK := B48.out
          go_wp2_with fail
          go_loopw [87] (fun i wr => ∃ k : Nat, k ≤ nb ∧ i = .int .i64 (k : Int) ∧ Lw w2.heap.size w2 wr R q cap P O5 (s5.tick (u + 1)) hb H5 ∧ At wr g (tabA nb (fun q => if q < k then parB ((List.range m).map (fun k => (s5.d k).read (s5.at_ (j : Int)))) q ^^^ Sl.at_ ⟨Ab, nb, cb, rw_⟩ q else parB ((List.range m).map (fun k => (s5.d k).read (s5.at_ (j : Int)))) q)) 5 ∧ Has wr Ab nb rw_) (fun i _ => nb - (RowKit.intOf i).toNat)
          case atStart => exact ⟨0, Nat.zero_le _, rfl, L11.out, by simpa using A11.out, HH.out⟩
          case round =>
            obtain ⟨k, hk, rfl, k1, k2, k3⟩ := hrel
            have L12 := Lib.hid k1
            have A12 := Lib.hid k2
            have H12 := Lib.hid k3
            clear k1 k2 k3 L11 A11 HH
            by_cases hltk : k < nb
            · obtain ⟨b2, off2, rfl⟩ := H12.out.some_ (by omega)
              have hkl : k < rw_.length := by rw [H12.out.1]; omega
              have hc : wr.cell? ⟨b2, off2 + k, none⟩ = some (.int .u8 ((rw_[k]).toNat : Int)) := H12.out.cell k hltk
              obtain ⟨f, hf⟩ : ∃ f : Nat → BitVec 8, parB ((List.range m).map (fun k => (s5.d k).read (s5.at_ (j : Int)))) = f := ⟨_, rfl⟩
              have hc2 : wr.cell? ⟨g, k, none⟩ = some (.int .u8 ((f k).toNat : Int)) := by rw [A12.out.cell k, tabA_get _ _ hltk, ← hf]; simp
              have hfz := A12.out.frozen k
              have NX := Lib.hid (of_step (w := wr.drew) (x := ⟨some ⟨b2, off2, none⟩, nb, cb, rw_⟩) A12.out hkl)
              rw [hf] at NX
              have bo := But.own wr.drew g k (.int .u8 (bits .xor .u8 ((f k).toNat : Int) ((rw_[k]).toNat : Int)))
              have L13 := Lib.hid (L12.out.drew.but bo (fun x e => by subst e; exact GO.out))
              have H13 := Lib.hid (Has.but (w := wr.drew) H12.out bo (fun x hx => HB.out x hx))
              have k2 : (k : Int) < (nb : Int) := by omega
              obtain ⟨y, hy⟩ : ∃ y, rw_[k] = y := ⟨_, rfl⟩
              rw [hy] at hc NX L13 H13
              clear bo hy
              go_wp2_with fail
              have S0 : (fun w' : World => w'.cell? ⟨g, k, none⟩ = some (.int .u8 ((f k).toNat : Int)) ∧ w'.cell? ⟨b2, off2 + k, none⟩ = some (.int .u8 (y.toNat : Int))) wr.drew := ⟨hc2, hc⟩
              refine wp_region_early (fun w' : World => w'.cell? ⟨g, k, none⟩ = some (.int .u8 ((f k).toNat : Int)) ∧ w'.cell? ⟨b2, off2 + k, none⟩ = some (.int .u8 (y.toNat : Int))) (fun i => i != 10) (by kernel_rfl) ?_
              change wpEarly _ _ _ _ _ _ 11 (Array.replicate 11 false) _ wr.drew
              refine early_take (i := 0) 90 (.slice (some ⟨g, 0, none⟩) nb nb) rfl rfl (by kernel_rfl) (by kernel_rfl) (by kernel_rfl) (by kernel_rfl) rfl (fun _ _ _ h => h) (fun w' hw' => by go_simp) S0 ?_
              simp only [Act.put, List.setIfInBounds_toArray, List.set_cons_zero, List.set_cons_succ]
              refine early_take (i := 1) 91 (.int .i64 (k : Int)) rfl rfl (by kernel_rfl) (by kernel_rfl) (by kernel_rfl) (by kernel_rfl) rfl (fun _ _ _ h => h) (fun w' hw' => by go_simp) S0 ?_
              simp only [Act.put, List.setIfInBounds_toArray, List.set_cons_zero, List.set_cons_succ]
              refine early_take (i := 2) 92 (.pointer (some ⟨g, k, none⟩)) rfl rfl (by kernel_rfl) (by kernel_rfl) (by kernel_rfl) (by kernel_rfl) rfl (fun _ _ _ h => h) (fun w' hw' => by go_simp) S0 ?_
              simp only [Act.put, List.setIfInBounds_toArray, List.set_cons_zero, List.set_cons_succ]
              refine early_take (i := 3) 93 (.int .u8 ((f k).toNat : Int)) rfl rfl (by kernel_rfl) (by kernel_rfl) (by kernel_rfl) (by kernel_rfl) rfl (fun _ _ _ h => h) (fun w' hw' => by obtain ⟨k3, k4⟩ := hw'; go_simp) S0 ?_
              simp only [Act.put, List.setIfInBounds_toArray, List.set_cons_zero, List.set_cons_succ]
              refine early_take (i := 4) 94 (.slice (some ⟨b2, off2, none⟩) nb cb) rfl rfl (by kernel_rfl) (by kernel_rfl) (by kernel_rfl) (by kernel_rfl) rfl (fun _ _ _ h => h) (fun w' hw' => by go_simp) S0 ?_
              simp only [Act.put, List.setIfInBounds_toArray, List.set_cons_zero, List.set_cons_succ]
              refine early_take (i := 5) 95 (.int .i64 (k : Int)) rfl rfl (by kernel_rfl) (by kernel_rfl) (by kernel_rfl) (by kernel_rfl) rfl (fun _ _ _ h => h) (fun w' hw' => by go_simp) S0 ?_
              simp only [Act.put, List.setIfInBounds_toArray, List.set_cons_zero, List.set_cons_succ]
              refine early_take (i := 6) 96 (.pointer (some ⟨b2, off2 + k, none⟩)) rfl rfl (by kernel_rfl) (by kernel_rfl) (by kernel_rfl) (by kernel_rfl) rfl (fun _ _ _ h => h) (fun w' hw' => by go_simp) S0 ?_
              simp only [Act.put, List.setIfInBounds_toArray, List.set_cons_zero, List.set_cons_succ]
              refine early_take (i := 7) 97 (.int .u8 (y.toNat : Int)) rfl rfl (by kernel_rfl) (by kernel_rfl) (by kernel_rfl) (by kernel_rfl) rfl (fun _ _ _ h => h) (fun w' hw' => by obtain ⟨k3, k4⟩ := hw'; go_simp) S0 ?_
              simp only [Act.put, List.setIfInBounds_toArray, List.set_cons_zero, List.set_cons_succ]
              refine early_take (i := 8) 98 (.int .u8 (bits .xor .u8 ((f k).toNat : Int) (y.toNat : Int))) rfl rfl (by kernel_rfl) (by kernel_rfl) (by kernel_rfl) (by kernel_rfl) rfl (fun _ _ _ h => h) (fun w' hw' => by go_simp) S0 ?_
              simp only [Act.put, List.setIfInBounds_toArray, List.set_cons_zero, List.set_cons_succ]
              refine early_take (i := 9) 99 (.pointer (some ⟨g, k, none⟩)) rfl rfl (by kernel_rfl) (by kernel_rfl) (by kernel_rfl) (by kernel_rfl) rfl (fun _ _ _ h => h) (fun w' hw' => by go_simp) S0 ?_
              simp only [Act.put, List.setIfInBounds_toArray, List.set_cons_zero, List.set_cons_succ]
              refine early_only (i := 10) (by kernel_rfl) rfl (fun K hK => ?_)
              simp only [opWp, List.getElem?_toArray, List.getElem?_cons_succ, List.getElem?_cons_zero]
              go_simp
              refine hK _ _ (fun h => by simp at h) ?_
              refine early_done (by kernel_rfl) ?_
              clear S0 hc hc2
              go_wp2
              go_roundw
              case rel => exact ⟨k + 1, by omega, by go_num, L13.out, by rw [hf]; exact NX.out, H13.out⟩
              case measure => simp [RowKit.intOf]; omega
            · obtain rfl : k = nb := by omega
              have NX := Lib.hid (show At wr g (tabA k (parB ((List.range (m + 1)).map (fun k => (s5.d k).read (s5.at_ (j : Int)))))) 5 by
                have := A12.out
                rw [of_last (x := ⟨Ab, k, cb, rw_⟩) H12.out.1 (g := parB ((List.range (m + 1)).map (fun k => (s5.d k).read (s5.at_ (j : Int))))) (fun x => by rw [PN.out x]; rfl)] at this
                exact this)
              go_wp2
              go_roundw
              case rel => exact ⟨m + 1, by omega, by go_num, u + 1, L12.out, by have := U9.out; omega, NX.out⟩
              case measure => simp [RowKit.intOf]; omega
        · obtain rfl : m = s5.M := by omega
          have A13 := Lib.hid (show At wr g (tabA nb (fun _ => 0#8)) 5 by
            have := A9.out
            unfold tabA at this ⊢
            rw [tab_congr (g := fun _ => 0#8) (fun x hx => RW5.out.2 x (by rw [← EB.out]; exact hx))] at this
            exact this)
          have r1 : wr.cell? ⟨R, 1, none⟩ = some (.int .i64 (nb : Int)) := by rw [← NN.out]; exact L9.out.sys.shape.2.1
          clear hltm hm
          go_wp2_with (at_make; refine wpList_make_full _ rfl (.tmp 107) (.tmp 107) 46 rfl wr.heap.size 5 i0 (.int .u8 0) 1 Try.underlying46 hi hz0 hz1 .i64 .i64 nb nb nb rfl rfl rfl rfl (by rw [hz2]; have := B48.out; omega) (by have := B48.out; unfold maxLen; omega) (Nat.le_refl _) ?_; intro wn hown1 hg1; have RW2 := Lib.hid (made_tab hown1); have BN := Lib.hid (show Below wr.heap.size wr wn from (Below.refl _ _).grown hg1 (Nat.le_refl _) (by simp)); clear hown1 hg1)
          have L14 := Lib.hid (L9.out.up BN.out)
          have A14 := Lib.hid (A13.out.below BN.out A13.out.lt)
          clear r1 BN A13 L9
          refine (equal_any (some ⟨g, 0, none⟩) (some ⟨wr.heap.size, 0, none⟩) nb nb nb nb _ _ wn (by have := B48.out; omega) (by have := B48.out; omega) (Has.of_at A14.out) (Has.of_at RW2.out)).mono ?_
          rintro e w15 ⟨rfl, m15, rfl⟩
          rw [decide_eq_true (show tab nb (fun _ => 0#8) = tab nb (fun _ => 0#8) from rfl)]
          have L15 := Lib.hid (L14.out.drewN m15)
          clear L14 A14 RW2
          generalize wn.drewN m15 = w15 at *
          go_wp2_with fail
          have S0 : (fun w' : World => w'.rangeAt R 0 s5.sh ∧ Mp w' hb H5.vals) w15.drew := ⟨L15.out.sys.range, L15.out.drew.map⟩
          refine wp_region_early (fun w' : World => w'.rangeAt R 0 s5.sh ∧ Mp w' hb H5.vals) (fun _ => true) (by kernel_rfl) ?_
          change wpEarly _ _ _ _ _ _ 10 (Array.replicate 10 false) _ w15.drew
          have i64 : In64 (j : Int) := by unfold In64; omega
          obtain ⟨fb, hfb⟩ : ∃ fb : BitVec 8, (H5.vals (j : Int)).getD (.int .u8 0) = .int .u8 (fb.toNat : Int) ∧ ∀ f, H5 (j : Int) = some f → fb = f := by
            cases hf : H5 (j : Int) with
            | none => exact ⟨0#8, by unfold Hv.vals; rw [hf]; rfl, fun f h => by cases h⟩
            | some f => exact ⟨f, by unfold Hv.vals; rw [hf]; rfl, fun f' h => by injection h⟩
          have FB := Lib.hid hfb
          clear hfb
          refine early_take (i := 0) 111 (ptr R) rfl rfl (by kernel_rfl) (by kernel_rfl) (by kernel_rfl) (by kernel_rfl) rfl (fun _ _ _ h => h) (fun w' hw' => by go_simp) S0 ?_
          simp only [Act.put, List.setIfInBounds_toArray, List.set_cons_zero, List.set_cons_succ]
          refine early_take (i := 1) 112 (ptr R) rfl rfl (by kernel_rfl) (by kernel_rfl) (by kernel_rfl) (by kernel_rfl) rfl (fun _ _ _ h => h) (fun w' hw' => by go_simp) S0 ?_
          simp only [Act.put, List.setIfInBounds_toArray, List.set_cons_zero, List.set_cons_succ]
          refine early_take (i := 2) 113 (ptr R) rfl rfl (by kernel_rfl) (by kernel_rfl) (by kernel_rfl) (by kernel_rfl) rfl (fun _ _ _ h => h) (fun w' hw' => by go_simp) S0 ?_
          simp only [Act.put, List.setIfInBounds_toArray, List.set_cons_zero, List.set_cons_succ]
          refine early_take (i := 3) 114 (sv (s5.M : Int) s5.b s5.g s5.s s5.n s5.l) rfl rfl (by kernel_rfl) (by kernel_rfl) (by kernel_rfl) (by kernel_rfl) rfl (fun _ _ _ h => h) (fun w' hw' => exec_shape (s := s5) (x := .tmp 113) rfl rfl hw'.1) S0 ?_
          simp only [Act.put, List.setIfInBounds_toArray, List.set_cons_zero, List.set_cons_succ]
          refine early_take (i := 4) 115 (.map (some hb)) rfl rfl (by kernel_rfl) (by kernel_rfl) (by kernel_rfl) (by kernel_rfl) rfl (fun _ _ _ h => h) (fun w' hw' => by go_simp) S0 ?_
          simp only [Act.put, List.setIfInBounds_toArray, List.set_cons_zero, List.set_cons_succ]
          refine early_take (i := 5) 116 (.int .i64 (j : Int)) rfl rfl (by kernel_rfl) (by kernel_rfl) (by kernel_rfl) (by kernel_rfl) rfl (fun _ _ _ h => h) (fun w' hw' => by go_simp) S0 ?_
          simp only [Act.put, List.setIfInBounds_toArray, List.set_cons_zero, List.set_cons_succ]
          refine early_take (i := 6) 117 (.int .u8 (fb.toNat : Int)) rfl rfl (by kernel_rfl) (by kernel_rfl) (by kernel_rfl) (by kernel_rfl) rfl (fun _ _ _ h => h) (fun w' hw' => by have hl := hw'.2.look Try.underlying38 (zero5 w') i64 FB.out.1; go_simp) S0 ?_
          simp only [Act.put, List.setIfInBounds_toArray, List.set_cons_zero, List.set_cons_succ]
          refine early_take (i := 9) 120 (.int .i64 0) rfl rfl (by kernel_rfl) (by kernel_rfl) (by kernel_rfl) (by kernel_rfl) rfl (fun _ _ _ h => h) (fun w' hw' => by go_simp) S0 ?_
          simp only [Act.put, List.setIfInBounds_toArray, List.set_cons_zero, List.set_cons_succ]
          refine early_only (i := 7) (by kernel_rfl) rfl (fun K hK => ?_)
          simp only [opWp, List.getElem?_toArray, List.getElem?_cons_succ, List.getElem?_cons_zero]
          go_simp
          go_at_call 35
          refine (Chunks_any s5.M s5.b s5.g s5.s s5.n s5.l nb NN.out (by have := B48.out; omega) (by omega) fb _ rfl w15.drew).mono ?_
          rintro e w16 ⟨v, L, rfl, hcl, hll, hlm, hln, hbl⟩
          have L16 := Lib.hid (L15.out.drew.up hbl)
          have LL := Lib.hid hll
          have LM := Lib.hid hlm
          have S1 : (fun w' : World => w'.rangeAt R 0 s5.sh ∧ Mp w' hb H5.vals) w16 := ⟨L16.out.sys.range, L16.out.map⟩
          obtain ⟨WB, hWB⟩ : ∃ WB, WB = w15.drew.heap.size := ⟨_, rfl⟩
          rw [← hWB] at hcl
          have CL := Lib.hid hcl
          have NO := Lib.hid (show ∀ k, WB ≤ k → ¬ O5 k from fun k hk => (L15.out.drew.sys.new k (by omega)).1)
          obtain ⟨A5, c5', rfl, _⟩ := hcl.ln (by omega)
          have l4 : L.length ≤ 4 := by omega
          clear hcl hll hlm hln hbl hWB
          refine hK _ _ (fun _ => S1) ?_
          refine early_take (i := 8) 119 (.int .i64 (L.length : Int)) rfl rfl (by kernel_rfl) (by kernel_rfl) (by kernel_rfl) (by kernel_rfl) rfl (fun _ _ _ h => h) (fun w' hw' => by go_simp) S1 ?_
          simp only [Act.put, List.setIfInBounds_toArray, List.set_cons_zero, List.set_cons_succ]
          refine early_done (by kernel_rfl) ?_
          clear S0 S1 L15 i64
          go_wp2_with fail
          go_loopw [120] (fun i wr => ∃ k : Nat, k ≤ L.length ∧ i = .int .i64 (k : Int) ∧ ∃ u : Int, Lw w2.heap.size w2 wr R q cap P O5 (s5.tick u) hb H5 ∧ u ≤ 305 + 10 * (j : Int) + (k : Int) ∧ Cl wr WB (.slice A5 L.length c5') L) (fun i _ => L.length - (RowKit.intOf i).toNat)
          case atStart => exact ⟨0, Nat.zero_le _, rfl, u, L16.out, by have := U9.out; omega, CL.out⟩
          case round =>
            obtain ⟨k, hk, rfl, u', k1, k2, k3⟩ := hrel
            have L17 := Lib.hid k1
            have U17 := Lib.hid k2
            have C17 := Lib.hid k3
            clear k1 k2 k3 L16 CL
            by_cases hltk : k < L.length
            · obtain ⟨A6, c6, e6, hln6⟩ := C17.out.ln (by omega)
              injection e6 with e7 _ e8
              subst e7 e8
              obtain ⟨hjl, b, off, rfl, hc, hh, hx⟩ := hln6.one hltk
              have HH := Lib.hid hh
              have LK := Lib.hid (show (L[k]).l = chunkB nb fb k by
                have h1 : (L.map Sl.l)[k]? = ((List.range (s5.M - 1)).map (chunkB nb fb))[k]? := by rw [LM.out]
                rw [List.getElem?_map, List.getElem?_map, List.getElem?_eq_getElem hjl, List.getElem?_range (by have := LL.out; omega)] at h1
                simpa using h1)
              have NK := Lib.hid (show (L[k]).n ≤ 48 from C17.out.len _ (List.getElem_mem hjl))
              have KS := Lib.hid (show k < s5.M - 1 by have := LL.out; omega)
              have no6 : ∀ a, (L[k]).A = some a → ¬ O5 a.block := fun a ha => NO.out _ (C17.out.off _ (List.getElem_mem hjl) a ha).2.1
              have NO6 := Lib.hid no6
              clear hln6 hh no6
              generalize L[k] = y at *
              obtain ⟨yA, yn, yc, yl⟩ := y
              simp only at hc hx
              obtain ⟨m, hm⟩ : ∃ m : Nat, ((j : Int) + 1 + (k : Int)) % (s5.M : Int) = (m : Int) := ⟨(((j : Int) + 1 + (k : Int)) % (s5.M : Int)).toNat, by have := Int.emod_nonneg ((j : Int) + 1 + (k : Int)) (show (s5.M : Int) ≠ 0 by omega); omega⟩
              have HM := Lib.hid hm
              have ML := Lib.hid (show m < s5.M by have := Int.emod_lt_of_pos ((j : Int) + 1 + (k : Int)) (show 0 < (s5.M : Int) by omega); omega)
              clear hm
              go_wp2_with fail
              have S0 : (fun w' : World => w'.cell? ⟨R, 7, none⟩ = some (.slice (some ⟨q, 0, none⟩) s5.M cap) ∧ w'.rangeAt R 0 s5.sh ∧ ∀ i, i < s5.M → w'.cell? ⟨q, i, none⟩ = some (ptr (P.g i))) wr.drew := ⟨L17.out.cells.2.2.1, L17.out.sys.range, L17.out.sys.rg.row.2⟩
              refine wp_region_early (fun w' : World => w'.cell? ⟨R, 7, none⟩ = some (.slice (some ⟨q, 0, none⟩) s5.M cap) ∧ w'.rangeAt R 0 s5.sh ∧ ∀ i, i < s5.M → w'.cell? ⟨q, i, none⟩ = some (ptr (P.g i))) (fun _ => true) (by kernel_rfl) ?_
              change wpEarly _ _ _ _ _ _ 25 (Array.replicate 25 false) _ wr.drew
              refine early_take (i := 0) 126 (ptr R) rfl rfl (by kernel_rfl) (by kernel_rfl) (by kernel_rfl) (by kernel_rfl) rfl (fun _ _ _ h => h) (fun w' hw' => by go_simp) S0 ?_
              simp only [Act.put, List.setIfInBounds_toArray, List.set_cons_zero, List.set_cons_succ]
              refine early_take (i := 1) 127 (ptr R) rfl rfl (by kernel_rfl) (by kernel_rfl) (by kernel_rfl) (by kernel_rfl) rfl (fun _ _ _ h => h) (fun w' hw' => by go_simp) S0 ?_
              simp only [Act.put, List.setIfInBounds_toArray, List.set_cons_zero, List.set_cons_succ]
              refine early_take (i := 2) 128 (.pointer (some ⟨R, 7, none⟩)) rfl rfl (by kernel_rfl) (by kernel_rfl) (by kernel_rfl) (by kernel_rfl) rfl (fun _ _ _ h => h) (fun w' hw' => by go_simp) S0 ?_
              simp only [Act.put, List.setIfInBounds_toArray, List.set_cons_zero, List.set_cons_succ]
              refine early_take (i := 3) 129 (.slice (some ⟨q, 0, none⟩) s5.M cap) rfl rfl (by kernel_rfl) (by kernel_rfl) (by kernel_rfl) (by kernel_rfl) rfl (fun _ _ _ h => h) (fun w' hw' => by obtain ⟨k3, k4, k5⟩ := hw'; go_simp) S0 ?_
              simp only [Act.put, List.setIfInBounds_toArray, List.set_cons_zero, List.set_cons_succ]
              refine early_take (i := 4) 130 (ptr R) rfl rfl (by kernel_rfl) (by kernel_rfl) (by kernel_rfl) (by kernel_rfl) rfl (fun _ _ _ h => h) (fun w' hw' => by go_simp) S0 ?_
              simp only [Act.put, List.setIfInBounds_toArray, List.set_cons_zero, List.set_cons_succ]
              refine early_take (i := 5) 131 (ptr R) rfl rfl (by kernel_rfl) (by kernel_rfl) (by kernel_rfl) (by kernel_rfl) rfl (fun _ _ _ h => h) (fun w' hw' => by go_simp) S0 ?_
              simp only [Act.put, List.setIfInBounds_toArray, List.set_cons_zero, List.set_cons_succ]
              refine early_take (i := 6) 132 (ptr R) rfl rfl (by kernel_rfl) (by kernel_rfl) (by kernel_rfl) (by kernel_rfl) rfl (fun _ _ _ h => h) (fun w' hw' => by go_simp) S0 ?_
              simp only [Act.put, List.setIfInBounds_toArray, List.set_cons_zero, List.set_cons_succ]
              refine early_take (i := 7) 133 (sv (s5.M : Int) s5.b s5.g s5.s s5.n s5.l) rfl rfl (by kernel_rfl) (by kernel_rfl) (by kernel_rfl) (by kernel_rfl) rfl (fun _ _ _ h => h) (fun w' hw' => exec_shape (s := s5) (x := .tmp 132) rfl rfl hw'.2.1) S0 ?_
              simp only [Act.put, List.setIfInBounds_toArray, List.set_cons_zero, List.set_cons_succ]
              refine early_take (i := 8) 134 (.int .i64 (j : Int)) rfl rfl (by kernel_rfl) (by kernel_rfl) (by kernel_rfl) (by kernel_rfl) rfl (fun _ _ _ h => h) (fun w' hw' => by go_simp) S0 ?_
              simp only [Act.put, List.setIfInBounds_toArray, List.set_cons_zero, List.set_cons_succ]
              refine early_take (i := 9) 135 (.int .i64 (k : Int)) rfl rfl (by kernel_rfl) (by kernel_rfl) (by kernel_rfl) (by kernel_rfl) rfl (fun _ _ _ h => h) (fun w' hw' => by go_simp) S0 ?_
              simp only [Act.put, List.setIfInBounds_toArray, List.set_cons_zero, List.set_cons_succ]
              refine early_take (i := 13) 139 (ptr R) rfl rfl (by kernel_rfl) (by kernel_rfl) (by kernel_rfl) (by kernel_rfl) rfl (fun _ _ _ h => h) (fun w' hw' => by go_simp) S0 ?_
              simp only [Act.put, List.setIfInBounds_toArray, List.set_cons_zero, List.set_cons_succ]
              refine early_take (i := 14) 140 (ptr R) rfl rfl (by kernel_rfl) (by kernel_rfl) (by kernel_rfl) (by kernel_rfl) rfl (fun _ _ _ h => h) (fun w' hw' => by go_simp) S0 ?_
              simp only [Act.put, List.setIfInBounds_toArray, List.set_cons_zero, List.set_cons_succ]
              refine early_take (i := 15) 141 (ptr R) rfl rfl (by kernel_rfl) (by kernel_rfl) (by kernel_rfl) (by kernel_rfl) rfl (fun _ _ _ h => h) (fun w' hw' => by go_simp) S0 ?_
              simp only [Act.put, List.setIfInBounds_toArray, List.set_cons_zero, List.set_cons_succ]
              refine early_take (i := 16) 142 (sv (s5.M : Int) s5.b s5.g s5.s s5.n s5.l) rfl rfl (by kernel_rfl) (by kernel_rfl) (by kernel_rfl) (by kernel_rfl) rfl (fun _ _ _ h => h) (fun w' hw' => exec_shape (s := s5) (x := .tmp 141) rfl rfl hw'.2.1) S0 ?_
              simp only [Act.put, List.setIfInBounds_toArray, List.set_cons_zero, List.set_cons_succ]
              refine early_take (i := 17) 143 (.int .i64 (j : Int)) rfl rfl (by kernel_rfl) (by kernel_rfl) (by kernel_rfl) (by kernel_rfl) rfl (fun _ _ _ h => h) (fun w' hw' => by go_simp) S0 ?_
              simp only [Act.put, List.setIfInBounds_toArray, List.set_cons_zero, List.set_cons_succ]
              refine early_only (i := 10) (by kernel_rfl) rfl (fun K hK => ?_)
              simp only [opWp, List.getElem?_toArray, List.getElem?_cons_succ, List.getElem?_cons_zero]
              go_simp
              go_at_call 36
              refine (member_call WF.out (j : Int) (by omega) (k : Int) (by omega) _).mono ?_
              rintro e w18 ⟨rfl, hbl⟩
              have L18 := Lib.hid (L17.out.drew.up hbl)
              have C18 := Lib.hid (C17.out.keep (S := fun _ => False) (w1 := w18) (But.of_drewN 1 (But.of_below hbl)) (fun _ _ h => h))
              have H18 := Lib.hid (Has.below (w := wr.drew) HH.out hbl)
              have S1 : (fun w' : World => w'.cell? ⟨R, 7, none⟩ = some (.slice (some ⟨q, 0, none⟩) s5.M cap) ∧ w'.rangeAt R 0 s5.sh ∧ ∀ i, i < s5.M → w'.cell? ⟨q, i, none⟩ = some (ptr (P.g i))) w18 := ⟨L18.out.cells.2.2.1, L18.out.sys.range, L18.out.sys.rg.row.2⟩
              clear hbl
              refine hK _ _ (fun _ => S1) ?_
              rw [HM.out]
              refine early_take (i := 11) 137 (.pointer (some ⟨q, m, none⟩)) rfl rfl (by kernel_rfl) (by kernel_rfl) (by kernel_rfl) (by kernel_rfl) rfl (fun _ _ _ h => h) (fun w' hw' => by have m1 := ML.out; have m2 : (m : Int) < (s5.M : Int) := (by omega); go_simp) S1 ?_
              simp only [Act.put, List.setIfInBounds_toArray, List.set_cons_zero, List.set_cons_succ]
              refine early_take (i := 12) 138 (ptr (P.g m)) rfl rfl (by kernel_rfl) (by kernel_rfl) (by kernel_rfl) (by kernel_rfl) rfl (fun _ _ _ h => h) (fun w' hw' => by obtain ⟨k3, k4, k5⟩ := hw'; have k6 := k5 m ML.out; go_simp) S1 ?_
              simp only [Act.put, List.setIfInBounds_toArray, List.set_cons_zero, List.set_cons_succ]
              refine early_only (i := 18) (by kernel_rfl) rfl (fun K hK => ?_)
              simp only [opWp, List.getElem?_toArray, List.getElem?_cons_succ, List.getElem?_cons_zero]
              go_simp
              go_at_call 34
              refine (at_call WF.out (j : Int) (by omega) _).mono ?_
              rintro e w19 ⟨rfl, hbl⟩
              have L19 := Lib.hid (L18.out.up hbl)
              have C19 := Lib.hid (C18.out.keep (S := fun _ => False) (w1 := w19) (But.of_below hbl) (fun _ _ h => h))
              have H19 := Lib.hid (H18.out.below hbl)
              have S2 : (fun w' : World => w'.cell? ⟨R, 7, none⟩ = some (.slice (some ⟨q, 0, none⟩) s5.M cap) ∧ w'.rangeAt R 0 s5.sh ∧ ∀ i, i < s5.M → w'.cell? ⟨q, i, none⟩ = some (ptr (P.g i))) w19 := ⟨L19.out.cells.2.2.1, L19.out.sys.range, L19.out.sys.rg.row.2⟩
              clear hbl
              refine hK _ _ (fun _ => S2) ?_
              refine early_only (i := 19) (by kernel_rfl) rfl (fun K hK => ?_)
              simp only [opWp, List.getElem?_toArray, List.getElem?_cons_succ, List.getElem?_cons_zero]
              go_simp
              go_at_call 31
              refine (read_sys m Q5.out.1 ML.out (s5.at_ (j : Int)) u' AI.out L19.out (by have := U17.out; have := KS.out; omega)).mono ?_
              rintro e w20 ⟨v, rfl, hr, k1, k2⟩
              have L20 := Lib.hid k1
              have C20 := Lib.hid (C19.out.keep k2 NO.out)
              have H20 := Lib.hid (H19.out.but k2 NO6.out)
              have S3 : (fun w' : World => w'.cell? ⟨R, 7, none⟩ = some (.slice (some ⟨q, 0, none⟩) s5.M cap) ∧ w'.rangeAt R 0 s5.sh ∧ ∀ i, i < s5.M → w'.cell? ⟨q, i, none⟩ = some (ptr (P.g i))) w20 := ⟨L20.out.cells.2.2.1, L20.out.sys.range, L20.out.sys.rg.row.2⟩
              have HL := Lib.hid (show ((s5.d m).read (s5.at_ (j : Int))).length = nb by rw [EB.out]; exact RW5.out.1 m ML.out)
              obtain ⟨A7, c7, rfl, h7, _, _⟩ := own_form hr
              rw [HL.out] at h7 ⊢
              have H7 := Lib.hid h7
              clear hr k1 k2 h7
              refine hK _ _ (fun _ => S3) ?_
              refine early_take (i := 20) 125 (.tuple #[.slice A7 nb c7, .int .i64 0]) rfl rfl (by kernel_rfl) (by kernel_rfl) (by kernel_rfl) (by kernel_rfl) rfl (fun _ _ _ h => h) (fun w' hw' => by go_simp) S3 ?_
              simp only [Act.put, List.setIfInBounds_toArray, List.set_cons_zero, List.set_cons_succ]
              refine early_take (i := 21) 146 (.slice A7 nb c7) rfl rfl (by kernel_rfl) (by kernel_rfl) (by kernel_rfl) (by kernel_rfl) rfl (fun _ _ _ h => h) (fun w' hw' => by go_simp) S3 ?_
              simp only [Act.put, List.setIfInBounds_toArray, List.set_cons_zero, List.set_cons_succ]
              refine early_take (i := 22) 147 (.int .i64 0) rfl rfl (by kernel_rfl) (by kernel_rfl) (by kernel_rfl) (by kernel_rfl) rfl (fun _ _ _ h => h) (fun w' hw' => by go_simp) S3 ?_
              simp only [Act.put, List.setIfInBounds_toArray, List.set_cons_zero, List.set_cons_succ]
              refine early_take (i := 23) 17 (.slice A7 nb c7) rfl rfl (by kernel_rfl) (by kernel_rfl) (by kernel_rfl) (by kernel_rfl) rfl (fun _ _ _ h => h) (fun w' hw' => by go_simp) S3 ?_
              simp only [Act.put, List.setIfInBounds_toArray, List.set_cons_zero, List.set_cons_succ]
              refine early_take (i := 24) 18 (.int .i64 0) rfl rfl (by kernel_rfl) (by kernel_rfl) (by kernel_rfl) (by kernel_rfl) rfl (fun _ _ _ h => h) (fun w' hw' => by go_simp) S3 ?_
              simp only [Act.put, List.setIfInBounds_toArray, List.set_cons_zero, List.set_cons_succ]
              refine early_done (by kernel_rfl) ?_
              clear S0 S1 S2 S3 L17 L18 L19 C17 C18 C19 HH H18 H19 hc
              have i64 : In64 (j : Int) := by unfold In64; omega
              cases hf : H5 (j : Int) with
              | none =>
                have hl := L20.out.map.look_ok Try.underlying38 (zero5 w20) i64 (u := .int .u8 0) (by unfold Hv.vals; rw [hf]; rfl) (ok := false) (by unfold Hv.vals; rw [hf]; rfl)
                clear i64 hf
                go_wp2
                go_roundw
                case rel => exact ⟨k + 1, by omega, by go_num, u' + 1, L20.out, by have := U17.out; omega, C20.out⟩
                case measure => simp [RowKit.intOf]; omega
              | some f =>
                have hl := L20.out.map.look_ok Try.underlying38 (zero5 w20) i64 (u := .int .u8 (f.toNat : Int)) (by unfold Hv.vals; rw [hf]; rfl) (ok := true) (by unfold Hv.vals; rw [hf]; rfl)
                have hff := FB.out.2 f hf
                have EQ := Lib.hid (show (s5.d m).read (s5.at_ (j : Int)) = yl by
                  have h1 := Q5.out.2.1 m ML.out (by rw [Q5.out.1.stale]; omega) (j : Int) f TN.out.1 TN.out.2 hf
                  have h2 : yl = chunkB nb fb k := LK.out
                  rw [h1, h2, hff, part_chunk TN.out.1 f KS.out HM.out.symm, EB.out])
                clear i64 hf hff
                go_wp2_with fail
                refine (equal_any A7 yA nb yn c7 yc _ _ w20 (by have := B48.out; omega) (by have := NK.out; omega) H7.out H20.out).mono ?_
                rintro e w21 ⟨rfl, m21, rfl⟩
                rw [decide_eq_true EQ.out]
                have L21 := Lib.hid (L20.out.drewN m21)
                have C21 := Lib.hid (C20.out.keep (S := fun _ => False) ((But.refl _ _).drewN m21) (fun _ _ h => h))
                clear hl
                go_wp2
                go_roundw
                case rel => exact ⟨k + 1, by omega, by go_num, u' + 1, L21.out, by have := U17.out; omega, C21.out⟩
                case measure => simp [RowKit.intOf]; omega
            · have ek : k = L.length := by omega
              subst ek
              have l5 : L.length ≤ 4 := l4
              go_wp2
              go_roundw
              case rel => exact ⟨j + 1, by omega, by go_num, u', L17.out, by have := U17.out; omega⟩
              case measure => simp [RowKit.intOf]; omega
    · obtain rfl : j = N := by omega
      have B9 := Lib.hid (B2.out.trans (L7.out.sys.below.mono B2.out.size))
      go_wp2
      go_ret
      exact ⟨rfl, B9.out⟩
end Go.Proofs.Ytapbphkhbhcdkaa
