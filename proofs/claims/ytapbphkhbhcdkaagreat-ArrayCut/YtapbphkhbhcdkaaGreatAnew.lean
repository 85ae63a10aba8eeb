/-
  THE WALK OF array.New OVER DISKS.
-/
import Derived.Test.YtapbphkhbhcdkaaGreatChs
namespace Go.Proofs.YtapbphkhbhcdkaaGreat
open Go.RowKit Go.Maps
set_option linter.unusedVariables false
set_option maxRecDepth 100000

theorem dev_info : (Tryz.prog.info? 99).map (fun i => (i.zero, i.size, i.bytes)) = some (some .nilIface, 1, 16) := by kernel_rfl
theorem dev_nil (x : Value) (w : World) : (binOp .eql 99 (.iface 50 x) .nilIface).run Tryz.prog w = .ok (.bool false) w := by rfl
theorem nobody_any (g : Nat) (w : World) : Calls Tryz.prog 51 #[dev g] w fun e w' => e = .returned (.bool false) ∧ w' = w := by
  have h := dev_nil
  go_enter Tryz.func51, Tryz.ntmps51
  go_wp2
  go_ret
  exact ⟨rfl, rfl⟩
/-- A row of disks, as devices. -/
def Dv (w : World) (r M : Nat) (g : Nat → Nat) : Prop := r < w.heap.size ∧ ∀ i, i < M → w.cell? ⟨r, i, none⟩ = some (dev (g i))
theorem Dv.below {w w' : World} {r M : Nat} {g : Nat → Nat} (h : Dv w r M g) (hb : Below w.heap.size w w') : Dv w' r M g :=
  ⟨Nat.lt_of_lt_of_le h.1 hb.size, fun i hi => (hb.cell (p := ⟨r, i, none⟩) h.1).trans (h.2 i hi)⟩
theorem enters73 (g : Nat) (w : World) : (callFunc 51 #[dev g]).run Tryz.prog w = .ok (.enter 51 #[dev g]) w := by kernel_rfl

theorem search_any (r M c : Nat) (g : Nat → Nat) (hM : 3 ≤ M ∧ M ≤ 5) (w : World) (h : Dv w r M g) : Calls Tryz.prog 70 #[.slice (some ⟨r, 0, none⟩) M c, .func (.func 51) #[] #[]] w fun e w' => e = .returned (.int .i64 (-1)) ∧ w' = w := by
  have hcf := enters73
  have H := Lib.hid h
  clear h
  go_enter Tryz.func70, Tryz.ntmps70
  go_wp2_with fail
  go_loopw [8] (fun i wr => ∃ j : Nat, j ≤ M ∧ i = .int .i64 (j : Int) ∧ wr = w) (fun i _ => M - (RowKit.intOf i).toNat)
  case atStart => exact ⟨0, Nat.zero_le _, rfl, rfl⟩
  case round =>
    obtain ⟨j, hj, rfl, rfl⟩ := hrel
    by_cases hlt : j < M
    · have hc := H.out.2 j hlt
      go_wp2_with fail
      refine (nobody_any (g j) wr).mono ?_
      rintro e wr ⟨rfl, rfl⟩
      go_wp2
      go_roundw
      case rel => exact ⟨j + 1, by omega, by go_num, trivial⟩
      case measure => simp [RowKit.intOf]; omega
    · obtain rfl : j = M := by omega
      go_wp2
      go_ret
      exact ⟨rfl, rfl⟩
theorem contains_any (r M c : Nat) (g : Nat → Nat) (hM : 3 ≤ M ∧ M ≤ 5) (w : World) (h : Dv w r M g) : Calls Tryz.prog 50 #[.slice (some ⟨r, 0, none⟩) M c, .func (.func 51) #[] #[]] w fun e w' => e = .returned (.bool false) ∧ w' = w := by
  go_enter Tryz.func50, Tryz.ntmps50
  go_wp2_with fail
  refine (search_any r M c g hM w h).mono ?_
  rintro e w' ⟨rfl, rfl⟩
  go_wp2
  go_ret
  exact ⟨rfl, rfl⟩
theorem dev_one (g : Nat → Nat) (M : Nat) : ∀ u ∈ (List.range M).map (fun i => dev (g i)), u.oneCell' = true := by
  intro u hu
  obtain ⟨x, _, rfl⟩ := List.mem_map.mp hu
  rfl
theorem devs_any (r M c : Nat) (g : Nat → Nat) (hM : 3 ≤ M ∧ M ≤ 5) (w : World) (h : Dv w r M g) : Calls Tryz.prog 52 #[.slice (some ⟨r, 0, none⟩) M c] w fun e w' => ∃ q cap, e = .returned (.slice (some ⟨q, 0, none⟩) M cap) ∧ Dv w' q M g ∧ w.heap.size ≤ q ∧ Below w.heap.size w w' := by
  have hnil := fun (w : World) (a : Option Addr) (n c : Nat) => Lib.run_eql_slice_nil (P := Tryz.prog) w 68 99 a n c 0 0 Tryz.underlying68
  obtain ⟨i0, hi, hz0, hz1, hz2⟩ := info_parts dev_info
  have hcells : ∀ j u, ((List.range M).map (fun i => dev (g i)))[j]? = some u → (w.alloc (.cells #[] 99)).cell? ((⟨r, 0, none⟩ : Addr).add j) = some u := by
    intro j u hu
    have hj : j < M := by have := (List.getElem?_eq_some_iff.1 hu).1; simpa using this
    have e1 : (⟨r, 0, none⟩ : Addr).add j = ⟨r, j, none⟩ := by
      unfold Addr.add
      by_cases h : j = 0 <;> simp [h]
    rw [e1]
    have h2 := (h.below (w' := w.alloc (.cells #[] 99)) ((Below.refl _ _).alloc (Nat.le_refl _) _)).2 j hj
    rw [h2]
    simpa [hj] using hu
  have HC := Lib.hid hcells
  have HD := Lib.hid h
  clear h hcells
  go_enter Tryz.func52, Tryz.ntmps52
  go_wp2_with (at_builtin; refine wpList_append_own _ rfl (.tmp 5) (.tmp 6) 68 rfl w.heap.size 99 i0 .nilIface 1 16 Tryz.underlying68 hi hz0 hz1 hz2 rfl (by decide) (.slice (some ⟨w.heap.size, 0, none⟩) 0 0) 0 [] rfl (World.ownsRow_made w #[] 0 (Nat.le_refl _) (by unfold maxLen; omega) rfl) ⟨r, 0, none⟩ M c ((List.range M).map (fun i => dev (g i))) rfl (by simp) HC.out (dev_one g M) (by unfold maxLen; omega) (by omega) (by simp) ?_; intro v' w1 hown hg hx; have O1 := Lib.hid hown; have B1 := Lib.hid (show Below w.heap.size w w1 from ((Below.refl w.heap.size w).alloc (Nat.le_refl _) _).grown hg (by simp) (fun k hk => by simp [Value.ownBlock] at hk; omega)); clear hown hg hx)
  go_ret
  have hown := O1.out
  rcases hown.2 with ⟨e, hn⟩ | ⟨q, cap, cur, e, hq, hh, hnc, hcm, hcs, htk⟩
  · simp at hn; omega
  · subst e
    refine ⟨q, cap, by simp, ⟨?_, fun i hi => ?_⟩, hq, B1.out⟩
    · exact (hown.lt q rfl).2
    · have := hown.cellAt (g := q) (cap := cap) i (by simp; omega)
      rw [this]
      simp [hi]

set_option maxHeartbeats 1600000 in
theorem new_arr (r c n p M : Nat) (b g s nv l : Int) (gs : Nat → Nat) (hs : Small (M : Int) b g s nv l) (w : World) (h : Dv w r M gs) (hn : Nv w n p ⟨(M : Int), b, g, s, nv, l, 0, 0, -1⟩) :
    Calls Tryz.prog 28 #[.slice (some ⟨r, 0, none⟩) M c, .pointer (some ⟨n, 0, none⟩)] w fun e w' => ∃ a q cap, e = .returned (.tuple #[.pointer (some ⟨a, 0, none⟩), .int .i64 0]) ∧
      At w' a #[.int .i64 (M : Int), .int .i64 b, .int .i64 g, .int .i64 s, .int .i64 nv, .int .i64 l, .slice (some ⟨q, 0, none⟩) M cap, .pointer (some ⟨n, 0, none⟩), .bool false] 78 ∧ Dv w' q M gs ∧ w.heap.size ≤ a ∧ w.heap.size ≤ q ∧ ¬ a = q ∧ Below w.heap.size w w' := by
  have hf := field_shape
  have HD := Lib.hid h
  have HN := Lib.hid hn
  have HS := Lib.hid hs
  have hM := hs.hm
  clear h hn hs
  go_enter Tryz.func28, Tryz.ntmps28
  go_wp2_with fail
  refine (root_any HN.out).mono ?_
  rintro e w1 ⟨rfl, hb⟩
  unfold Rt.cs
  have D1 := Lib.hid (HD.out.below hb)
  have B1 := Lib.hid hb
  clear hb
  go_wp2_with fail
  have at2 : At (w1.alloc (.cells #[.int .i64 (M : Int), .int .i64 b, .int .i64 g, .int .i64 s, .int .i64 nv, .int .i64 l] 33)) w1.heap.size #[.int .i64 (M : Int), .int .i64 b, .int .i64 g, .int .i64 s, .int .i64 nv, .int .i64 l] 33 := At.new _ 33 rfl
  have bel : Below w1.heap.size w1 (w1.alloc (.cells #[.int .i64 (M : Int), .int .i64 b, .int .i64 g, .int .i64 s, .int .i64 nv, .int .i64 l] 33)) := (Below.refl _ _).alloc (Nat.le_refl _) _
  have B2 := Lib.hid (B1.out.trans (bel.mono B1.out.size))
  have D2 := Lib.hid (D1.out.below bel)
  have Z1 := Lib.hid B1.out.size
  generalize w1.alloc (.cells #[.int .i64 (M : Int), .int .i64 b, .int .i64 g, .int .i64 s, .int .i64 nv, .int .i64 l] 33) = V at *
  generalize w1.heap.size = bx at *
  have A2 := Lib.hid at2
  clear at2 bel
  refine (check_ok (M : Int) b g s nv l HS.out.ok V).mono ?_
  rintro e w3 ⟨rfl, hb⟩
  have A3 := Lib.hid (A2.out.below hb A2.out.lt)
  have D3 := Lib.hid (D2.out.below hb)
  have B3 := Lib.hid (B2.out.trans (hb.mono B2.out.size))
  clear hb
  have k0 := A3.out.cell 0
  go_wp2_with fail
  refine (contains_any r M c gs (by omega) w3 D3.out).mono ?_
  rintro e w3 ⟨rfl, rfl⟩
  clear k0
  go_wp2_with fail
  have S0 : (fun w' : World => At w' bx #[.int .i64 (M : Int), .int .i64 b, .int .i64 g, .int .i64 s, .int .i64 nv, .int .i64 l] 33 ∧ Dv w' r M gs) w3.drew := ⟨A3.out, ⟨D3.out.1, D3.out.2⟩⟩
  refine wp_region_early (fun w' : World => At w' bx #[.int .i64 (M : Int), .int .i64 b, .int .i64 g, .int .i64 s, .int .i64 nv, .int .i64 l] 33 ∧ Dv w' r M gs) (fun _ => true) (by kernel_rfl) ?_
  change wpEarly _ _ _ _ _ _ 8 (Array.replicate 8 false) _ w3.drew
  refine early_take (i := 0) 24 (sv (M : Int) b g s nv l) rfl rfl (by kernel_rfl) (by kernel_rfl) (by kernel_rfl) (by kernel_rfl) rfl (fun _ _ _ h => h) (fun w' hw' => exec_load_whole (x := .tmp 6) rfl rfl hw'.1 Tryz.underlying33 shape_size) S0 ?_
  simp only [Act.put, List.setIfInBounds_toArray, List.set_cons_zero, List.set_cons_succ]
  refine early_take (i := 1) 25 (.slice (some ⟨r, 0, none⟩) M c) rfl rfl (by kernel_rfl) (by kernel_rfl) (by kernel_rfl) (by kernel_rfl) rfl (fun _ _ _ h => h) (fun w' hw' => by go_simp) S0 ?_
  simp only [Act.put, List.setIfInBounds_toArray, List.set_cons_zero, List.set_cons_succ]
  refine early_take (i := 3) 27 (.pointer (some ⟨n, 0, none⟩)) rfl rfl (by kernel_rfl) (by kernel_rfl) (by kernel_rfl) (by kernel_rfl) rfl (fun _ _ _ h => h) (fun w' hw' => by go_simp) S0 ?_
  simp only [Act.put, List.setIfInBounds_toArray, List.set_cons_zero, List.set_cons_succ]
  refine early_only (i := 2) (by kernel_rfl) rfl (fun K hK => ?_)
  simp only [opWp, List.getElem?_toArray, List.getElem?_cons_succ, List.getElem?_cons_zero]
  go_simp
  go_at_call 52
  refine (devs_any r M c gs (by omega) _ S0.2).mono ?_
  rintro e w4 ⟨q, cap, rfl, hq, hlo, hb⟩
  have S1 : (fun w' : World => At w' bx #[.int .i64 (M : Int), .int .i64 b, .int .i64 g, .int .i64 s, .int .i64 nv, .int .i64 l] 33 ∧ Dv w' r M gs) w4 := ⟨S0.1.below hb S0.1.lt, S0.2.below hb⟩
  have D4 := Lib.hid hq
  have B4 := Lib.hid (show Below w.heap.size w w4 from B3.out.trans (show Below w.heap.size w3 w4 from ⟨hb.os, hb.tape, hb.output, hb.size, fun k hk => hb.block k (Nat.lt_of_lt_of_le hk B3.out.size)⟩))
  have Q4 := Lib.hid (Nat.le_trans B3.out.size hlo)
  clear hq hlo hb
  refine hK _ _ (fun _ => S1) ?_
  refine early_take (i := 4) 28 (.agg #[.int .i64 (M : Int), .int .i64 b, .int .i64 g, .int .i64 s, .int .i64 nv, .int .i64 l, .slice (some ⟨q, 0, none⟩) M cap, .pointer (some ⟨n, 0, none⟩), .bool false]) rfl rfl (by kernel_rfl) (by kernel_rfl) (by kernel_rfl) (by kernel_rfl) rfl (fun _ _ _ h => h) (fun w' hw' => by go_simp) S1 ?_
  simp only [Act.put, List.setIfInBounds_toArray, List.set_cons_zero, List.set_cons_succ]
  refine early_only (i := 5) (by kernel_rfl) rfl (fun K hK => ?_)
  simp only [opWp, List.getElem?_toArray, List.getElem?_cons_succ, List.getElem?_cons_zero]
  go_simp
  have bel : Below w4.heap.size w4 (w4.alloc (.cells #[.int .i64 (M : Int), .int .i64 b, .int .i64 g, .int .i64 s, .int .i64 nv, .int .i64 l, .slice (some ⟨q, 0, none⟩) M cap, .pointer (some ⟨n, 0, none⟩), .bool false] 78)) := (Below.refl _ _).alloc (Nat.le_refl _) _
  have S2 : (fun w' : World => At w' bx #[.int .i64 (M : Int), .int .i64 b, .int .i64 g, .int .i64 s, .int .i64 nv, .int .i64 l] 33 ∧ Dv w' r M gs) (w4.alloc (.cells #[.int .i64 (M : Int), .int .i64 b, .int .i64 g, .int .i64 s, .int .i64 nv, .int .i64 l, .slice (some ⟨q, 0, none⟩) M cap, .pointer (some ⟨n, 0, none⟩), .bool false] 78)) := ⟨S1.1.below bel S1.1.lt, S1.2.below bel⟩
  have A5 := Lib.hid (show At (w4.alloc (.cells #[.int .i64 (M : Int), .int .i64 b, .int .i64 g, .int .i64 s, .int .i64 nv, .int .i64 l, .slice (some ⟨q, 0, none⟩) M cap, .pointer (some ⟨n, 0, none⟩), .bool false] 78)) w4.heap.size #[.int .i64 (M : Int), .int .i64 b, .int .i64 g, .int .i64 s, .int .i64 nv, .int .i64 l, .slice (some ⟨q, 0, none⟩) M cap, .pointer (some ⟨n, 0, none⟩), .bool false] 78 from At.new _ 78 rfl)
  have D5 := Lib.hid (D4.out.below bel)
  have B5 := Lib.hid (B4.out.trans (bel.mono B4.out.size))
  have Z4 := Lib.hid B4.out.size
  have Z5 := Lib.hid D4.out.1
  clear bel
  refine hK _ _ (fun _ => S2) ?_
  refine early_take (i := 6) 4 (.pointer (some ⟨w4.heap.size, 0, none⟩)) rfl rfl (by kernel_rfl) (by kernel_rfl) (by kernel_rfl) (by kernel_rfl) rfl (fun _ _ _ h => h) (fun w' hw' => by go_simp) S2 ?_
  simp only [Act.put, List.setIfInBounds_toArray, List.set_cons_zero, List.set_cons_succ]
  refine early_take (i := 7) 5 (.int .i64 0) rfl rfl (by kernel_rfl) (by kernel_rfl) (by kernel_rfl) (by kernel_rfl) rfl (fun _ _ _ h => h) (fun w' hw' => by go_simp) S2 ?_
  simp only [Act.put, List.setIfInBounds_toArray, List.set_cons_zero, List.set_cons_succ]
  refine early_done (by kernel_rfl) ?_
  clear S0 S1 S2
  go_wp2
  go_ret2
  exact ⟨_, rfl, q, ⟨cap, A5.out⟩, D5.out, Z4.out, Q4.out, fun e => by have := Z5.out; omega, B5.out⟩
end Go.Proofs.YtapbphkhbhcdkaaGreat
