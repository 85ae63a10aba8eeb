/-
  THE WALKS OF write AND OF THE CLOSURES OF Flush AND Put, UNDER A LIMIT.
-/
import Derived.Test.YtapbphkhbhcdkaaGreatLim
import Derived.Test.YtapbphkhbhcdkaaGreatPutw
namespace Go.Proofs.YtapbphkhbhcdkaaGreat
open Go.RowKit Go.Maps
set_option linter.unusedVariables false
set_option maxRecDepth 100000

section
variable {w w' : World} {P : Pl} {O : Nat → Prop} {s : AS} {l : Int}

theorem flushOneL (bx m : Nat) (hm : m < s.M) (h : Arl w P O s l) (hbx : Box w bx P O) (hu : s.u ≤ 900000) (hl : l ≤ 1000000) :
    Calls Tryz.prog 59 #[.int .i64 (m : Int), .pointer (some ⟨bx, 0, none⟩)] w fun e w' => (l ≠ 0 ∧ e = .returned (.int .i64 (err ((s.d m).op s.u).dead)) ∧ Dil w P O (s.turn m ((s.d m).fl s.u)) (less l) w') ∨ (l = 0 ∧ e = .panicked out ∧ Dil w P O s l w') := by
  have cb := hbx.1.cell 0
  obtain ⟨c6, c7, c8⟩ := h.cells
  have cr := h.row hm
  have hM := h.many
  have HA := Lib.hid h
  have hmeth := meth_flush
  clear h c7 c8
  go_enter Tryz.func59, Tryz.ntmps59
  go_wp2_with fail
  refine (dflushL m hm HA.out hu hl).mono ?_
  rintro e w' (⟨h0, rfl, k1⟩ | ⟨h0, rfl, rfl⟩)
  · go_wp2
    go_ret
    exact .inl ⟨h0, rfl, k1⟩
  · unfold out
    go_wp2
    exact ⟨rfl, .inr ⟨h0, rfl, O, HA.out, fun _ h => .inl h, But.refl _ _⟩⟩
set_option maxHeartbeats 1600000 in
theorem write_anyL (m : Nat) (hm : m < s.M) (i : Int) (hi : 0 ≤ i ∧ i < (s.S : Int)) (A : Option Addr) (n cap : Nat) (b : Bytes) (hn : (n : Int) = s.b) (hb : Has w A n b) (h : Arl w P O s l) (hu : s.u ≤ 900000) (hl : l ≤ 1000000) :
    Calls Tryz.prog 40 #[.pointer (some ⟨P.a, 0, none⟩), .int .i64 (m : Int), .int .i64 i, .slice A n cap] w fun e w' => (l ≠ 0 ∧ e = .returned (.int .i64 (err ((s.d m).op s.u).dead)) ∧ Dil w P O (s.turn m ((s.d m).put s.u i b)) (less l) w') ∨ (l = 0 ∧ e = .panicked out ∧ Dil w P O s l w') := by
  have HA := Lib.hid h
  have HB := Lib.hid hb
  have HN := Lib.hid hn
  have hM := h.many
  have hb48 := Lib.hid h.wf.small.hb
  have hmeth := meth_write
  clear h hb hn
  go_enter Tryz.func40, Tryz.ntmps40
  go_wp2_with fail
  have S0 : (fun w' : World => w'.cell? ⟨P.a, 6, none⟩ = some (.slice (some ⟨P.r, 0, none⟩) s.M P.c) ∧ w'.cell? ⟨P.r, m, none⟩ = some (dev (P.g m))) w.drew := ⟨HA.out.drew.cells.1, HA.out.drew.row hm⟩
  refine wp_region_early (fun w' : World => w'.cell? ⟨P.a, 6, none⟩ = some (.slice (some ⟨P.r, 0, none⟩) s.M P.c) ∧ w'.cell? ⟨P.r, m, none⟩ = some (dev (P.g m))) (fun _ => true) (by kernel_rfl) ?_
  change wpEarly _ _ _ _ _ _ 14 (Array.replicate 14 false) _ w.drew
  refine early_take (i := 0) 9 (.pointer (some ⟨P.a, 0, none⟩)) rfl rfl (by kernel_rfl) (by kernel_rfl) (by kernel_rfl) (by kernel_rfl) rfl (fun _ _ _ h => h) (fun w' hw' => by go_simp) S0 ?_
  simp only [Act.put, List.setIfInBounds_toArray, List.set_cons_zero, List.set_cons_succ]
  refine early_take (i := 1) 10 (.pointer (some ⟨P.a, 0, none⟩)) rfl rfl (by kernel_rfl) (by kernel_rfl) (by kernel_rfl) (by kernel_rfl) rfl (fun _ _ _ h => h) (fun w' hw' => by go_simp) S0 ?_
  simp only [Act.put, List.setIfInBounds_toArray, List.set_cons_zero, List.set_cons_succ]
  refine early_take (i := 2) 11 (.pointer (some ⟨P.a, 6, none⟩)) rfl rfl (by kernel_rfl) (by kernel_rfl) (by kernel_rfl) (by kernel_rfl) rfl (fun _ _ _ h => h) (fun w' hw' => by go_simp) S0 ?_
  simp only [Act.put, List.setIfInBounds_toArray, List.set_cons_zero, List.set_cons_succ]
  refine early_take (i := 3) 12 (.slice (some ⟨P.r, 0, none⟩) s.M P.c) rfl rfl (by kernel_rfl) (by kernel_rfl) (by kernel_rfl) (by kernel_rfl) rfl (fun _ _ _ h => h) (fun w' hw' => by obtain ⟨h6, hr⟩ := hw'; go_simp) S0 ?_
  simp only [Act.put, List.setIfInBounds_toArray, List.set_cons_zero, List.set_cons_succ]
  refine early_take (i := 4) 13 (.int .i64 (m : Int)) rfl rfl (by kernel_rfl) (by kernel_rfl) (by kernel_rfl) (by kernel_rfl) rfl (fun _ _ _ h => h) (fun w' hw' => by go_simp) S0 ?_
  simp only [Act.put, List.setIfInBounds_toArray, List.set_cons_zero, List.set_cons_succ]
  refine early_take (i := 5) 14 (.pointer (some ⟨P.r, m, none⟩)) rfl rfl (by kernel_rfl) (by kernel_rfl) (by kernel_rfl) (by kernel_rfl) rfl (fun _ _ _ h => h) (fun w' hw' => by go_simp) S0 ?_
  simp only [Act.put, List.setIfInBounds_toArray, List.set_cons_zero, List.set_cons_succ]
  refine early_take (i := 6) 15 (dev (P.g m)) rfl rfl (by kernel_rfl) (by kernel_rfl) (by kernel_rfl) (by kernel_rfl) rfl (fun _ _ _ h => h) (fun w' hw' => by obtain ⟨h6, hr⟩ := hw'; go_simp) S0 ?_
  simp only [Act.put, List.setIfInBounds_toArray, List.set_cons_zero, List.set_cons_succ]
  refine early_take (i := 7) 16 (.int .i64 i) rfl rfl (by kernel_rfl) (by kernel_rfl) (by kernel_rfl) (by kernel_rfl) rfl (fun _ _ _ h => h) (fun w' hw' => by go_simp) S0 ?_
  simp only [Act.put, List.setIfInBounds_toArray, List.set_cons_zero, List.set_cons_succ]
  refine early_take (i := 8) 17 (.slice A n cap) rfl rfl (by kernel_rfl) (by kernel_rfl) (by kernel_rfl) (by kernel_rfl) rfl (fun _ _ _ h => h) (fun w' hw' => by go_simp) S0 ?_
  simp only [Act.put, List.setIfInBounds_toArray, List.set_cons_zero, List.set_cons_succ]
  refine early_take (i := 10) 19 (dev (P.g m)) rfl rfl (by kernel_rfl) (by kernel_rfl) (by kernel_rfl) (by kernel_rfl) rfl (fun _ _ _ h => h) (fun w' hw' => by go_simp) S0 ?_
  simp only [Act.put, List.setIfInBounds_toArray, List.set_cons_zero, List.set_cons_succ]
  refine early_take (i := 11) 20 (dev (P.g m)) rfl rfl (by kernel_rfl) (by kernel_rfl) (by kernel_rfl) (by kernel_rfl) rfl (fun _ _ _ h => h) (fun w' hw' => by go_simp) S0 ?_
  simp only [Act.put, List.setIfInBounds_toArray, List.set_cons_zero, List.set_cons_succ]
  refine early_only (i := 9) (by kernel_rfl) rfl (fun K hK => ?_)
  simp only [opWp, List.getElem?_toArray, List.getElem?_cons_succ, List.getElem?_cons_zero]
  go_simp
  go_at_call 58
  refine (clone_any A n cap b _ (by have := HN.out; have := hb48.out; omega) (HB.out.drewN 1)).mono ?_
  rintro e w2 ⟨v, rfl, hv, hb⟩
  have H2 := Lib.hid (HA.out.drew.up hb)
  have B2 := Lib.hid (But.of_drewN 1 (But.of_below (S := fun _ => False) hb))
  obtain ⟨A2, cap2, rfl, hh, _, hA⟩ := own_form hv
  have HH := Lib.hid hh
  have HQ := Lib.hid hA
  clear hv hb hh hA
  have S2 : (fun w' : World => w'.cell? ⟨P.a, 6, none⟩ = some (.slice (some ⟨P.r, 0, none⟩) s.M P.c) ∧ w'.cell? ⟨P.r, m, none⟩ = some (dev (P.g m))) w2 := ⟨H2.out.cells.1, H2.out.row hm⟩
  refine hK _ _ (fun _ => S2) ?_
  refine early_only (i := 12) (by kernel_rfl) rfl (fun K hK => ?_)
  simp only [opWp, List.getElem?_toArray, List.getElem?_cons_succ, List.getElem?_cons_zero]
  go_simp
  go_at_call 122
  refine (dwriteL m hm i hi A2 n cap2 b HN.out HH.out (fun x hx e => by have h1 := (HQ.out x hx).1; have h2 := HA.out.lt _ e; simp at h1; omega) H2.out hu hl).mono ?_
  rintro e w3 (⟨h0, rfl, hD⟩ | ⟨h0, rfl, rfl⟩)
  · have D3 := Lib.hid hD
    obtain ⟨O3, k1, k2, k3⟩ := hD
    have S3 : (fun w' : World => w'.cell? ⟨P.a, 6, none⟩ = some (.slice (some ⟨P.r, 0, none⟩) s.M P.c) ∧ w'.cell? ⟨P.r, m, none⟩ = some (dev (P.g m))) w3 := ⟨k1.cells.1, k1.row hm⟩
    clear k1 k2 k3
    refine hK _ _ (fun _ => S3) ?_
    refine early_take (i := 13) 8 (.int .i64 (err ((s.d m).op s.u).dead)) rfl rfl (by kernel_rfl) (by kernel_rfl) (by kernel_rfl) (by kernel_rfl) rfl (fun _ _ _ h => h) (fun w' hw' => by go_simp) S3 ?_
    simp only [Act.put, List.setIfInBounds_toArray, List.set_cons_zero, List.set_cons_succ]
    refine early_done (by kernel_rfl) ?_
    go_wp2
    go_ret
    first | exact .inl ⟨h0, rfl, D3.out.trans (O := O) (fun _ h => .inl h) (B2.out.mono (fun _ h _ => h.elim))⟩ | exact ⟨rfl, D3.out.trans (O := O) (fun _ h => .inl h) (B2.out.mono (fun _ h _ => h.elim))⟩
  · unfold out
    go_wp2
    exact ⟨rfl, .inr ⟨h0, rfl, O, H2.out, fun _ h => .inl h, B2.out.mono (fun _ h _ => h.elim)⟩⟩

set_option maxHeartbeats 1600000 in
theorem putOneL (b1 bp bs g m : Nat) (p : Nat → Sl) (hm : m < s.M) (i : Int) (hi : 0 ≤ i ∧ i < (s.S : Int)) (hn : ((p m).n : Int) = s.b) (h : Arl w P O s l) (hz : Ps w P O b1 bp bs g s.M p i) (hu : s.u ≤ 900000) (hl : l ≤ 1000000) :
    Calls Tryz.prog 39 #[.int .i64 (m : Int), .pointer (some ⟨b1, 0, none⟩), .pointer (some ⟨bs, 0, none⟩), .pointer (some ⟨bp, 0, none⟩)] w fun e w' => (l ≠ 0 ∧ e = .returned (.int .i64 (err ((s.d m).op s.u).dead)) ∧ Dil w P O (s.turn m ((s.d m).put s.u i (p m).l)) (less l) w') ∨ (l = 0 ∧ e = .panicked out ∧ Dil w P O s l w') := by
  have d1 : w.drew.cell? ⟨b1, 0, none⟩ = _ := hz.1.box.1.cell 0
  have d2 : w.drew.cell? ⟨bs, 0, none⟩ = _ := hz.2.1.cell 0
  have d3 : w.drew.cell? ⟨bp, 0, none⟩ = _ := hz.1.parts.cell 0
  have d4 : w.drew.cell? ⟨g, m, none⟩ = _ := hz.1.cell hm
  have HA := Lib.hid h
  have HZ := Lib.hid hz
  have HH := Lib.hid (hz.1.has m hm)
  have HN := Lib.hid hn
  have HI := Lib.hid hi
  have hM := h.many
  clear h hz hn hi
  go_enter Tryz.func39, Tryz.ntmps39
  go_wp2_with fail
  have S0 : (fun w' : World => w'.cell? ⟨b1, 0, none⟩ = some (.pointer (some ⟨P.a, 0, none⟩)) ∧ w'.cell? ⟨bs, 0, none⟩ = some (.int .i64 i) ∧ w'.cell? ⟨bp, 0, none⟩ = some (.slice (some ⟨g, 0, none⟩) s.M s.M) ∧ w'.cell? ⟨g, m, none⟩ = some (.slice (p m).A (p m).n (p m).c)) w.drew := ⟨d1, d2, d3, d4⟩
  refine wp_region_early (fun w' : World => w'.cell? ⟨b1, 0, none⟩ = some (.pointer (some ⟨P.a, 0, none⟩)) ∧ w'.cell? ⟨bs, 0, none⟩ = some (.int .i64 i) ∧ w'.cell? ⟨bp, 0, none⟩ = some (.slice (some ⟨g, 0, none⟩) s.M s.M) ∧ w'.cell? ⟨g, m, none⟩ = some (.slice (p m).A (p m).n (p m).c)) (fun _ => true) (by kernel_rfl) ?_
  change wpEarly _ _ _ _ _ _ 9 (Array.replicate 9 false) _ w.drew
  refine early_take (i := 0) 6 (.pointer (some ⟨P.a, 0, none⟩)) rfl rfl (by kernel_rfl) (by kernel_rfl) (by kernel_rfl) (by kernel_rfl) rfl (fun _ _ _ h => h) (fun w' hw' => by obtain ⟨k1, k2, k3, k4⟩ := hw'; go_simp) S0 ?_
  simp only [Act.put, List.setIfInBounds_toArray, List.set_cons_zero, List.set_cons_succ]
  refine early_take (i := 1) 7 (.int .i64 (m : Int)) rfl rfl (by kernel_rfl) (by kernel_rfl) (by kernel_rfl) (by kernel_rfl) rfl (fun _ _ _ h => h) (fun w' hw' => by go_simp) S0 ?_
  simp only [Act.put, List.setIfInBounds_toArray, List.set_cons_zero, List.set_cons_succ]
  refine early_take (i := 2) 8 (.int .i64 i) rfl rfl (by kernel_rfl) (by kernel_rfl) (by kernel_rfl) (by kernel_rfl) rfl (fun _ _ _ h => h) (fun w' hw' => by obtain ⟨k1, k2, k3, k4⟩ := hw'; go_simp) S0 ?_
  simp only [Act.put, List.setIfInBounds_toArray, List.set_cons_zero, List.set_cons_succ]
  refine early_take (i := 3) 9 (.slice (some ⟨g, 0, none⟩) s.M s.M) rfl rfl (by kernel_rfl) (by kernel_rfl) (by kernel_rfl) (by kernel_rfl) rfl (fun _ _ _ h => h) (fun w' hw' => by obtain ⟨k1, k2, k3, k4⟩ := hw'; go_simp) S0 ?_
  simp only [Act.put, List.setIfInBounds_toArray, List.set_cons_zero, List.set_cons_succ]
  refine early_take (i := 4) 10 (.int .i64 (m : Int)) rfl rfl (by kernel_rfl) (by kernel_rfl) (by kernel_rfl) (by kernel_rfl) rfl (fun _ _ _ h => h) (fun w' hw' => by go_simp) S0 ?_
  simp only [Act.put, List.setIfInBounds_toArray, List.set_cons_zero, List.set_cons_succ]
  refine early_take (i := 5) 11 (.pointer (some ⟨g, m, none⟩)) rfl rfl (by kernel_rfl) (by kernel_rfl) (by kernel_rfl) (by kernel_rfl) rfl (fun _ _ _ h => h) (fun w' hw' => by go_simp) S0 ?_
  simp only [Act.put, List.setIfInBounds_toArray, List.set_cons_zero, List.set_cons_succ]
  refine early_take (i := 6) 12 (.slice (p m).A (p m).n (p m).c) rfl rfl (by kernel_rfl) (by kernel_rfl) (by kernel_rfl) (by kernel_rfl) rfl (fun _ _ _ h => h) (fun w' hw' => by obtain ⟨k1, k2, k3, k4⟩ := hw'; go_simp) S0 ?_
  simp only [Act.put, List.setIfInBounds_toArray, List.set_cons_zero, List.set_cons_succ]
  refine early_only (i := 7) (by kernel_rfl) rfl (fun K hK => ?_)
  simp only [opWp, List.getElem?_toArray, List.getElem?_cons_succ, List.getElem?_cons_zero]
  go_simp
  go_at_call 40
  refine (write_anyL m hm i HI.out (p m).A (p m).n (p m).c (p m).l HN.out (HH.out.drewN 1) HA.out.drew hu hl).mono ?_
  rintro e w3 (⟨h0, rfl, hD⟩ | ⟨h0, rfl, hD⟩)
  · have D3 := Lib.hid hD
    clear hD
    refine hK _ _ (fun _ => ?_) ?_
    · obtain ⟨O3, q1, q2, q3⟩ := D3.out
      have z3 := HZ.out.frame (But.of_drewN 1 q3) q2
      exact ⟨z3.1.box.1.cell 0, z3.2.1.cell 0, z3.1.parts.cell 0, z3.1.cell hm⟩
    obtain ⟨O3, q1, q2, q3⟩ := D3.out
    have z3 := HZ.out.frame (But.of_drewN 1 q3) q2
    have S3 : (fun w' : World => w'.cell? ⟨b1, 0, none⟩ = some (.pointer (some ⟨P.a, 0, none⟩)) ∧ w'.cell? ⟨bs, 0, none⟩ = some (.int .i64 i) ∧ w'.cell? ⟨bp, 0, none⟩ = some (.slice (some ⟨g, 0, none⟩) s.M s.M) ∧ w'.cell? ⟨g, m, none⟩ = some (.slice (p m).A (p m).n (p m).c)) w3 := ⟨z3.1.box.1.cell 0, z3.2.1.cell 0, z3.1.parts.cell 0, z3.1.cell hm⟩
    refine early_take (i := 8) 5 (.int .i64 (err ((s.d m).op s.u).dead)) rfl rfl (by kernel_rfl) (by kernel_rfl) (by kernel_rfl) (by kernel_rfl) rfl (fun _ _ _ h => h) (fun w' hw' => by go_simp) S3 ?_
    simp only [Act.put, List.setIfInBounds_toArray, List.set_cons_zero, List.set_cons_succ]
    refine early_done (by kernel_rfl) ?_
    clear S0 S3 z3
    go_wp2
    go_ret
    first | exact .inl ⟨h0, rfl, O3, q1, q2, But.of_drewN 1 q3⟩ | exact ⟨rfl, O3, q1, q2, But.of_drewN 1 q3⟩
  · obtain ⟨O3, q1, q2, q3⟩ := hD
    unfold out
    go_wp2
    exact ⟨rfl, .inr ⟨h0, rfl, O3, q1, q2, But.of_drewN 1 q3⟩⟩

end
end Go.Proofs.YtapbphkhbhcdkaaGreat
