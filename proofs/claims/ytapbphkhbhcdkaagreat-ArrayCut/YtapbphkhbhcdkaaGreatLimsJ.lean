import Derived.Test.YtapbphkhbhcdkaaGreatLimJ
import Derived.Test.YtapbphkhbhcdkaaGreatPutw
import Derived.Test.YtapbphkhbhcdkaaGreatHurt

/-
  THE WALKS OF write AND OF THE CLOSURES OF Flush AND Put, UNDER A LIMIT.
-/
namespace Go.Proofs.YtapbphkhbhcdkaaGreat
open Go.RowKit Go.Maps
set_option linter.unusedVariables false
set_option maxRecDepth 100000

section
variable {w w' : World} {P : Pl} {O : Nat → Prop} {s : AS} {l : Int}

theorem flushOneL (bx m : Nat) (hm : m < s.M) (h : Arl w P O s l) (hbx : Box w bx P O) (hu : s.u ≤ 900000) (hl : l ≤ 1000000) :
    Calls Tryz.prog 59 #[.int .i64 (m : Int), .pointer (some ⟨bx, 0, none⟩)] w fun e w' => (l ≠ 0 ∧ e = .returned (.int .i64 (err ((s.d m).op s.u).dead)) ∧ Dil w P O (s.turn m ((s.d m).fl s.u)) (less l) w') ∨ (l = 0 ∧ e = .panicked out ∧ Dil w P O s l w') := by
  have cb := hbx.1.cell 0
  obtain ⟨c6, c7, c8⟩ := h.cells
  have cr := h.row hm
  have hM := h.many
  have HA := Lib.hid h
  have hmeth := meth_flush
  clear h c7 c8
  go_enter Tryz.func59, Tryz.ntmps59
  go_wp2_with fail
  refine (dflushL m hm HA.out hu hl).mono ?_
  rintro e w' (⟨h0, rfl, k1⟩ | ⟨h0, rfl, rfl⟩)
  · go_wp2
    go_ret
    exact .inl ⟨h0, rfl, k1⟩
  · unfold out
    go_wp2
    exact ⟨rfl, .inr ⟨h0, rfl, O, HA.out, fun _ h => .inl h, But.refl _ _⟩⟩
set_option maxHeartbeats 1600000 in
theorem write_anyL (m : Nat) (hm : m < s.M) (i : Int) (hi : 0 ≤ i ∧ i < (s.S : Int)) (A : Option Addr) (n cap : Nat) (b : Bytes) (hn : (n : Int) = s.b) (hb : Has w A n b) (h : Arl w P O s l) (hu : s.u ≤ 900000) (hl : l ≤ 1000000) :
    Calls Tryz.prog 40 #[.pointer (some ⟨P.a, 0, none⟩), .int .i64 (m : Int), .int .i64 i, .slice A n cap] w fun e w' => (l ≠ 0 ∧ e = .returned (.int .i64 (err ((s.d m).op s.u).dead)) ∧ Dil w P O (s.turn m ((s.d m).put s.u i b)) (less l) w') ∨ (l = 0 ∧ e = .panicked out ∧ Dil w P O s l w') := by
  have HA := Lib.hid h
  have HB := Lib.hid hb
  have HN := Lib.hid hn
  have hM := h.many
  have hb48 := Lib.hid h.wf.small.hb
  have hmeth := meth_write
  clear h hb hn
  go_enter Tryz.func40, Tryz.ntmps40
  go_wp2_with fail
  have S0 : (fun w' : World => w'.cell? ⟨P.a, 6, none⟩ = some (.slice (some ⟨P.r, 0, none⟩) s.M P.c) ∧ w'.cell? ⟨P.r, m, none⟩ = some (dev (P.g m))) w.drew := ⟨HA.out.drew.cells.1, HA.out.drew.row hm⟩
  refine wp_region_early (fun w' : World => w'.cell? ⟨P.a, 6, none⟩ = some (.slice (some ⟨P.r, 0, none⟩) s.M P.c) ∧ w'.cell? ⟨P.r, m, none⟩ = some (dev (P.g m))) (fun _ => true) (by kernel_rfl) ?_
  change wpEarly _ _ _ _ _ _ 14 (Array.replicate 14 false) _ w.drew
  refine early_take (i := 0) 9 (.pointer (some ⟨P.a, 0, none⟩)) rfl rfl (by kernel_rfl) (by kernel_rfl) (by kernel_rfl) (by kernel_rfl) rfl (fun _ _ _ h => h) (fun w' hw' => by go_simp) S0 ?_
  simp only [Act.put, List.setIfInBounds_toArray, List.set_cons_zero, List.set_cons_succ]
  refine early_take (i := 1) 10 (.pointer (some ⟨P.a, 0, none⟩)) rfl rfl (by kernel_rfl) (by kernel_rfl) (by kernel_rfl) (by kernel_rfl) rfl (fun _ _ _ h => h) (fun w' hw' => by go_simp) S0 ?_
  simp only [Act.put, List.setIfInBounds_toArray, List.set_cons_zero, List.set_cons_succ]
  refine early_take (i := 2) 11 (.pointer (some ⟨P.a, 6, none⟩)) rfl rfl (by kernel_rfl) (by kernel_rfl) (by kernel_rfl) (by kernel_rfl) rfl (fun _ _ _ h => h) (fun w' hw' => by go_simp) S0 ?_
  simp only [Act.put, List.setIfInBounds_toArray, List.set_cons_zero, List.set_cons_succ]
  refine early_take (i := 3) 12 (.slice (some ⟨P.r, 0, none⟩) s.M P.c) rfl rfl (by kernel_rfl) (by kernel_rfl) (by kernel_rfl) (by kernel_rfl) rfl (fun _ _ _ h => h) (fun w' hw' => by obtain ⟨h6, hr⟩ := hw'; go_simp) S0 ?_
  simp only [Act.put, List.setIfInBounds_toArray, List.set_cons_zero, List.set_cons_succ]
  refine early_take (i := 4) 13 (.int .i64 (m : Int)) rfl rfl (by kernel_rfl) (by kernel_rfl) (by kernel_rfl) (by kernel_rfl) rfl (fun _ _ _ h => h) (fun w' hw' => by go_simp) S0 ?_
  simp only [Act.put, List.setIfInBounds_toArray, List.set_cons_zero, List.set_cons_succ]
  refine early_take (i := 5) 14 (.pointer (some ⟨P.r, m, none⟩)) rfl rfl (by kernel_rfl) (by kernel_rfl) (by kernel_rfl) (by kernel_rfl) rfl (fun _ _ _ h => h) (fun w' hw' => by go_simp) S0 ?_
  simp only [Act.put, List.setIfInBounds_toArray, List.set_cons_zero, List.set_cons_succ]
  refine early_take (i := 6) 15 (dev (P.g m)) rfl rfl (by kernel_rfl) (by kernel_rfl) (by kernel_rfl) (by kernel_rfl) rfl (fun _ _ _ h => h) (fun w' hw' => by obtain ⟨h6, hr⟩ := hw'; go_simp) S0 ?_
  simp only [Act.put, List.setIfInBounds_toArray, List.set_cons_zero, List.set_cons_succ]
  refine early_take (i := 7) 16 (.int .i64 i) rfl rfl (by kernel_rfl) (by kernel_rfl) (by kernel_rfl) (by kernel_rfl) rfl (fun _ _ _ h => h) (fun w' hw' => by go_simp) S0 ?_
  simp only [Act.put, List.setIfInBounds_toArray, List.set_cons_zero, List.set_cons_succ]
  refine early_take (i := 8) 17 (.slice A n cap) rfl rfl (by kernel_rfl) (by kernel_rfl) (by kernel_rfl) (by kernel_rfl) rfl (fun _ _ _ h => h) (fun w' hw' => by go_simp) S0 ?_
  simp only [Act.put, List.setIfInBounds_toArray, List.set_cons_zero, List.set_cons_succ]
  refine early_take (i := 10) 19 (dev (P.g m)) rfl rfl (by kernel_rfl) (by kernel_rfl) (by kernel_rfl) (by kernel_rfl) rfl (fun _ _ _ h => h) (fun w' hw' => by go_simp) S0 ?_
  simp only [Act.put, List.setIfInBounds_toArray, List.set_cons_zero, List.set_cons_succ]
  refine early_take (i := 11) 20 (dev (P.g m)) rfl rfl (by kernel_rfl) (by kernel_rfl) (by kernel_rfl) (by kernel_rfl) rfl (fun _ _ _ h => h) (fun w' hw' => by go_simp) S0 ?_
  simp only [Act.put, List.setIfInBounds_toArray, List.set_cons_zero, List.set_cons_succ]
  refine early_only (i := 9) (by kernel_rfl) rfl (fun K hK => ?_)
  simp only [opWp, List.getElem?_toArray, List.getElem?_cons_succ, List.getElem?_cons_zero]
  go_simp
  go_at_call 58
  refine (clone_any A n cap b _ (by have := HN.out; have := hb48.out; omega) (HB.out.drewN 1)).mono ?_
  rintro e w2 ⟨v, rfl, hv, hb⟩
  have H2 := Lib.hid (HA.out.drew.up hb)
  have B2 := Lib.hid (But.of_drewN 1 (But.of_below (S := fun _ => False) hb))
  obtain ⟨A2, cap2, rfl, hh, _, hA⟩ := own_form hv
  have HH := Lib.hid hh
  have HQ := Lib.hid hA
  clear hv hb hh hA
  have S2 : (fun w' : World => w'.cell? ⟨P.a, 6, none⟩ = some (.slice (some ⟨P.r, 0, none⟩) s.M P.c) ∧ w'.cell? ⟨P.r, m, none⟩ = some (dev (P.g m))) w2 := ⟨H2.out.cells.1, H2.out.row hm⟩
  refine hK _ _ (fun _ => S2) ?_
  refine early_only (i := 12) (by kernel_rfl) rfl (fun K hK => ?_)
  simp only [opWp, List.getElem?_toArray, List.getElem?_cons_succ, List.getElem?_cons_zero]
  go_simp
  go_at_call 122
  refine (dwriteL m hm i hi A2 n cap2 b HN.out HH.out (fun x hx e => by have h1 := (HQ.out x hx).1; have h2 := HA.out.lt _ e; simp at h1; omega) H2.out hu hl).mono ?_
  rintro e w3 (⟨h0, rfl, hD⟩ | ⟨h0, rfl, rfl⟩)
  · have D3 := Lib.hid hD
    obtain ⟨O3, k1, k2, k3⟩ := hD
    have S3 : (fun w' : World => w'.cell? ⟨P.a, 6, none⟩ = some (.slice (some ⟨P.r, 0, none⟩) s.M P.c) ∧ w'.cell? ⟨P.r, m, none⟩ = some (dev (P.g m))) w3 := ⟨k1.cells.1, k1.row hm⟩
    clear k1 k2 k3
    refine hK _ _ (fun _ => S3) ?_
    refine early_take (i := 13) 8 (.int .i64 (err ((s.d m).op s.u).dead)) rfl rfl (by kernel_rfl) (by kernel_rfl) (by kernel_rfl) (by kernel_rfl) rfl (fun _ _ _ h => h) (fun w' hw' => by go_simp) S3 ?_
    simp only [Act.put, List.setIfInBounds_toArray, List.set_cons_zero, List.set_cons_succ]
    refine early_done (by kernel_rfl) ?_
    go_wp2
    go_ret
    first | exact .inl ⟨h0, rfl, D3.out.trans (O := O) (fun _ h => .inl h) (B2.out.mono (fun _ h _ => h.elim))⟩ | exact ⟨rfl, D3.out.trans (O := O) (fun _ h => .inl h) (B2.out.mono (fun _ h _ => h.elim))⟩
  · unfold out
    go_wp2
    exact ⟨rfl, .inr ⟨h0, rfl, O, H2.out, fun _ h => .inl h, B2.out.mono (fun _ h _ => h.elim)⟩⟩

set_option maxHeartbeats 1600000 in
theorem putOneL (b1 bp bs g m : Nat) (p : Nat → Sl) (hm : m < s.M) (i : Int) (hi : 0 ≤ i ∧ i < (s.S : Int)) (hn : ((p m).n : Int) = s.b) (h : Arl w P O s l) (hz : Ps w P O b1 bp bs g s.M p i) (hu : s.u ≤ 900000) (hl : l ≤ 1000000) :
    Calls Tryz.prog 39 #[.int .i64 (m : Int), .pointer (some ⟨b1, 0, none⟩), .pointer (some ⟨bs, 0, none⟩), .pointer (some ⟨bp, 0, none⟩)] w fun e w' => (l ≠ 0 ∧ e = .returned (.int .i64 (err ((s.d m).op s.u).dead)) ∧ Dil w P O (s.turn m ((s.d m).put s.u i (p m).l)) (less l) w') ∨ (l = 0 ∧ e = .panicked out ∧ Dil w P O s l w') := by
  have d1 : w.drew.cell? ⟨b1, 0, none⟩ = _ := hz.1.box.1.cell 0
  have d2 : w.drew.cell? ⟨bs, 0, none⟩ = _ := hz.2.1.cell 0
  have d3 : w.drew.cell? ⟨bp, 0, none⟩ = _ := hz.1.parts.cell 0
  have d4 : w.drew.cell? ⟨g, m, none⟩ = _ := hz.1.cell hm
  have HA := Lib.hid h
  have HZ := Lib.hid hz
  have HH := Lib.hid (hz.1.has m hm)
  have HN := Lib.hid hn
  have HI := Lib.hid hi
  have hM := h.many
  clear h hz hn hi
  go_enter Tryz.func39, Tryz.ntmps39
  go_wp2_with fail
  have S0 : (fun w' : World => w'.cell? ⟨b1, 0, none⟩ = some (.pointer (some ⟨P.a, 0, none⟩)) ∧ w'.cell? ⟨bs, 0, none⟩ = some (.int .i64 i) ∧ w'.cell? ⟨bp, 0, none⟩ = some (.slice (some ⟨g, 0, none⟩) s.M s.M) ∧ w'.cell? ⟨g, m, none⟩ = some (.slice (p m).A (p m).n (p m).c)) w.drew := ⟨d1, d2, d3, d4⟩
  refine wp_region_early (fun w' : World => w'.cell? ⟨b1, 0, none⟩ = some (.pointer (some ⟨P.a, 0, none⟩)) ∧ w'.cell? ⟨bs, 0, none⟩ = some (.int .i64 i) ∧ w'.cell? ⟨bp, 0, none⟩ = some (.slice (some ⟨g, 0, none⟩) s.M s.M) ∧ w'.cell? ⟨g, m, none⟩ = some (.slice (p m).A (p m).n (p m).c)) (fun _ => true) (by kernel_rfl) ?_
  change wpEarly _ _ _ _ _ _ 9 (Array.replicate 9 false) _ w.drew
  refine early_take (i := 0) 6 (.pointer (some ⟨P.a, 0, none⟩)) rfl rfl (by kernel_rfl) (by kernel_rfl) (by kernel_rfl) (by kernel_rfl) rfl (fun _ _ _ h => h) (fun w' hw' => by obtain ⟨k1, k2, k3, k4⟩ := hw'; go_simp) S0 ?_
  simp only [Act.put, List.setIfInBounds_toArray, List.set_cons_zero, List.set_cons_succ]
  refine early_take (i := 1) 7 (.int .i64 (m : Int)) rfl rfl (by kernel_rfl) (by kernel_rfl) (by kernel_rfl) (by kernel_rfl) rfl (fun _ _ _ h => h) (fun w' hw' => by go_simp) S0 ?_
  simp only [Act.put, List.setIfInBounds_toArray, List.set_cons_zero, List.set_cons_succ]
  refine early_take (i := 2) 8 (.int .i64 i) rfl rfl (by kernel_rfl) (by kernel_rfl) (by kernel_rfl) (by kernel_rfl) rfl (fun _ _ _ h => h) (fun w' hw' => by obtain ⟨k1, k2, k3, k4⟩ := hw'; go_simp) S0 ?_
  simp only [Act.put, List.setIfInBounds_toArray, List.set_cons_zero, List.set_cons_succ]
  refine early_take (i := 3) 9 (.slice (some ⟨g, 0, none⟩) s.M s.M) rfl rfl (by kernel_rfl) (by kernel_rfl) (by kernel_rfl) (by kernel_rfl) rfl (fun _ _ _ h => h) (fun w' hw' => by obtain ⟨k1, k2, k3, k4⟩ := hw'; go_simp) S0 ?_
  simp only [Act.put, List.setIfInBounds_toArray, List.set_cons_zero, List.set_cons_succ]
  refine early_take (i := 4) 10 (.int .i64 (m : Int)) rfl rfl (by kernel_rfl) (by kernel_rfl) (by kernel_rfl) (by kernel_rfl) rfl (fun _ _ _ h => h) (fun w' hw' => by go_simp) S0 ?_
  simp only [Act.put, List.setIfInBounds_toArray, List.set_cons_zero, List.set_cons_succ]
  refine early_take (i := 5) 11 (.pointer (some ⟨g, m, none⟩)) rfl rfl (by kernel_rfl) (by kernel_rfl) (by kernel_rfl) (by kernel_rfl) rfl (fun _ _ _ h => h) (fun w' hw' => by go_simp) S0 ?_
  simp only [Act.put, List.setIfInBounds_toArray, List.set_cons_zero, List.set_cons_succ]
  refine early_take (i := 6) 12 (.slice (p m).A (p m).n (p m).c) rfl rfl (by kernel_rfl) (by kernel_rfl) (by kernel_rfl) (by kernel_rfl) rfl (fun _ _ _ h => h) (fun w' hw' => by obtain ⟨k1, k2, k3, k4⟩ := hw'; go_simp) S0 ?_
  simp only [Act.put, List.setIfInBounds_toArray, List.set_cons_zero, List.set_cons_succ]
  refine early_only (i := 7) (by kernel_rfl) rfl (fun K hK => ?_)
  simp only [opWp, List.getElem?_toArray, List.getElem?_cons_succ, List.getElem?_cons_zero]
  go_simp
  go_at_call 40
  refine (write_anyL m hm i HI.out (p m).A (p m).n (p m).c (p m).l HN.out (HH.out.drewN 1) HA.out.drew hu hl).mono ?_
  rintro e w3 (⟨h0, rfl, hD⟩ | ⟨h0, rfl, hD⟩)
  · have D3 := Lib.hid hD
    clear hD
    refine hK _ _ (fun _ => ?_) ?_
    · obtain ⟨O3, q1, q2, q3⟩ := D3.out
      have z3 := HZ.out.frame (But.of_drewN 1 q3) q2
      exact ⟨z3.1.box.1.cell 0, z3.2.1.cell 0, z3.1.parts.cell 0, z3.1.cell hm⟩
    obtain ⟨O3, q1, q2, q3⟩ := D3.out
    have z3 := HZ.out.frame (But.of_drewN 1 q3) q2
    have S3 : (fun w' : World => w'.cell? ⟨b1, 0, none⟩ = some (.pointer (some ⟨P.a, 0, none⟩)) ∧ w'.cell? ⟨bs, 0, none⟩ = some (.int .i64 i) ∧ w'.cell? ⟨bp, 0, none⟩ = some (.slice (some ⟨g, 0, none⟩) s.M s.M) ∧ w'.cell? ⟨g, m, none⟩ = some (.slice (p m).A (p m).n (p m).c)) w3 := ⟨z3.1.box.1.cell 0, z3.2.1.cell 0, z3.1.parts.cell 0, z3.1.cell hm⟩
    refine early_take (i := 8) 5 (.int .i64 (err ((s.d m).op s.u).dead)) rfl rfl (by kernel_rfl) (by kernel_rfl) (by kernel_rfl) (by kernel_rfl) rfl (fun _ _ _ h => h) (fun w' hw' => by go_simp) S3 ?_
    simp only [Act.put, List.setIfInBounds_toArray, List.set_cons_zero, List.set_cons_succ]
    refine early_done (by kernel_rfl) ?_
    clear S0 S3 z3
    go_wp2
    go_ret
    first | exact .inl ⟨h0, rfl, O3, q1, q2, But.of_drewN 1 q3⟩ | exact ⟨rfl, O3, q1, q2, But.of_drewN 1 q3⟩
  · obtain ⟨O3, q1, q2, q3⟩ := hD
    unfold out
    go_wp2
    exact ⟨rfl, .inr ⟨h0, rfl, O3, q1, q2, But.of_drewN 1 q3⟩⟩

end
end Go.Proofs.YtapbphkhbhcdkaaGreat

/-
  THE WALKS OF each AND OF Flush, UNDER A LIMIT, WHEN NOTHING FAILS.
-/
namespace Go.Proofs.YtapbphkhbhcdkaaGreat
open Go.RowKit Go.Maps
set_option linter.unusedVariables false
set_option maxRecDepth 100000

section
variable {w w' : World} {P : Pl} {O : Nat → Prop} {s : AS} {l : Int}
theorem Arl.range (h : Arl w P O s l) : w.rangeAt P.a 0 s.sh := by
  obtain ⟨c0, c1, c2, c3, c4, c5⟩ := h.shape
  intro j v hv
  rw [Nat.zero_add]
  match j, hv with
  | 0, hv => rw [c0]; simpa [AS.sh] using hv
  | 1, hv => rw [c1]; simpa [AS.sh] using hv
  | 2, hv => rw [c2]; simpa [AS.sh] using hv
  | 3, hv => rw [c3]; simpa [AS.sh] using hv
  | 4, hv => rw [c4]; simpa [AS.sh] using hv
  | 5, hv => rw [c5]; simpa [AS.sh] using hv
theorem Arl.load (h : Arl w P O s l) : (Instr.loadAt 33 (.pointer (some ⟨P.a, 0, none⟩))).run Tryz.prog w = .ok (sv (s.M : Int) s.b s.g s.s s.n s.l) w :=
  run_loadAt_mid w P.a 0 33 s.sh _ h.range Tryz.underlying33 rfl shape_size
theorem box_newL (h : Arl w P O s l) : Box (w.alloc (.cells #[.pointer (some ⟨P.a, 0, none⟩)] 40)) w.heap.size P O := ⟨At.new _ 40 rfl, fun e => by have := h.lt _ e; omega⟩

/-- What each comes to under a limit, when nothing fails: all is done, or the power went at the j-th. -/
inductive EachL (f : Nat → DS → Int → DS) (l : Int) (w : World) (P : Pl) (O : Nat → Prop) (s : AS) (w' : World) : Ending → Prop
  | done (s' : AS) (hl : (s.M : Int) ≤ l) (hD : Dil w P O s' (l - (s.M : Int)) w') (hE : EachTo f s.M s s') (hu : s'.u = s.u + (s.M : Int)) : EachL f l w P O s w' (.returned (.int .i64 0))
  | cut (s' : AS) (j : Nat) (hj : j < s.M) (hl : l = (j : Int)) (hD : Dil w P O s' 0 w') (hE : EachTo f j s s') (hu : s'.u = s.u + (j : Int)) : EachL f l w P O s w' (.panicked out)

theorem EachTo.calm {f : Nat → DS → Int → DS} {j : Nat} {s s' : AS} (h : EachTo f j s s') (c : Calm s) : Calm s' := c.rel h.rel

set_option maxHeartbeats 1600000 in
theorem each_anyL (K : Nat) (cap : Array Value) (f : Nat → DS → Int → DS) (F : Act1 f) (Z : World → (Nat → Prop) → Prop)
    (hK : ∀ (m : Nat) w, (callFunc K (#[.int .i64 (m : Int)] ++ cap)).run Tryz.prog w = .ok (.enter K (#[.int .i64 (m : Int)] ++ cap)) w)
    (hZ : ∀ w w' O O', Z w O → But O w w' → (∀ k, O' k → O k ∨ w.heap.size ≤ k) → Z w' O')
    (hc : ∀ (m : Nat) w O s' l, m < s.M → Same s s' → Arl w P O s' l → Z w O → s'.u ≤ 900000 → l ≤ 1000000 → Calls Tryz.prog K (#[.int .i64 (m : Int)] ++ cap) w fun e w' => (l ≠ 0 ∧ e = .returned (.int .i64 (err ((s'.d m).op s'.u).dead)) ∧ Dil w P O (s'.turn m (f m (s'.d m) s'.u)) (less l) w') ∨ (l = 0 ∧ e = .panicked out ∧ Dil w P O s' l w'))
    (h : Arl w P O s l) (hz : Z w O) (hu : s.u ≤ 800000) (hcalm : Calm s) (hl : 0 ≤ l ∧ l ≤ 1000) :
    Calls Tryz.prog 38 #[.pointer (some ⟨P.a, 0, none⟩), .func (.func K) #[] cap] w fun e w' => EachL f l w P O s w' e := by
  have HA := Lib.hid h
  have HZ := Lib.hid hz
  obtain ⟨c6, c7, c8⟩ := h.cells
  have hM := h.many
  have HC := Lib.hid hcalm
  have hbr := hcalm.whole
  have HL := Lib.hid hl
  clear h hz c7 hcalm hl
  go_enter Tryz.func38, Tryz.ntmps38
  rw [hbr] at c8
  have BR := Lib.hid hbr
  clear hbr
  go_wp2_with fail
  go_loopw [16] (fun i wr => ∃ j : Nat, j ≤ s.M ∧ i = .int .i64 (j : Int) ∧ (j : Int) ≤ l ∧ ∃ O' s', Arl wr P O' s' (l - (j : Int)) ∧ (∀ k, O' k → O k ∨ w.heap.size ≤ k) ∧ But O w wr ∧ Z wr O' ∧ EachTo f j s s' ∧ s'.u = s.u + (j : Int)) (fun i _ => s.M - (RowKit.intOf i).toNat)
  case atStart => exact ⟨0, Nat.zero_le _, rfl, HL.out.1, O, s, by simpa using HA.out, fun _ h => .inl h, But.refl _ _, HZ.out, EachTo.start BR.out, by simp⟩
  case round =>
    obtain ⟨j, hj, rfl, kl, O', s', k1, k2, k3, k4, k5, k6⟩ := hrel
    have A1 := Lib.hid k1
    have O1 := Lib.hid k2
    have B1 := Lib.hid k3
    have Z1 := Lib.hid k4
    have E1 := Lib.hid k5
    have U1 := Lib.hid k6
    have L1 := Lib.hid kl
    clear k1 k2 k3 k4 k5 k6 kl c6 c8
    by_cases hlt : j < s.M
    · have US := Lib.hid (show s'.u ≤ 800010 by have := E1.out.rel.u.2; omega)
      go_wp2_with fail
      refine (hc j wr O' s' (l - (j : Int)) hlt E1.out.rel.same A1.out Z1.out (by have := US.out; omega) (by have := HL.out; omega)).mono ?_
      rintro e w2 (⟨h0, rfl, O2, a2, o2, b2⟩ | ⟨h0, rfl, O2, a2, o2, b2⟩)
      · have l0 : 0 < l - (j : Int) := by have := L1.out; omega
        have e2 : less (l - (j : Int)) = l - ((j + 1 : Nat) : Int) := by unfold less; rw [if_pos l0]; omega
        rw [e2] at a2
        have LJ := Lib.hid (show ((j + 1 : Nat) : Int) ≤ l by omega)
        have A2 := Lib.hid a2
        have O3 := Lib.hid (show ∀ k, O2 k → O k ∨ w.heap.size ≤ k from fun k hk => (o2 k hk).elim (O1.out k) (fun h => .inr (Nat.le_trans B1.out.size h)))
        have B2 := Lib.hid (show But O w w2 from B1.out.trans b2 (fun k hk hlt => (O1.out k hk).elim id (fun h => by omega)))
        have Z2 := Lib.hid (hZ _ _ _ O2 Z1.out b2 o2)
        clear a2 o2 b2 h0 l0 e2
        have hfd := F.dead j (s'.d j) s'.u
        have hlv : Live (s'.d j) := (E1.out.calm HC.out).live (by rw [E1.out.rel.same.M]; exact hlt)
        have hdd : ((s'.d j).op s'.u).dead = false := by rw [(Aged.op (s'.d j) s'.u).live hlv]; exact hlv.1
        rw [hdd] at hfd
        have E2 := Lib.hid (E1.out.ok F hlt hfd)
        have U2 := Lib.hid (show (s'.turn j (f j (s'.d j) s'.u)).u = s.u + ((j + 1 : Nat) : Int) by show s'.u + 1 = _; have := U1.out; omega)
        rw [hdd]
        clear hdd hfd hlv
        unfold err
        simp only [Bool.false_eq_true, if_false]
        go_wp2
        go_roundw
        case rel => exact ⟨j + 1, by omega, by go_num, LJ.out, O2, _, A2.out, O3.out, B2.out, Z2.out, E2.out, U2.out⟩
        case measure => simp [RowKit.intOf]; omega
      · have D2 : Dil w P O s' 0 w2 := Dil.trans O1.out B1.out ⟨O2, by rw [← h0]; exact a2, o2, b2⟩
        have R2 := Lib.hid (EachL.cut (f := f) (l := l) s' j hlt (by omega) D2 E1.out U1.out)
        clear h0 a2 o2 b2 D2
        unfold out
        go_wp2
        exact ⟨rfl, R2.out⟩
    · obtain rfl : j = s.M := by omega
      go_wp2
      go_ret
      exact .done s' L1.out ⟨O', A1.out, O1.out, B1.out⟩ E1.out U1.out

theorem Flush_anyL (h : Arl w P O s l) (hu : s.u ≤ 800000) (hcalm : Calm s) (hl : 0 ≤ l ∧ l ≤ 1000) : Calls Tryz.prog 41 #[.pointer (some ⟨P.a, 0, none⟩)] w fun e w' => EachL (fun _ d u => d.fl u) l w P O s w' e := by
  have HA := Lib.hid (h.alloc (.cells #[.pointer (some ⟨P.a, 0, none⟩)] 40))
  have HB := Lib.hid (box_newL h)
  have B1 := Lib.hid ((But.refl O w).alloc (.cells #[.pointer (some ⟨P.a, 0, none⟩)] 40))
  have hmf : ∀ (fn : Fn) (first cap : Array Value) (w : World), (Instr.makeFunc fn first cap).run Tryz.prog w = .ok (.func fn first cap) w := fun _ _ _ _ => rfl
  clear h
  go_enter Tryz.func41, Tryz.ntmps41
  go_wp2_with fail
  refine (each_anyL 59 #[.pointer (some ⟨w.heap.size, 0, none⟩)] (fun _ d u => d.fl u) flush_act (fun w O => Box w _ P O) (fun m w => enters52 m _ w) (fun _ _ _ _ hz hb hO => hz.frame hb hO) (fun m w O s' l' hm hs ha hz hu hl => flushOneL _ m (by rw [hs.M]; exact hm) ha hz hu hl) HA.out HB.out hu hcalm hl).mono ?_
  rintro e w2 (⟨s', k1, k2, k3, k4⟩ | ⟨s', j, k0, k1, k2, k3, k4⟩)
  · have R2 := Lib.hid (EachL.done (f := fun _ d u => d.fl u) (l := l) s' k1 (k2.trans (fun _ h => .inl h) B1.out) k3 k4)
    clear k1 k2 k3 k4
    go_wp2
    go_ret
    exact R2.out
  · have R2 := Lib.hid (EachL.cut (f := fun _ d u => d.fl u) (l := l) s' j k0 k1 (k2.trans (fun _ h => .inl h) B1.out) k3 k4)
    clear k0 k1 k2 k3 k4
    unfold out
    go_wp2
    exact ⟨rfl, R2.out⟩
end
end Go.Proofs.YtapbphkhbhcdkaaGreat

/-
  THE WALK OF Put UNDER A LIMIT, WHEN NOTHING FAILS.
-/
namespace Go.Proofs.YtapbphkhbhcdkaaGreat
open Go.RowKit Go.Maps
set_option linter.unusedVariables false
set_option maxRecDepth 100000

section
variable {w w' : World} {P : Pl} {O : Nat → Prop} {s : AS} {l : Int}

theorem isBlockL (bx : Nat) (A : Option Addr) (n c : Nat) (h : Arl w P O s l) (hbx : At w bx #[.pointer (some ⟨P.a, 0, none⟩)] 40) :
    Calls Tryz.prog 54 #[.slice A n c, .pointer (some ⟨bx, 0, none⟩)] w fun e w' => e = .returned (.bool (decide ((n : Int) ≠ s.b))) ∧ w' = w := by
  have cb := hbx.cell 0
  obtain ⟨c0, c1, c2, c3, c4, c5⟩ := h.shape
  clear h c0 c2 c3 c4 c5
  by_cases hn : (n : Int) = s.b
  · rw [decide_eq_false (fun h => h hn)]
    go_enter Tryz.func54, Tryz.ntmps54
    go_wp2
    go_ret
    exact ⟨by simp_all, rfl⟩
  · rw [decide_eq_true hn]
    go_enter Tryz.func54, Tryz.ntmps54
    go_wp2
    go_ret
    exact ⟨by simp_all, rfl⟩

theorem findBlockL (bx : Nat) (A : Option Addr) (n c : Nat) (L : List Sl) (h : Arl w P O s l) (hL : Ln w A n L) (hbx : At w bx #[.pointer (some ⟨P.a, 0, none⟩)] 40) :
    Calls Tryz.prog 71 #[.slice A n c, .func (.func 54) #[] #[.pointer (some ⟨bx, 0, none⟩)]] w fun e w' => (∃ r : Int, e = .returned (.int .i64 r) ∧ (0 ≤ r ↔ ¬ Fits L s.b)) ∧ w' = w := by
  have HA := Lib.hid h
  have HL := Lib.hid hL
  have HB := Lib.hid hbx
  have hn := hL.few
  have hcf := enters79
  clear h hL hbx
  go_enter Tryz.func71, Tryz.ntmps71
  go_wp2_with fail
  go_loopw [8] (fun i wr => ∃ j : Nat, j ≤ n ∧ i = .int .i64 (j : Int) ∧ wr = w ∧ Fits (L.take j) s.b) (fun i _ => n - (RowKit.intOf i).toNat)
  case atStart => exact ⟨0, Nat.zero_le _, rfl, rfl, fun x hx => by simp at hx⟩
  case round =>
    obtain ⟨j, hj, rfl, rfl, hF⟩ := hrel
    have F1 := Lib.hid hF
    clear hF
    by_cases hlt : j < n
    · obtain ⟨hjl, b, off, rfl, hc, hh, hx⟩ := HL.out.one hlt
      clear hh
      go_wp2_with fail
      refine (isBlockL bx L[j].A L[j].n L[j].c HA.out HB.out).mono ?_
      rintro e w' ⟨rfl, rfl⟩
      by_cases hd : (L[j].n : Int) = s.b
      · rw [decide_eq_false (fun h => h hd)]
        have F2 := Lib.hid (show Fits (L.take (j + 1)) s.b by
          intro x hx
          rw [List.take_succ_eq_append_getElem hjl] at hx
          rcases List.mem_append.1 hx with h | h
          · exact F1.out x h
          · simp at h; subst h; exact hd)
        go_wp2
        go_roundw
        case rel => exact ⟨j + 1, by omega, by go_num, trivial, F2.out⟩
        case measure => simp [RowKit.intOf]; omega
      · rw [decide_eq_true hd]
        have NF := Lib.hid (show ¬ Fits L s.b from fun h => hd (h _ (List.getElem_mem hjl)))
        clear hd
        go_wp2
        go_ret
        exact ⟨⟨_, rfl, ⟨fun _ => NF.out, fun _ => by omega⟩⟩, rfl⟩
    · obtain rfl : j = n := by omega
      have F2 := Lib.hid (show Fits L s.b by have := F1.out; rwa [HL.out.all] at this)
      go_wp2
      go_ret
      exact ⟨⟨_, rfl, ⟨fun h => absurd h (by decide), fun h => absurd F2.out h⟩⟩, rfl⟩

theorem blocks_anyL (A : Option Addr) (n c : Nat) (L : List Sl) (h : Arl w P O s l) (hL : Ln w A n L) :
    Calls Tryz.prog 33 #[.pointer (some ⟨P.a, 0, none⟩), .slice A n c] w fun e w' => e = .returned (.bool (decide (Fits L s.b))) ∧ Below w.heap.size w w' := by
  have HA := Lib.hid (h.alloc (.cells #[.pointer (some ⟨P.a, 0, none⟩)] 40))
  have bel : Below w.heap.size w (w.alloc (.cells #[.pointer (some ⟨P.a, 0, none⟩)] 40)) := (Below.refl _ _).alloc (Nat.le_refl _) _
  have HL := Lib.hid (hL.below bel)
  have B1 := Lib.hid bel
  have hmf : ∀ (fn : Fn) (first cap : Array Value) (w : World), (Instr.makeFunc fn first cap).run Tryz.prog w = .ok (.func fn first cap) w := fun _ _ _ _ => rfl
  clear h hL bel
  go_enter Tryz.func33, Tryz.ntmps33
  go_wp2_with fail
  go_at_call 53
  refine (show Calls Tryz.prog 53 #[.slice A n c, .func (.func 54) #[] #[.pointer (some ⟨w.heap.size, 0, none⟩)]] (w.alloc (.cells #[.pointer (some ⟨P.a, 0, none⟩)] 40)) fun e w' => e = .returned (.bool (decide (¬ Fits L s.b))) ∧ w' = w.alloc (.cells #[.pointer (some ⟨P.a, 0, none⟩)] 40) from ?_).mono ?_
  · go_enter Tryz.func53, Tryz.ntmps53
    go_wp2_with fail
    refine (findBlockL w.heap.size A n c L HA.out HL.out (At.new _ 40 rfl)).mono ?_
    rintro e w' ⟨⟨r, rfl, hr⟩, rfl⟩
    have HR := Lib.hid hr
    clear hr
    go_wp2
    go_ret
    refine ⟨?_, rfl⟩
    show Ending.returned (.bool (decide (0 ≤ r))) = _
    rw [decide_eq_decide.2 HR.out]
  · rintro e w' ⟨rfl, rfl⟩
    go_wp2
    go_ret
    exact ⟨rfl, B1.out⟩
theorem chunks_anyL (h : Arl w P O s l) : Calls Tryz.prog 32 #[.pointer (some ⟨P.a, 0, none⟩)] w fun e w' => e = .returned (.int .i64 ((s.M : Int) - 1)) ∧ w' = w := by
  obtain ⟨c6, c7, c8⟩ := h.cells
  have hM := h.many
  clear h c8 c7
  go_enter Tryz.func32, Tryz.ntmps32
  go_wp2
  go_ret
  exact ⟨rfl, rfl⟩


/-- A member behind a put that the power cut: as it was, written, or written and flushed. -/
def Some1 (i : Int) (b : Bytes) (d d' : DS) : Prop := d' = d ∨ (∃ u, d' = d.put u i b) ∨ ∃ u1 u2, d' = (d.put u1 i b).fl u2
/-- What Put comes to under a limit, when nothing fails. -/
inductive PutL (i : Int) (B : Nat → Bytes) (l : Int) (w : World) (P : Pl) (O : Nat → Prop) (s : AS) (w' : World) : Ending → Prop
  | done (s' : AS) (l' : Int) (hD : Dil w P O s' l' w') (hr : PutAs i B s s' 0) : PutL i B l w P O s w' (.returned (.int .i64 0))
  | cut (s' : AS) (hD : Dil w P O s' 0 w') (hr : Rel (fun j d d' => Some1 i (B j) d d') 20 s s') : PutL i B l w P O s w' (.panicked out)

theorem put_both {i : Int} {B B' : Nat → Bytes} {s s1 s2 : AS} (hB : ∀ m, B' m = B m) (h : EachTo (fun k d u => d.put u i (B' k)) s.M s s1) (k : EachTo (fun _ d u => d.fl u) s1.M s1 s2) (hM : (s.M : Int) ≤ 5 := by omega) : PutAs i B s s2 0 := by
  have e := h.rel.same.M
  refine .done ((h.rel.trans (R'' := fun j d d' => ∃ u1 u2, d' = (d.put u1 i (B j)).fl u2) k.rel ?_ ?_).mono (fun _ _ _ _ h => h) (by rw [e]; omega)) (fun m hm hd => k.told m (by rw [e]; exact hm) hd)
  · intro m d d' d'' hm h1 h2
    rw [if_pos hm] at h1
    rw [if_pos (by rw [e]; exact hm)] at h2
    obtain ⟨u1, rfl⟩ := h1
    obtain ⟨u2, rfl⟩ := h2
    exact ⟨u1, u2, by rw [hB]⟩
  · intro m d d' hm h1 hd
    rw [if_pos (by rw [e]; exact hm)] at h1
    obtain ⟨u, rfl⟩ := h1
    exact (fl_turns d u).dies hd
theorem put_part {i : Int} {B B' : Nat → Bytes} {s s1 s2 : AS} {j : Nat} (hB : ∀ m, B' m = B m) (h : EachTo (fun k d u => d.put u i (B' k)) s.M s s1) (k : EachTo (fun _ d u => d.fl u) j s1 s2) (hM : (s.M : Int) ≤ 5 := by omega) (hj : j < s1.M := by assumption) : Rel (fun j d d' => Some1 i (B j) d d') 20 s s2 := by
  have e := h.rel.same.M
  refine (h.rel.trans (R'' := fun j d d' => Some1 i (B j) d d') k.rel ?_ ?_).mono (fun _ _ _ _ h => h) (by omega)
  · intro m d d' d'' hm h1 h2
    rw [if_pos hm] at h1
    obtain ⟨u1, rfl⟩ := h1
    by_cases hx : m < j
    · rw [if_pos hx] at h2
      obtain ⟨u2, rfl⟩ := h2
      exact .inr (.inr ⟨u1, u2, by rw [hB]⟩)
    · rw [if_neg hx] at h2
      subst h2
      exact .inr (.inl ⟨u1, by rw [hB]⟩)
  · intro m d d' hm h1 hd
    by_cases hx : m < j
    · rw [if_pos hx] at h1
      obtain ⟨u, rfl⟩ := h1
      exact (fl_turns d u).dies hd
    · rw [if_neg hx] at h1
      rw [h1]; exact hd
theorem put_some {i : Int} {B B' : Nat → Bytes} {s s1 : AS} {j : Nat} (hB : ∀ m, B' m = B m) (h : EachTo (fun k d u => d.put u i (B' k)) j s s1) (hM : (s.M : Int) ≤ 5 := by omega) (hj : j < s.M := by assumption) : Rel (fun j d d' => Some1 i (B j) d d') 20 s s1 := by
  refine h.rel.mono (fun m d d' hm h1 => ?_) (by omega)
  by_cases hx : m < j
  · rw [if_pos hx] at h1
    obtain ⟨u1, rfl⟩ := h1
    exact .inr (.inl ⟨u1, by rw [hB]⟩)
  · rw [if_neg hx] at h1
    exact .inl h1

set_option maxHeartbeats 3200000 in
theorem Put_anyL (t : Int) (ht : 0 ≤ t ∧ t < s.N) (A : Option Addr) (KC c : Nat) (L : List Sl) (hKC : (KC : Int) = (s.M : Int) - 1) (hL : Ln w A KC L) (hF : Fits L s.b) (hO : ∀ x ∈ L, ∀ a, x.A = some a → ¬ O a.block) (h : Arl w P O s l) (hu : s.u ≤ 700000) (hcalm : Calm s) (hl : 0 ≤ l ∧ l ≤ 1000) :
    Calls Tryz.prog 12 #[.pointer (some ⟨P.a, 0, none⟩), .int .i64 t, .slice A KC c] w fun e w' => PutL (s.at_ t) (spreadB t s.M (fun j => (L.getD j ⟨none, 0, 0, []⟩).l) (tab s.b.toNat (par L)) (s.M - 1)) l w P O s w' e := by
  have hmf : ∀ (fn : Fn) (first cap : Array Value) (w : World), (Instr.makeFunc fn first cap).run Tryz.prog w = .ok (.func fn first cap) w := fun _ _ _ _ => rfl
  obtain ⟨i0, hi, hz0, hz1, hz2⟩ := info_parts line_info
  have hM := h.many
  have hN := Lib.hid h.wf.n
  have HT := Lib.hid ht
  have HKK := Lib.hid hKC
  have HF := Lib.hid hF
  have HO := Lib.hid hO
  have b48 := Lib.hid h.wf.small.hb
  have t1 : decide (0 ≤ t ∧ t < s.N) = true := decide_eq_true ht
  have tF : decide (Fits L s.b) = true := decide_eq_true hF
  have tK : ((KC : Int) != (s.M : Int) - 1) = false := by simp [hKC]
  obtain ⟨W, hW⟩ : ∃ W, W = w.alloc (.cells #[.pointer (some ⟨P.a, 0, none⟩)] 40) := ⟨_, rfl⟩
  have bel : Below w.heap.size w W := by rw [hW]; exact (Below.refl _ _).alloc (Nat.le_refl _) _
  have BB := Lib.hid bel
  have HA := Lib.hid (show Arl W P O s l by rw [hW]; exact h.alloc _)
  have HL := Lib.hid (hL.below bel)
  have HL0 := Lib.hid hL
  have hbx : Box W w.heap.size P O := by rw [hW]; exact box_newL h
  have BX := Lib.hid hbx
  have OL := Lib.hid h.lt
  have d1 := hbx.1.cell 0
  rw [hW] at d1
  have HW := Lib.hid hW
  clear h hL hF hO ht hKC bel hbx hW
  go_enter Tryz.func12, Tryz.ntmps12
  go_wp2_with fail
  rw [← HW.out]
  refine (chunks_anyL HA.out).mono ?_
  rintro e W ⟨rfl, rfl⟩
  rw [← HW.out] at d1
  go_wp2_with fail
  refine (blocks_anyL A KC c L HA.out HL.out).mono ?_
  rintro e w2 ⟨rfl, hb⟩
  rw [tF]
  have A2 := Lib.hid (HA.out.up hb)
  have C2 := Lib.hid (BB.out.trans (hb.mono BB.out.size))
  have X2 := Lib.hid (show Box w2 w.heap.size P O from ⟨BX.out.1.below hb BX.out.1.lt, BX.out.2⟩)
  have Z2 := Lib.hid (show w.heap.size + 1 ≤ w2.heap.size by have := hb.size; have := BX.out.1.lt; omega)
  clear hb d1 tF tK
  have d1 := X2.out.1.cell 0
  obtain ⟨c0, c1, c2, c3, c4, c5⟩ := A2.out.shape
  go_wp2_with fail
  refine (all_call A2.out.wf w2).mono ?_
  rintro e w3 ⟨rfl, hb⟩
  have A3 := Lib.hid (A2.out.up hb)
  have C3 := Lib.hid (C2.out.trans (hb.mono C2.out.size))
  have X3 := Lib.hid (show Box w3 w.heap.size P O from ⟨X2.out.1.below hb X2.out.1.lt, X2.out.2⟩)
  have Z3 := Lib.hid (show w.heap.size + 1 ≤ w3.heap.size by have := hb.size; have := Z2.out; omega)
  clear hb d1 c0 c1 c2 c3 c4 c5
  go_wp2_with fail
  refine (inside_any t s.N w3).mono ?_
  rintro e w3 ⟨rfl, rfl⟩
  rw [t1]
  clear t1
  have d1 := X3.out.1.cell 0
  obtain ⟨c6, c7, c8⟩ := A3.out.cells
  clear c7 c8
  go_wp2_with (first
    | (at_make; refine wpList_make_full _ rfl (.tmp 37) (.tmp 37) 48 rfl w3.heap.size 55 i0 (.slice none 0 0) 1 Tryz.underlying48 hi hz0 hz1 .i64 .i64 s.M s.M s.M rfl rfl rfl rfl (by rw [hz2]; omega) (by unfold maxLen; omega) (Nat.le_refl _) ?_; intro w4 hown1 hg1; have RW := Lib.hid (made_lines hown1); have B4 := Lib.hid (show Below w3.heap.size w3 w4 from (Below.refl _ _).grown hg1 (Nat.le_refl _) (by simp)); clear hown1 hg1))
  obtain ⟨G, hG⟩ : ∃ G, G = w3.heap.size := ⟨_, rfl⟩
  obtain ⟨BP, hBP⟩ : ∃ BP, BP = w4.heap.size := ⟨_, rfl⟩
  have sz4 := B4.out.size
  have belV : Below w3.heap.size w3 (w4.alloc (.cells #[.slice (some ⟨w3.heap.size, 0, none⟩) s.M s.M] 48)) := B4.out.alloc sz4 _
  have CV := Lib.hid (C3.out.trans (belV.mono C3.out.size))
  have AV := Lib.hid (A3.out.up belV)
  have nsl : ∀ k, w.heap.size ≤ k → ¬ O k := fun k hk e => by have := OL.out k e; omega
  have Z3' := Z3.out
  have PV : Pt (w4.alloc (.cells #[.slice (some ⟨w3.heap.size, 0, none⟩) s.M s.M] 48)) P O w.heap.size w4.heap.size w3.heap.size s.M (fun _ => ⟨none, 0, 0, []⟩) :=
    ⟨⟨X3.out.1.below belV X3.out.1.lt, X3.out.2⟩, At.new _ 48 rfl, RW.out.alloc _, fun m hm => Has.nil _ _, ⟨nsl _ (by omega), nsl _ (by omega), by omega, by have := RW.out.lt; omega, fun m hm h0 => by simp at h0⟩⟩
  rw [← hG] at PV
  rw [← hBP] at PV
  rw [← hG] at CV AV
  have NS := Lib.hid nsl
  have GB := Lib.hid (show w.heap.size + 1 ≤ G ∧ G < BP by have := RW.out.lt; omega)
  rw [← hG, ← hBP]
  generalize w4.alloc (.cells #[.slice (some ⟨G, 0, none⟩) s.M s.M] 48) = V at *
  have PVH := Lib.hid PV
  clear PV RW B4 belV hG hBP sz4 Z3' nsl d1 c6 A2 A3 X2 X3 C2 C3 Z2 Z3 BB HA HL BX HW hi hz0 hz1 hz2
  obtain ⟨pm, hpm⟩ : ∃ pm : Nat, t % (s.M : Int) = (pm : Int) := ⟨(t % (s.M : Int)).toNat, by have := Int.emod_nonneg t (show (s.M : Int) ≠ 0 by omega); omega⟩
  have hpl : pm < s.M := by have := Int.emod_lt_of_pos t (show 0 < (s.M : Int) by omega); omega
  have HPM := Lib.hid hpm
  have HPL := Lib.hid hpl
  clear hpm hpl
  have LB := Lib.hid (show mx L = s.b.toNat by
    have hk := HL0.out.len
    refine mx_fits HF.out ?_ (fun x hx => (HL0.out.has x hx).1)
    have := HKK.out
    omega)
  have S0 : (fun w' : World => Below w.heap.size w w' ∧ Arl w' P O s l ∧ Pt w' P O w.heap.size BP G s.M (fun _ => ⟨none, 0, 0, []⟩)) V.drew := ⟨⟨CV.out.os, CV.out.tape, CV.out.output, CV.out.size, CV.out.block⟩, AV.out.drew, PVH.out.drew⟩
  refine wp_region_early (fun w' : World => Below w.heap.size w w' ∧ Arl w' P O s l ∧ Pt w' P O w.heap.size BP G s.M (fun _ => ⟨none, 0, 0, []⟩)) (fun j => decide (j ≠ 10)) (by kernel_rfl) ?_
  change wpEarly _ _ _ _ _ _ 11 (Array.replicate 11 false) _ V.drew
  refine early_take (i := 0) 39 (.slice (some ⟨G, 0, none⟩) s.M s.M) rfl rfl (by kernel_rfl) (by kernel_rfl) (by kernel_rfl) (by kernel_rfl) rfl (fun _ _ _ h => h) (fun w' hw' => by obtain ⟨hB, hA, hP⟩ := hw'; have k := hP.parts.cell 0; go_simp) S0 ?_
  simp only [Act.put, List.setIfInBounds_toArray, List.set_cons_zero, List.set_cons_succ]
  refine early_take (i := 1) 40 (.pointer (some ⟨P.a, 0, none⟩)) rfl rfl (by kernel_rfl) (by kernel_rfl) (by kernel_rfl) (by kernel_rfl) rfl (fun _ _ _ h => h) (fun w' hw' => by obtain ⟨hB, hA, hP⟩ := hw'; have k := hP.box.1.cell 0; go_simp) S0 ?_
  simp only [Act.put, List.setIfInBounds_toArray, List.set_cons_zero, List.set_cons_succ]
  refine early_take (i := 2) 41 (.pointer (some ⟨P.a, 0, none⟩)) rfl rfl (by kernel_rfl) (by kernel_rfl) (by kernel_rfl) (by kernel_rfl) rfl (fun _ _ _ h => h) (fun w' hw' => by go_simp) S0 ?_
  simp only [Act.put, List.setIfInBounds_toArray, List.set_cons_zero, List.set_cons_succ]
  refine early_take (i := 3) 42 (.pointer (some ⟨P.a, 0, none⟩)) rfl rfl (by kernel_rfl) (by kernel_rfl) (by kernel_rfl) (by kernel_rfl) rfl (fun _ _ _ h => h) (fun w' hw' => by go_simp) S0 ?_
  simp only [Act.put, List.setIfInBounds_toArray, List.set_cons_zero, List.set_cons_succ]
  refine early_take (i := 4) 43 (sv (s.M : Int) s.b s.g s.s s.n s.l) rfl rfl (by kernel_rfl) (by kernel_rfl) (by kernel_rfl) (by kernel_rfl) rfl (fun _ _ _ h => h) (fun w' hw' => exec_shape (x := .tmp 42) rfl rfl hw'.2.1.range) S0 ?_
  simp only [Act.put, List.setIfInBounds_toArray, List.set_cons_zero, List.set_cons_succ]
  refine early_take (i := 5) 44 (.int .i64 t) rfl rfl (by kernel_rfl) (by kernel_rfl) (by kernel_rfl) (by kernel_rfl) rfl (fun _ _ _ h => h) (fun w' hw' => by go_simp) S0 ?_
  simp only [Act.put, List.setIfInBounds_toArray, List.set_cons_zero, List.set_cons_succ]
  refine early_take (i := 7) 46 (.slice A KC c) rfl rfl (by kernel_rfl) (by kernel_rfl) (by kernel_rfl) (by kernel_rfl) rfl (fun _ _ _ h => h) (fun w' hw' => by go_simp) S0 ?_
  simp only [Act.put, List.setIfInBounds_toArray, List.set_cons_zero, List.set_cons_succ]
  refine early_only (i := 6) (by kernel_rfl) rfl (fun K hK => ?_)
  simp only [opWp, List.getElem?_toArray, List.getElem?_cons_succ, List.getElem?_cons_zero]
  go_simp
  go_at_call 36
  refine (parity_call AV.out.wf t (by have := HT.out; have := hN.out; omega) _).mono ?_
  rintro e w5 ⟨rfl, hb⟩
  rw [HPM.out]
  have S1 : (fun w' : World => Below w.heap.size w w' ∧ Arl w' P O s l ∧ Pt w' P O w.heap.size BP G s.M (fun _ => ⟨none, 0, 0, []⟩)) w5 := ⟨S0.1.trans (hb.mono S0.1.size), S0.2.1.up hb, S0.2.2.up hb⟩
  clear hb
  refine hK _ _ (fun _ => S1) ?_
  refine early_only (i := 8) (by kernel_rfl) rfl (fun K hK => ?_)
  simp only [opWp, List.getElem?_toArray, List.getElem?_cons_succ, List.getElem?_cons_zero]
  go_simp
  go_at_call 35
  refine (of_any A KC c L w5 (HL0.out.below S1.1)).mono ?_
  rintro e w6 ⟨rfl, hat, hb⟩
  have S2 : (fun w' : World => Below w.heap.size w w' ∧ Arl w' P O s l ∧ Pt w' P O w.heap.size BP G s.M (fun _ => ⟨none, 0, 0, []⟩)) w6 := ⟨S1.1.trans (hb.mono S1.1.size), S1.2.1.up hb, S1.2.2.up hb⟩
  have HX := Lib.hid (show Has w6 (some ⟨w5.heap.size, 0, none⟩) (mx L) (tab (mx L) (par L)) from Has.of_at hat)
  have ZX := Lib.hid (show G < w5.heap.size ∧ w.heap.size ≤ w5.heap.size by have := S1.2.2.row.lt; have := S1.1.size; omega)
  clear hat hb
  refine hK _ _ (fun _ => S2) ?_
  refine early_take (i := 9) 48 (.pointer (some ⟨G, pm, none⟩)) rfl rfl (by kernel_rfl) (by kernel_rfl) (by kernel_rfl) (by kernel_rfl) rfl (fun _ _ _ h => h) (fun w' hw' => by have hpl := HPL.out; go_simp) S2 ?_
  simp only [Act.put, List.setIfInBounds_toArray, List.set_cons_zero, List.set_cons_succ]
  refine early_only (i := 10) (by kernel_rfl) rfl (fun K hK => ?_)
  simp only [opWp, List.getElem?_toArray, List.getElem?_cons_succ, List.getElem?_cons_zero]
  have kc := S2.2.2.cell HPL.out
  have kf := S2.2.2.row.frozen pm
  go_simp
  have b7 := But.own w6 G pm (.slice (some ⟨w5.heap.size, 0, none⟩) (mx L) (mx L))
  have P7 := Lib.hid (show Pt (w6.setCell ⟨G, pm, none⟩ (.slice (some ⟨w5.heap.size, 0, none⟩) (mx L) (mx L))) P O w.heap.size BP G s.M (spread t s.M (fun j => L.getD j ⟨none, 0, 0, []⟩) ⟨some ⟨w5.heap.size, 0, none⟩, mx L, mx L, tab (mx L) (par L)⟩ 0) from (S2.2.2.set HPL.out ⟨some ⟨w5.heap.size, 0, none⟩, mx L, mx L, tab (mx L) (par L)⟩ HX.out (fun _ a ha => by injection ha with ha; subst ha; have := ZX.out; exact ⟨NS.out _ (by show w.heap.size ≤ w5.heap.size; omega), by show w5.heap.size ≠ G; omega⟩)).congr (q := spread t s.M (fun j => L.getD j ⟨none, 0, 0, []⟩) ⟨some ⟨w5.heap.size, 0, none⟩, mx L, mx L, tab (mx L) (par L)⟩ 0) (fun m hm => by
    unfold spread
    have e : (m = pm) ↔ ((m : Int) = t % (s.M : Int)) := by rw [HPM.out]; omega
    simp only [e]))
  have A7 := Lib.hid (S2.2.1.but b7 (fun k hk e => NS.out G (by have := GB.out; omega) (e ▸ hk)))
  have C7 := Lib.hid (show Below w.heap.size w (w6.setCell ⟨G, pm, none⟩ (.slice (some ⟨w5.heap.size, 0, none⟩) (mx L) (mx L))) from S2.1.trans (b7.below (fun k e => by have := GB.out; omega) S2.1.size))
  refine hK _ _ (fun h => absurd h (by decide)) ?_
  refine early_done (by kernel_rfl) ?_
  generalize hX : (⟨some ⟨w5.heap.size, 0, none⟩, mx L, mx L, tab (mx L) (par L)⟩ : Sl) = X at *
  have XL := Lib.hid (show X.l = tab s.b.toNat (par L) ∧ (X.n : Int) = s.b by rw [← hX, ← LB.out]; exact ⟨rfl, by show ((mx L : Nat) : Int) = s.b; have := LB.out; have := b48.out; omega⟩)
  generalize w6.setCell ⟨G, pm, none⟩ (.slice (some ⟨w5.heap.size, 0, none⟩) (mx L) (mx L)) = V7 at *
  clear S0 S1 S2 HX ZX kc kf b7 hX CV AV PVH
  have hk4 : KC ≤ 4 := by have := HKK.out; omega
  go_wp2_with fail
  go_loopw [51] (fun q wr => ∃ j : Nat, j ≤ KC ∧ q = .int .i64 (j : Int) ∧ Below w.heap.size w wr ∧ Arl wr P O s l ∧ Pt wr P O w.heap.size BP G s.M (spread t s.M (fun j => L.getD j ⟨none, 0, 0, []⟩) X j)) (fun q _ => KC - (RowKit.intOf q).toNat)
  case atStart => exact ⟨0, Nat.zero_le _, rfl, C7.out, A7.out, P7.out⟩
  case round =>
    obtain ⟨j, hj, rfl, k1, k2, k3⟩ := hrel
    have C8 := Lib.hid k1
    have A8 := Lib.hid k2
    have P8 := Lib.hid k3
    clear k1 k2 k3 C7 A7 P7
    by_cases hlt : j < KC
    · obtain ⟨hjl, b, off, rfl, hc, hh, hx⟩ := (HL0.out.below C8.out).one hlt
      have HH := Lib.hid hh
      have HE := Lib.hid (show L.getD j ⟨none, 0, 0, []⟩ = L[j] by rw [List.getD_eq_getElem?_getD, List.getElem?_eq_getElem hjl]; rfl)
      have HOJ := Lib.hid (HO.out _ (List.getElem_mem hjl))
      have HLT := Lib.hid (show ∀ a, (L[j]).A = some a → 0 < (L[j]).n → a.block < w.heap.size by
        intro a ha h0
        obtain ⟨bb, oo, e1, hlt2, _⟩ := (HL0.out.has _ (List.getElem_mem hjl)).2 h0
        rw [ha] at e1
        injection e1 with e1
        rw [e1]; exact hlt2)
      clear hh
      generalize L[j] = x at *
      obtain ⟨xA, xn, xc, xl⟩ := x
      simp only at hc hx
      go_wp2_with fail
      obtain ⟨mj, hmj⟩ : ∃ mj : Nat, (t + 1 + (j : Int)) % (s.M : Int) = (mj : Int) := ⟨((t + 1 + (j : Int)) % (s.M : Int)).toNat, by have := Int.emod_nonneg (t + 1 + (j : Int)) (show (s.M : Int) ≠ 0 by omega); omega⟩
      have HML := Lib.hid (show mj < s.M by have := Int.emod_lt_of_pos (t + 1 + (j : Int)) (show 0 < (s.M : Int) by omega); omega)
      have HMJ := Lib.hid hmj
      clear hmj hc
      have S0 : (fun w' : World => Below w.heap.size w w' ∧ Arl w' P O s l ∧ Pt w' P O w.heap.size BP G s.M (spread t s.M (fun j => L.getD j ⟨none, 0, 0, []⟩) X j)) wr.drew := ⟨⟨C8.out.os, C8.out.tape, C8.out.output, C8.out.size, C8.out.block⟩, A8.out.drew, P8.out.drew⟩
      refine wp_region_early (fun w' : World => Below w.heap.size w w' ∧ Arl w' P O s l ∧ Pt w' P O w.heap.size BP G s.M (spread t s.M (fun j => L.getD j ⟨none, 0, 0, []⟩) X j)) (fun j => decide (j ≠ 10)) (by kernel_rfl) ?_
      change wpEarly _ _ _ _ _ _ 11 (Array.replicate 11 false) _ wr.drew
      refine early_take (i := 0) 56 (.slice (some ⟨G, 0, none⟩) s.M s.M) rfl rfl (by kernel_rfl) (by kernel_rfl) (by kernel_rfl) (by kernel_rfl) rfl (fun _ _ _ h => h) (fun w' hw' => by obtain ⟨hB, hA, hP⟩ := hw'; have k := hP.parts.cell 0; go_simp) S0 ?_
      simp only [Act.put, List.setIfInBounds_toArray, List.set_cons_zero, List.set_cons_succ]
      refine early_take (i := 1) 57 (.pointer (some ⟨P.a, 0, none⟩)) rfl rfl (by kernel_rfl) (by kernel_rfl) (by kernel_rfl) (by kernel_rfl) rfl (fun _ _ _ h => h) (fun w' hw' => by obtain ⟨hB, hA, hP⟩ := hw'; have k := hP.box.1.cell 0; go_simp) S0 ?_
      simp only [Act.put, List.setIfInBounds_toArray, List.set_cons_zero, List.set_cons_succ]
      refine early_take (i := 2) 58 (.pointer (some ⟨P.a, 0, none⟩)) rfl rfl (by kernel_rfl) (by kernel_rfl) (by kernel_rfl) (by kernel_rfl) rfl (fun _ _ _ h => h) (fun w' hw' => by go_simp) S0 ?_
      simp only [Act.put, List.setIfInBounds_toArray, List.set_cons_zero, List.set_cons_succ]
      refine early_take (i := 3) 59 (.pointer (some ⟨P.a, 0, none⟩)) rfl rfl (by kernel_rfl) (by kernel_rfl) (by kernel_rfl) (by kernel_rfl) rfl (fun _ _ _ h => h) (fun w' hw' => by go_simp) S0 ?_
      simp only [Act.put, List.setIfInBounds_toArray, List.set_cons_zero, List.set_cons_succ]
      refine early_take (i := 4) 60 (sv (s.M : Int) s.b s.g s.s s.n s.l) rfl rfl (by kernel_rfl) (by kernel_rfl) (by kernel_rfl) (by kernel_rfl) rfl (fun _ _ _ h => h) (fun w' hw' => exec_shape (x := .tmp 59) rfl rfl hw'.2.1.range) S0 ?_
      simp only [Act.put, List.setIfInBounds_toArray, List.set_cons_zero, List.set_cons_succ]
      refine early_take (i := 5) 61 (.int .i64 t) rfl rfl (by kernel_rfl) (by kernel_rfl) (by kernel_rfl) (by kernel_rfl) rfl (fun _ _ _ h => h) (fun w' hw' => by go_simp) S0 ?_
      simp only [Act.put, List.setIfInBounds_toArray, List.set_cons_zero, List.set_cons_succ]
      refine early_take (i := 6) 62 (.int .i64 (j : Int)) rfl rfl (by kernel_rfl) (by kernel_rfl) (by kernel_rfl) (by kernel_rfl) rfl (fun _ _ _ h => h) (fun w' hw' => by go_simp) S0 ?_
      simp only [Act.put, List.setIfInBounds_toArray, List.set_cons_zero, List.set_cons_succ]
      refine early_take (i := 8) 64 (.slice xA xn xc) rfl rfl (by kernel_rfl) (by kernel_rfl) (by kernel_rfl) (by kernel_rfl) rfl (fun _ _ _ h => h) (fun w' hw' => by go_simp) S0 ?_
      simp only [Act.put, List.setIfInBounds_toArray, List.set_cons_zero, List.set_cons_succ]
      refine early_only (i := 7) (by kernel_rfl) rfl (fun K hK => ?_)
      simp only [opWp, List.getElem?_toArray, List.getElem?_cons_succ, List.getElem?_cons_zero]
      go_simp
      go_at_call 17
      refine (member_call A8.out.wf t (by have := HT.out; have := hN.out; omega) (j : Int) (by have := HKK.out; omega) _).mono ?_
      rintro e w9 ⟨rfl, hb⟩
      rw [HMJ.out]
      have S1 : (fun w' : World => Below w.heap.size w w' ∧ Arl w' P O s l ∧ Pt w' P O w.heap.size BP G s.M (spread t s.M (fun j => L.getD j ⟨none, 0, 0, []⟩) X j)) w9 := ⟨S0.1.trans (hb.mono S0.1.size), S0.2.1.up hb, S0.2.2.up hb⟩
      have H9 := Lib.hid (Has.below (w := wr.drew) HH.out hb)
      clear hb
      refine hK _ _ (fun _ => S1) ?_
      refine early_take (i := 9) 65 (.pointer (some ⟨G, mj, none⟩)) rfl rfl (by kernel_rfl) (by kernel_rfl) (by kernel_rfl) (by kernel_rfl) rfl (fun _ _ _ h => h) (fun w' hw' => by have hpl := HML.out; go_simp) S1 ?_
      simp only [Act.put, List.setIfInBounds_toArray, List.set_cons_zero, List.set_cons_succ]
      refine early_only (i := 10) (by kernel_rfl) rfl (fun K hK => ?_)
      simp only [opWp, List.getElem?_toArray, List.getElem?_cons_succ, List.getElem?_cons_zero]
      have kc := S1.2.2.cell HML.out
      have kf := S1.2.2.row.frozen mj
      go_simp
      have b7 := But.own w9 G mj (.slice xA xn xc)
      have P10 := Lib.hid (show Pt (w9.setCell ⟨G, mj, none⟩ (.slice xA xn xc)) P O w.heap.size BP G s.M (spread t s.M (fun j => L.getD j ⟨none, 0, 0, []⟩) X (j + 1)) from (S1.2.2.set HML.out ⟨xA, xn, xc, xl⟩ H9.out (fun h0 a ha => ⟨HOJ.out a ha, by have := HLT.out a ha h0; have := GB.out; omega⟩)).congr (fun m hm => by
        have e : (m = mj) ↔ ((m : Int) = (t + 1 + (j : Int)) % (s.M : Int)) := by rw [HMJ.out]; omega
        show _ = (if (m : Int) = (t + 1 + (j : Int)) % (s.M : Int) then L.getD j ⟨none, 0, 0, []⟩ else _)
        rw [HE.out]
        simp only [e]))
      have A10 := Lib.hid (S1.2.1.but b7 (fun k hk e => NS.out G (by have := GB.out; omega) (e ▸ hk)))
      have C10 := Lib.hid (show Below w.heap.size w (w9.setCell ⟨G, mj, none⟩ (.slice xA xn xc)) from S1.1.trans (b7.below (fun k e => by have := GB.out; omega) S1.1.size))
      refine hK _ _ (fun h => absurd h (by decide)) ?_
      refine early_done (by kernel_rfl) ?_
      generalize w9.setCell ⟨G, mj, none⟩ (.slice xA xn xc) = V10 at *
      clear S0 S1 kc kf b7
      go_wp2
      go_roundw
      case rel => exact ⟨j + 1, by omega, by go_num, C10.out, A10.out, P10.out⟩
      case measure => simp [RowKit.intOf]; omega
    · obtain rfl : j = KC := by omega
      have k1 := P8.out.box.1.cell 0
      obtain ⟨c0, c1, c2, c3, c4, c5⟩ := A8.out.shape
      go_wp2_with fail
      refine (at_call A8.out.wf t (by have := HT.out; have := hN.out; omega) wr).mono ?_
      rintro e w11 ⟨rfl, hb⟩
      have bel : Below w11.heap.size w11 (w11.alloc (.cells #[.int .i64 (s.at_ t)] 3)) := (Below.refl _ _).alloc (Nat.le_refl _) _
      have bel2 : Below wr.heap.size wr (w11.alloc (.cells #[.int .i64 (s.at_ t)] 3)) := hb.trans (bel.mono hb.size)
      have A12 := Lib.hid (A8.out.up bel2)
      have P12 := Lib.hid (P8.out.up bel2)
      have C12 := Lib.hid (C8.out.trans (bel2.mono C8.out.size))
      have sz12 : w.heap.size ≤ w11.heap.size := Nat.le_trans C8.out.size hb.size
      have Q12 := Lib.hid (show Ps (w11.alloc (.cells #[.int .i64 (s.at_ t)] 3)) P O w.heap.size BP w11.heap.size G s.M (spread t s.M (fun j => L.getD j ⟨none, 0, 0, []⟩) X j) (s.at_ t) from ⟨P12.out, At.new _ 3 rfl, NS.out _ sz12⟩)
      clear hb bel bel2 sz12 c0 c1 c2 c3 c4 c5 k1
      have k1 := P12.out.box.1.cell 0
      have IN := Lib.hid (at_in A12.out.wf HT.out)
      have HSP := Lib.hid (show ∀ m, m < s.M → (((spread t s.M (fun j => L.getD j ⟨none, 0, 0, []⟩) X (s.M - 1) m).n : Nat) : Int) = s.b from fun m hm => spread_all (by omega) _ _ (fun x => (x.n : Int) = s.b) (fun k hk => by
        have hkl : k < L.length := by rw [HL0.out.len]; have := HKK.out; omega
        rw [List.getD_eq_getElem?_getD, List.getElem?_eq_getElem hkl]
        exact HF.out _ (List.getElem_mem hkl)) XL.out.2 m hm)
      have HJ := Lib.hid (show j = s.M - 1 by have := HKK.out; omega)
      go_wp2_with fail
      refine (each_anyL 39 _ (fun k d u => d.put u (s.at_ t) (spread t s.M (fun j => L.getD j ⟨none, 0, 0, []⟩) X j k).l) (put_act (s.at_ t) (fun k => (spread t s.M (fun j => L.getD j ⟨none, 0, 0, []⟩) X j k).l)) (fun w' O' => Ps w' P O' w.heap.size BP w11.heap.size G s.M (spread t s.M (fun j => L.getD j ⟨none, 0, 0, []⟩) X j) (s.at_ t)) (fun m w' => enters69 m _ _ _ w') (fun _ _ _ _ hz hb hO => hz.frame hb hO)
        (fun m w' O' s' l' hm hs ha hz hu' hl' => by
          have hz2 : Ps w' P O' w.heap.size BP w11.heap.size G s'.M (spread t s.M (fun j => L.getD j ⟨none, 0, 0, []⟩) X j) (s.at_ t) := by rw [hs.M]; exact hz
          exact putOneL _ _ _ _ m _ (by rw [hs.M]; exact hm) (s.at_ t) (by rw [hs.S]; exact IN.out) (by rw [hs.b]; rw [HJ.out]; exact HSP.out m hm) ha hz2 hu' hl')
        A12.out Q12.out (by omega) hcalm hl).mono ?_
      have hB : ∀ m, (spread t s.M (fun j => L.getD j ⟨none, 0, 0, []⟩) X j m).l = spreadB t s.M (fun j => (L.getD j ⟨none, 0, 0, []⟩).l) (tab s.b.toNat (par L)) (s.M - 1) m := fun m => by rw [spread_l, XL.out.1, HJ.out]
      have HBB := Lib.hid hB
      have B12 := Lib.hid (show But O w (w11.alloc (.cells #[.int .i64 (s.at_ t)] 3)) from ⟨C12.out.os, C12.out.tape, C12.out.output, C12.out.size, fun k hk _ => C12.out.block k hk⟩)
      clear hB
      rintro e w13 (⟨s1, k1', k2', k3', k4'⟩ | ⟨s1, jj, k0', k1', k2', k3', k4'⟩)
      · obtain ⟨O1, q1, q2, q3⟩ := k2'
        have A13 := Lib.hid q1
        have O13 := Lib.hid (show ∀ k, O1 k → O k ∨ w.heap.size ≤ k from fun k hk => (q2 k hk).imp id (fun h => Nat.le_trans C12.out.size h))
        have B13 := Lib.hid (show But O w w13 from B12.out.trans q3 (fun k hk _ => hk))
        have Q13 := Lib.hid (Q12.out.frame q3 q2)
        have E13 := Lib.hid k3'
        have L13 := Lib.hid k1'
        have C13 := Lib.hid (k3'.calm hcalm)
        have M13 := Lib.hid k3'.rel.same.M
        clear q1 q2 q3 k1 k1' k3' k4'
        have k1 := Q13.out.1.box.1.cell 0
        go_wp2_with fail
        refine (Flush_anyL A13.out (by have := E13.out.rel.u.2; omega) C13.out (by have := L13.out; omega)).mono ?_
        rintro e w14 (⟨s2, k1', k2', k3', k4'⟩ | ⟨s2, jj, k0', k1', k2', k3', k4'⟩)
        · have R14 := Lib.hid (put_both HBB.out E13.out k3')
          have D14 := Lib.hid (k2'.trans O13.out B13.out)
          clear k1 k1' k2' k3' k4'
          go_wp2
          go_ret
          exact .done s2 _ D14.out R14.out
        · have R14 := Lib.hid (put_part HBB.out E13.out k3')
          have D14 := Lib.hid (k2'.trans O13.out B13.out)
          clear k0' k1 k1' k2' k3' k4'
          unfold out
          go_wp2
          exact ⟨rfl, .cut s2 D14.out R14.out⟩
      · have R13 := Lib.hid (put_some HBB.out k3')
        have D13 := Lib.hid (k2'.trans (fun _ h => .inl h) B12.out)
        clear k0' k1 k1' k2' k3' k4'
        unfold out
        go_wp2
        exact ⟨rfl, .cut s1 D13.out R13.out⟩
end
end Go.Proofs.YtapbphkhbhcdkaaGreat
