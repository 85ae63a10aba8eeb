/-
  TEXTS JOINED: OpsL, EachL.
-/
import Derived.Test.YtplmdmchkaacoaaGreatJ20
import Derived.Test.YtplmdmchkaacoaaGreatJ14
import Derived.Test.YtplmdmchkaacoaaGreatJ18

/-
  THE WALKS OF write AND OF THE CLOSURES OF Flush AND Put, UNDER A LIMIT.
-/
namespace Go.Proofs.YtplmdmchkaacoaaGreat
open Go.RowKit Go.Maps
set_option linter.unusedVariables false
set_option maxRecDepth 100000

section
variable {w w' : World} {P : Pl} {O : Nat → Prop} {s : AS} {l : Int}

theorem flushOneL (bx m : Nat) (hm : m < s.M) (h : Arl w P O s l) (hbx : Box w bx P O) (hu : s.u ≤ 900000) (hl : l ≤ 1000000) :
    Calls Tryz.prog 148 #[.int .i64 (m : Int), .pointer (some ⟨bx, 0, none⟩)] w fun e w' => (l ≠ 0 ∧ e = .returned (.int .i64 (err ((s.d m).op s.u).dead)) ∧ Dil w P O (s.turn m ((s.d m).fl s.u)) (less l) w') ∨ (l = 0 ∧ e = .panicked out ∧ Dil w P O s l w') := by
  have cb := hbx.1.cell 0
  obtain ⟨c6, c7, c8⟩ := h.cells
  have cr := h.row hm
  have hM := h.many
  have HA := Lib.hid h
  have hmeth := meth_flush
  clear h c7 c8
  go_enter Tryz.func148, Tryz.ntmps148
  go_wp2_with fail
  refine (dflushL m hm HA.out hu hl).mono ?_
  rintro e w' (⟨h0, rfl, k1⟩ | ⟨h0, rfl, rfl⟩)
  · go_wp2
    go_ret
    exact .inl ⟨h0, rfl, k1⟩
  · unfold out
    go_wp2
    exact ⟨rfl, .inr ⟨h0, rfl, O, HA.out, fun _ h => .inl h, But.refl _ _⟩⟩
set_option maxHeartbeats 1600000 in
theorem write_anyL (m : Nat) (hm : m < s.M) (i : Int) (hi : 0 ≤ i ∧ i < (s.S : Int)) (A : Option Addr) (n cap : Nat) (b : Bytes) (hn : (n : Int) = s.b) (hb : Has w A n b) (h : Arl w P O s l) (hu : s.u ≤ 900000) (hl : l ≤ 1000000) :
    Calls Tryz.prog 129 #[.pointer (some ⟨P.a, 0, none⟩), .int .i64 (m : Int), .int .i64 i, .slice A n cap] w fun e w' => (l ≠ 0 ∧ e = .returned (.int .i64 (err ((s.d m).op s.u).dead)) ∧ Dil w P O (s.turn m ((s.d m).put s.u i b)) (less l) w') ∨ (l = 0 ∧ e = .panicked out ∧ Dil w P O s l w') := by
  have HA := Lib.hid h
  have HB := Lib.hid hb
  have HN := Lib.hid hn
  have hM := h.many
  have hb48 := Lib.hid h.wf.small.hb
  have hmeth := meth_write
  clear h hb hn
  go_enter Tryz.func129, Tryz.ntmps129
  go_wp2_with fail
  have S0 : (fun w' : World => w'.cell? ⟨P.a, 6, none⟩ = some (.slice (some ⟨P.r, 0, none⟩) s.M P.c) ∧ w'.cell? ⟨P.r, m, none⟩ = some (dev (P.g m))) w.drew := ⟨HA.out.drew.cells.1, HA.out.drew.row hm⟩
  refine wp_region_early (fun w' : World => w'.cell? ⟨P.a, 6, none⟩ = some (.slice (some ⟨P.r, 0, none⟩) s.M P.c) ∧ w'.cell? ⟨P.r, m, none⟩ = some (dev (P.g m))) (fun _ => true) (by kernel_rfl) ?_
  change wpEarly _ _ _ _ _ _ 14 (Array.replicate 14 false) _ w.drew
  refine early_take (i := 0) 9 (.pointer (some ⟨P.a, 0, none⟩)) rfl rfl (by kernel_rfl) (by kernel_rfl) (by kernel_rfl) (by kernel_rfl) rfl (fun _ _ _ h => h) (fun w' hw' => by go_simp) S0 ?_
  simp only [Act.put, List.setIfInBounds_toArray, List.set_cons_zero, List.set_cons_succ]
  refine early_take (i := 1) 10 (.pointer (some ⟨P.a, 0, none⟩)) rfl rfl (by kernel_rfl) (by kernel_rfl) (by kernel_rfl) (by kernel_rfl) rfl (fun _ _ _ h => h) (fun w' hw' => by go_simp) S0 ?_
  simp only [Act.put, List.setIfInBounds_toArray, List.set_cons_zero, List.set_cons_succ]
  refine early_take (i := 2) 11 (.pointer (some ⟨P.a, 6, none⟩)) rfl rfl (by kernel_rfl) (by kernel_rfl) (by kernel_rfl) (by kernel_rfl) rfl (fun _ _ _ h => h) (fun w' hw' => by go_simp) S0 ?_
  simp only [Act.put, List.setIfInBounds_toArray, List.set_cons_zero, List.set_cons_succ]
  refine early_take (i := 3) 12 (.slice (some ⟨P.r, 0, none⟩) s.M P.c) rfl rfl (by kernel_rfl) (by kernel_rfl) (by kernel_rfl) (by kernel_rfl) rfl (fun _ _ _ h => h) (fun w' hw' => by obtain ⟨h6, hr⟩ := hw'; go_simp) S0 ?_
  simp only [Act.put, List.setIfInBounds_toArray, List.set_cons_zero, List.set_cons_succ]
  refine early_take (i := 4) 13 (.int .i64 (m : Int)) rfl rfl (by kernel_rfl) (by kernel_rfl) (by kernel_rfl) (by kernel_rfl) rfl (fun _ _ _ h => h) (fun w' hw' => by go_simp) S0 ?_
  simp only [Act.put, List.setIfInBounds_toArray, List.set_cons_zero, List.set_cons_succ]
  refine early_take (i := 5) 14 (.pointer (some ⟨P.r, m, none⟩)) rfl rfl (by kernel_rfl) (by kernel_rfl) (by kernel_rfl) (by kernel_rfl) rfl (fun _ _ _ h => h) (fun w' hw' => by go_simp) S0 ?_
  simp only [Act.put, List.setIfInBounds_toArray, List.set_cons_zero, List.set_cons_succ]
  refine early_take (i := 6) 15 (dev (P.g m)) rfl rfl (by kernel_rfl) (by kernel_rfl) (by kernel_rfl) (by kernel_rfl) rfl (fun _ _ _ h => h) (fun w' hw' => by obtain ⟨h6, hr⟩ := hw'; go_simp) S0 ?_
  simp only [Act.put, List.setIfInBounds_toArray, List.set_cons_zero, List.set_cons_succ]
  refine early_take (i := 7) 16 (.int .i64 i) rfl rfl (by kernel_rfl) (by kernel_rfl) (by kernel_rfl) (by kernel_rfl) rfl (fun _ _ _ h => h) (fun w' hw' => by go_simp) S0 ?_
  simp only [Act.put, List.setIfInBounds_toArray, List.set_cons_zero, List.set_cons_succ]
  refine early_take (i := 8) 17 (.slice A n cap) rfl rfl (by kernel_rfl) (by kernel_rfl) (by kernel_rfl) (by kernel_rfl) rfl (fun _ _ _ h => h) (fun w' hw' => by go_simp) S0 ?_
  simp only [Act.put, List.setIfInBounds_toArray, List.set_cons_zero, List.set_cons_succ]
  refine early_take (i := 10) 19 (dev (P.g m)) rfl rfl (by kernel_rfl) (by kernel_rfl) (by kernel_rfl) (by kernel_rfl) rfl (fun _ _ _ h => h) (fun w' hw' => by go_simp) S0 ?_
  simp only [Act.put, List.setIfInBounds_toArray, List.set_cons_zero, List.set_cons_succ]
  refine early_take (i := 11) 20 (dev (P.g m)) rfl rfl (by kernel_rfl) (by kernel_rfl) (by kernel_rfl) (by kernel_rfl) rfl (fun _ _ _ h => h) (fun w' hw' => by go_simp) S0 ?_
  simp only [Act.put, List.setIfInBounds_toArray, List.set_cons_zero, List.set_cons_succ]
  refine early_only (i := 9) (by kernel_rfl) rfl (fun K hK => ?_)
  simp only [opWp, List.getElem?_toArray, List.getElem?_cons_succ, List.getElem?_cons_zero]
  go_simp
  go_at_call 113
  refine (clone_any A n cap b _ (by have := HN.out; have := hb48.out; omega) (HB.out.drewN 1)).mono ?_
  rintro e w2 ⟨v, rfl, hv, hb⟩
  have H2 := Lib.hid (HA.out.drew.up hb)
  have B2 := Lib.hid (But.of_drewN 1 (But.of_below (S := fun _ => False) hb))
  obtain ⟨A2, cap2, rfl, hh, _, hA⟩ := own_form hv
  have HH := Lib.hid hh
  have HQ := Lib.hid hA
  clear hv hb hh hA
  have S2 : (fun w' : World => w'.cell? ⟨P.a, 6, none⟩ = some (.slice (some ⟨P.r, 0, none⟩) s.M P.c) ∧ w'.cell? ⟨P.r, m, none⟩ = some (dev (P.g m))) w2 := ⟨H2.out.cells.1, H2.out.row hm⟩
  refine hK _ _ (fun _ => S2) ?_
  refine early_only (i := 12) (by kernel_rfl) rfl (fun K hK => ?_)
  simp only [opWp, List.getElem?_toArray, List.getElem?_cons_succ, List.getElem?_cons_zero]
  go_simp
  go_at_call 182
  refine (dwriteL m hm i hi A2 n cap2 b HN.out HH.out (fun x hx e => by have h1 := (HQ.out x hx).1; have h2 := HA.out.lt _ e; simp at h1; omega) H2.out hu hl).mono ?_
  rintro e w3 (⟨h0, rfl, hD⟩ | ⟨h0, rfl, rfl⟩)
  · have D3 := Lib.hid hD
    obtain ⟨O3, k1, k2, k3⟩ := hD
    have S3 : (fun w' : World => w'.cell? ⟨P.a, 6, none⟩ = some (.slice (some ⟨P.r, 0, none⟩) s.M P.c) ∧ w'.cell? ⟨P.r, m, none⟩ = some (dev (P.g m))) w3 := ⟨k1.cells.1, k1.row hm⟩
    clear k1 k2 k3
    refine hK _ _ (fun _ => S3) ?_
    refine early_take (i := 13) 8 (.int .i64 (err ((s.d m).op s.u).dead)) rfl rfl (by kernel_rfl) (by kernel_rfl) (by kernel_rfl) (by kernel_rfl) rfl (fun _ _ _ h => h) (fun w' hw' => by go_simp) S3 ?_
    simp only [Act.put, List.setIfInBounds_toArray, List.set_cons_zero, List.set_cons_succ]
    refine early_done (by kernel_rfl) ?_
    go_wp2
    go_ret
    first | exact .inl ⟨h0, rfl, D3.out.trans (O := O) (fun _ h => .inl h) (B2.out.mono (fun _ h _ => h.elim))⟩ | exact ⟨rfl, D3.out.trans (O := O) (fun _ h => .inl h) (B2.out.mono (fun _ h _ => h.elim))⟩
  · unfold out
    go_wp2
    exact ⟨rfl, .inr ⟨h0, rfl, O, H2.out, fun _ h => .inl h, B2.out.mono (fun _ h _ => h.elim)⟩⟩

set_option maxHeartbeats 1600000 in
theorem putOneL (b1 bp bs g m : Nat) (p : Nat → Sl) (hm : m < s.M) (i : Int) (hi : 0 ≤ i ∧ i < (s.S : Int)) (hn : ((p m).n : Int) = s.b) (h : Arl w P O s l) (hz : Ps w P O b1 bp bs g s.M p i) (hu : s.u ≤ 900000) (hl : l ≤ 1000000) :
    Calls Tryz.prog 128 #[.int .i64 (m : Int), .pointer (some ⟨b1, 0, none⟩), .pointer (some ⟨bs, 0, none⟩), .pointer (some ⟨bp, 0, none⟩)] w fun e w' => (l ≠ 0 ∧ e = .returned (.int .i64 (err ((s.d m).op s.u).dead)) ∧ Dil w P O (s.turn m ((s.d m).put s.u i (p m).l)) (less l) w') ∨ (l = 0 ∧ e = .panicked out ∧ Dil w P O s l w') := by
  have d1 : w.drew.cell? ⟨b1, 0, none⟩ = _ := hz.1.box.1.cell 0
  have d2 : w.drew.cell? ⟨bs, 0, none⟩ = _ := hz.2.1.cell 0
  have d3 : w.drew.cell? ⟨bp, 0, none⟩ = _ := hz.1.parts.cell 0
  have d4 : w.drew.cell? ⟨g, m, none⟩ = _ := hz.1.cell hm
  have HA := Lib.hid h
  have HZ := Lib.hid hz
  have HH := Lib.hid (hz.1.has m hm)
  have HN := Lib.hid hn
  have HI := Lib.hid hi
  have hM := h.many
  clear h hz hn hi
  go_enter Tryz.func128, Tryz.ntmps128
  go_wp2_with fail
  have S0 : (fun w' : World => w'.cell? ⟨b1, 0, none⟩ = some (.pointer (some ⟨P.a, 0, none⟩)) ∧ w'.cell? ⟨bs, 0, none⟩ = some (.int .i64 i) ∧ w'.cell? ⟨bp, 0, none⟩ = some (.slice (some ⟨g, 0, none⟩) s.M s.M) ∧ w'.cell? ⟨g, m, none⟩ = some (.slice (p m).A (p m).n (p m).c)) w.drew := ⟨d1, d2, d3, d4⟩
  refine wp_region_early (fun w' : World => w'.cell? ⟨b1, 0, none⟩ = some (.pointer (some ⟨P.a, 0, none⟩)) ∧ w'.cell? ⟨bs, 0, none⟩ = some (.int .i64 i) ∧ w'.cell? ⟨bp, 0, none⟩ = some (.slice (some ⟨g, 0, none⟩) s.M s.M) ∧ w'.cell? ⟨g, m, none⟩ = some (.slice (p m).A (p m).n (p m).c)) (fun _ => true) (by kernel_rfl) ?_
  change wpEarly _ _ _ _ _ _ 9 (Array.replicate 9 false) _ w.drew
  refine early_take (i := 0) 6 (.pointer (some ⟨P.a, 0, none⟩)) rfl rfl (by kernel_rfl) (by kernel_rfl) (by kernel_rfl) (by kernel_rfl) rfl (fun _ _ _ h => h) (fun w' hw' => by obtain ⟨k1, k2, k3, k4⟩ := hw'; go_simp) S0 ?_
  simp only [Act.put, List.setIfInBounds_toArray, List.set_cons_zero, List.set_cons_succ]
  refine early_take (i := 1) 7 (.int .i64 (m : Int)) rfl rfl (by kernel_rfl) (by kernel_rfl) (by kernel_rfl) (by kernel_rfl) rfl (fun _ _ _ h => h) (fun w' hw' => by go_simp) S0 ?_
  simp only [Act.put, List.setIfInBounds_toArray, List.set_cons_zero, List.set_cons_succ]
  refine early_take (i := 2) 8 (.int .i64 i) rfl rfl (by kernel_rfl) (by kernel_rfl) (by kernel_rfl) (by kernel_rfl) rfl (fun _ _ _ h => h) (fun w' hw' => by obtain ⟨k1, k2, k3, k4⟩ := hw'; go_simp) S0 ?_
  simp only [Act.put, List.setIfInBounds_toArray, List.set_cons_zero, List.set_cons_succ]
  refine early_take (i := 3) 9 (.slice (some ⟨g, 0, none⟩) s.M s.M) rfl rfl (by kernel_rfl) (by kernel_rfl) (by kernel_rfl) (by kernel_rfl) rfl (fun _ _ _ h => h) (fun w' hw' => by obtain ⟨k1, k2, k3, k4⟩ := hw'; go_simp) S0 ?_
  simp only [Act.put, List.setIfInBounds_toArray, List.set_cons_zero, List.set_cons_succ]
  refine early_take (i := 4) 10 (.int .i64 (m : Int)) rfl rfl (by kernel_rfl) (by kernel_rfl) (by kernel_rfl) (by kernel_rfl) rfl (fun _ _ _ h => h) (fun w' hw' => by go_simp) S0 ?_
  simp only [Act.put, List.setIfInBounds_toArray, List.set_cons_zero, List.set_cons_succ]
  refine early_take (i := 5) 11 (.pointer (some ⟨g, m, none⟩)) rfl rfl (by kernel_rfl) (by kernel_rfl) (by kernel_rfl) (by kernel_rfl) rfl (fun _ _ _ h => h) (fun w' hw' => by go_simp) S0 ?_
  simp only [Act.put, List.setIfInBounds_toArray, List.set_cons_zero, List.set_cons_succ]
  refine early_take (i := 6) 12 (.slice (p m).A (p m).n (p m).c) rfl rfl (by kernel_rfl) (by kernel_rfl) (by kernel_rfl) (by kernel_rfl) rfl (fun _ _ _ h => h) (fun w' hw' => by obtain ⟨k1, k2, k3, k4⟩ := hw'; go_simp) S0 ?_
  simp only [Act.put, List.setIfInBounds_toArray, List.set_cons_zero, List.set_cons_succ]
  refine early_only (i := 7) (by kernel_rfl) rfl (fun K hK => ?_)
  simp only [opWp, List.getElem?_toArray, List.getElem?_cons_succ, List.getElem?_cons_zero]
  go_simp
  go_at_call 129
  refine (write_anyL m hm i HI.out (p m).A (p m).n (p m).c (p m).l HN.out (HH.out.drewN 1) HA.out.drew hu hl).mono ?_
  rintro e w3 (⟨h0, rfl, hD⟩ | ⟨h0, rfl, hD⟩)
  · have D3 := Lib.hid hD
    clear hD
    refine hK _ _ (fun _ => ?_) ?_
    · obtain ⟨O3, q1, q2, q3⟩ := D3.out
      have z3 := HZ.out.frame (But.of_drewN 1 q3) q2
      exact ⟨z3.1.box.1.cell 0, z3.2.1.cell 0, z3.1.parts.cell 0, z3.1.cell hm⟩
    obtain ⟨O3, q1, q2, q3⟩ := D3.out
    have z3 := HZ.out.frame (But.of_drewN 1 q3) q2
    have S3 : (fun w' : World => w'.cell? ⟨b1, 0, none⟩ = some (.pointer (some ⟨P.a, 0, none⟩)) ∧ w'.cell? ⟨bs, 0, none⟩ = some (.int .i64 i) ∧ w'.cell? ⟨bp, 0, none⟩ = some (.slice (some ⟨g, 0, none⟩) s.M s.M) ∧ w'.cell? ⟨g, m, none⟩ = some (.slice (p m).A (p m).n (p m).c)) w3 := ⟨z3.1.box.1.cell 0, z3.2.1.cell 0, z3.1.parts.cell 0, z3.1.cell hm⟩
    refine early_take (i := 8) 5 (.int .i64 (err ((s.d m).op s.u).dead)) rfl rfl (by kernel_rfl) (by kernel_rfl) (by kernel_rfl) (by kernel_rfl) rfl (fun _ _ _ h => h) (fun w' hw' => by go_simp) S3 ?_
    simp only [Act.put, List.setIfInBounds_toArray, List.set_cons_zero, List.set_cons_succ]
    refine early_done (by kernel_rfl) ?_
    clear S0 S3 z3
    go_wp2
    go_ret
    first | exact .inl ⟨h0, rfl, O3, q1, q2, But.of_drewN 1 q3⟩ | exact ⟨rfl, O3, q1, q2, But.of_drewN 1 q3⟩
  · obtain ⟨O3, q1, q2, q3⟩ := hD
    unfold out
    go_wp2
    exact ⟨rfl, .inr ⟨h0, rfl, O3, q1, q2, But.of_drewN 1 q3⟩⟩

end
end Go.Proofs.YtplmdmchkaacoaaGreat

/-
  THE WALKS OF each AND OF Flush, UNDER A LIMIT, WHEN NOTHING FAILS.
-/
namespace Go.Proofs.YtplmdmchkaacoaaGreat
open Go.RowKit Go.Maps
set_option linter.unusedVariables false
set_option maxRecDepth 100000

section
variable {w w' : World} {P : Pl} {O : Nat → Prop} {s : AS} {l : Int}
theorem Arl.range (h : Arl w P O s l) : w.rangeAt P.a 0 s.sh := by
  obtain ⟨c0, c1, c2, c3, c4, c5⟩ := h.shape
  intro j v hv
  rw [Nat.zero_add]
  match j, hv with
  | 0, hv => rw [c0]; simpa [AS.sh] using hv
  | 1, hv => rw [c1]; simpa [AS.sh] using hv
  | 2, hv => rw [c2]; simpa [AS.sh] using hv
  | 3, hv => rw [c3]; simpa [AS.sh] using hv
  | 4, hv => rw [c4]; simpa [AS.sh] using hv
  | 5, hv => rw [c5]; simpa [AS.sh] using hv
theorem Arl.load (h : Arl w P O s l) : (Instr.loadAt 27 (.pointer (some ⟨P.a, 0, none⟩))).run Tryz.prog w = .ok (sv (s.M : Int) s.b s.g s.s s.n s.l) w :=
  run_loadAt_mid w P.a 0 27 s.sh _ h.range Tryz.underlying27 rfl shape_size
theorem box_newL (h : Arl w P O s l) : Box (w.alloc (.cells #[.pointer (some ⟨P.a, 0, none⟩)] 41)) w.heap.size P O := ⟨At.new _ 41 rfl, fun e => by have := h.lt _ e; omega⟩

/-- What each comes to under a limit, when nothing fails: all is done, or the power went at the j-th. -/
inductive EachL (f : Nat → DS → Int → DS) (l : Int) (w : World) (P : Pl) (O : Nat → Prop) (s : AS) (w' : World) : Ending → Prop
  | done (s' : AS) (hl : (s.M : Int) ≤ l) (hD : Dil w P O s' (l - (s.M : Int)) w') (hE : EachTo f s.M s s') (hu : s'.u = s.u + (s.M : Int)) : EachL f l w P O s w' (.returned (.int .i64 0))
  | cut (s' : AS) (j : Nat) (hj : j < s.M) (hl : l = (j : Int)) (hD : Dil w P O s' 0 w') (hE : EachTo f j s s') (hu : s'.u = s.u + (j : Int)) : EachL f l w P O s w' (.panicked out)

theorem EachTo.calm {f : Nat → DS → Int → DS} {j : Nat} {s s' : AS} (h : EachTo f j s s') (c : Calm s) : Calm s' := c.rel h.rel

set_option maxHeartbeats 1600000 in
theorem each_anyL (K : Nat) (cap : Array Value) (f : Nat → DS → Int → DS) (F : Act1 f) (Z : World → (Nat → Prop) → Prop)
    (hK : ∀ (m : Nat) w, (callFunc K (#[.int .i64 (m : Int)] ++ cap)).run Tryz.prog w = .ok (.enter K (#[.int .i64 (m : Int)] ++ cap)) w)
    (hZ : ∀ w w' O O', Z w O → But O w w' → (∀ k, O' k → O k ∨ w.heap.size ≤ k) → Z w' O')
    (hc : ∀ (m : Nat) w O s' l, m < s.M → Same s s' → Arl w P O s' l → Z w O → s'.u ≤ 900000 → l ≤ 1000000 → Calls Tryz.prog K (#[.int .i64 (m : Int)] ++ cap) w fun e w' => (l ≠ 0 ∧ e = .returned (.int .i64 (err ((s'.d m).op s'.u).dead)) ∧ Dil w P O (s'.turn m (f m (s'.d m) s'.u)) (less l) w') ∨ (l = 0 ∧ e = .panicked out ∧ Dil w P O s' l w'))
    (h : Arl w P O s l) (hz : Z w O) (hu : s.u ≤ 800000) (hcalm : Calm s) (hl : 0 ≤ l ∧ l ≤ 1000) :
    Calls Tryz.prog 127 #[.pointer (some ⟨P.a, 0, none⟩), .func (.func K) #[] cap] w fun e w' => EachL f l w P O s w' e := by
  have HA := Lib.hid h
  have HZ := Lib.hid hz
  obtain ⟨c6, c7, c8⟩ := h.cells
  have hM := h.many
  have HC := Lib.hid hcalm
  have hbr := hcalm.whole
  have HL := Lib.hid hl
  clear h hz c7 hcalm hl
  go_enter Tryz.func127, Tryz.ntmps127
  rw [hbr] at c8
  have BR := Lib.hid hbr
  clear hbr
  go_wp2_with fail
  go_loopw [16] (fun i wr => ∃ j : Nat, j ≤ s.M ∧ i = .int .i64 (j : Int) ∧ (j : Int) ≤ l ∧ ∃ O' s', Arl wr P O' s' (l - (j : Int)) ∧ (∀ k, O' k → O k ∨ w.heap.size ≤ k) ∧ But O w wr ∧ Z wr O' ∧ EachTo f j s s' ∧ s'.u = s.u + (j : Int)) (fun i _ => s.M - (RowKit.intOf i).toNat)
  case atStart => exact ⟨0, Nat.zero_le _, rfl, HL.out.1, O, s, by simpa using HA.out, fun _ h => .inl h, But.refl _ _, HZ.out, EachTo.start BR.out, by simp⟩
  case round =>
    obtain ⟨j, hj, rfl, kl, O', s', k1, k2, k3, k4, k5, k6⟩ := hrel
    have A1 := Lib.hid k1
    have O1 := Lib.hid k2
    have B1 := Lib.hid k3
    have Z1 := Lib.hid k4
    have E1 := Lib.hid k5
    have U1 := Lib.hid k6
    have L1 := Lib.hid kl
    clear k1 k2 k3 k4 k5 k6 kl c6 c8
    by_cases hlt : j < s.M
    · have US := Lib.hid (show s'.u ≤ 800010 by have := E1.out.rel.u.2; omega)
      go_wp2_with fail
      refine (hc j wr O' s' (l - (j : Int)) hlt E1.out.rel.same A1.out Z1.out (by have := US.out; omega) (by have := HL.out; omega)).mono ?_
      rintro e w2 (⟨h0, rfl, O2, a2, o2, b2⟩ | ⟨h0, rfl, O2, a2, o2, b2⟩)
      · have l0 : 0 < l - (j : Int) := by have := L1.out; omega
        have e2 : less (l - (j : Int)) = l - ((j + 1 : Nat) : Int) := by unfold less; rw [if_pos l0]; omega
        rw [e2] at a2
        have LJ := Lib.hid (show ((j + 1 : Nat) : Int) ≤ l by omega)
        have A2 := Lib.hid a2
        have O3 := Lib.hid (show ∀ k, O2 k → O k ∨ w.heap.size ≤ k from fun k hk => (o2 k hk).elim (O1.out k) (fun h => .inr (Nat.le_trans B1.out.size h)))
        have B2 := Lib.hid (show But O w w2 from B1.out.trans b2 (fun k hk hlt => (O1.out k hk).elim id (fun h => by omega)))
        have Z2 := Lib.hid (hZ _ _ _ O2 Z1.out b2 o2)
        clear a2 o2 b2 h0 l0 e2
        have hfd := F.dead j (s'.d j) s'.u
        have hlv : Live (s'.d j) := (E1.out.calm HC.out).live (by rw [E1.out.rel.same.M]; exact hlt)
        have hdd : ((s'.d j).op s'.u).dead = false := by rw [(Aged.op (s'.d j) s'.u).live hlv]; exact hlv.1
        rw [hdd] at hfd
        have E2 := Lib.hid (E1.out.ok F hlt hfd)
        have U2 := Lib.hid (show (s'.turn j (f j (s'.d j) s'.u)).u = s.u + ((j + 1 : Nat) : Int) by show s'.u + 1 = _; have := U1.out; omega)
        rw [hdd]
        clear hdd hfd hlv
        unfold err
        simp only [Bool.false_eq_true, if_false]
        go_wp2
        go_roundw
        case rel => exact ⟨j + 1, by omega, by go_num, LJ.out, O2, _, A2.out, O3.out, B2.out, Z2.out, E2.out, U2.out⟩
        case measure => simp [RowKit.intOf]; omega
      · have D2 : Dil w P O s' 0 w2 := Dil.trans O1.out B1.out ⟨O2, by rw [← h0]; exact a2, o2, b2⟩
        have R2 := Lib.hid (EachL.cut (f := f) (l := l) s' j hlt (by omega) D2 E1.out U1.out)
        clear h0 a2 o2 b2 D2
        unfold out
        go_wp2
        exact ⟨rfl, R2.out⟩
    · obtain rfl : j = s.M := by omega
      go_wp2
      go_ret
      exact .done s' L1.out ⟨O', A1.out, O1.out, B1.out⟩ E1.out U1.out

theorem Flush_anyL (h : Arl w P O s l) (hu : s.u ≤ 800000) (hcalm : Calm s) (hl : 0 ≤ l ∧ l ≤ 1000) : Calls Tryz.prog 130 #[.pointer (some ⟨P.a, 0, none⟩)] w fun e w' => EachL (fun _ d u => d.fl u) l w P O s w' e := by
  have HA := Lib.hid (h.alloc (.cells #[.pointer (some ⟨P.a, 0, none⟩)] 41))
  have HB := Lib.hid (box_newL h)
  have B1 := Lib.hid ((But.refl O w).alloc (.cells #[.pointer (some ⟨P.a, 0, none⟩)] 41))
  have hmf : ∀ (fn : Fn) (first cap : Array Value) (w : World), (Instr.makeFunc fn first cap).run Tryz.prog w = .ok (.func fn first cap) w := fun _ _ _ _ => rfl
  clear h
  go_enter Tryz.func130, Tryz.ntmps130
  go_wp2_with fail
  refine (each_anyL 148 #[.pointer (some ⟨w.heap.size, 0, none⟩)] (fun _ d u => d.fl u) flush_act (fun w O => Box w _ P O) (fun m w => enters52 m _ w) (fun _ _ _ _ hz hb hO => hz.frame hb hO) (fun m w O s' l' hm hs ha hz hu hl => flushOneL _ m (by rw [hs.M]; exact hm) ha hz hu hl) HA.out HB.out hu hcalm hl).mono ?_
  rintro e w2 (⟨s', k1, k2, k3, k4⟩ | ⟨s', j, k0, k1, k2, k3, k4⟩)
  · have R2 := Lib.hid (EachL.done (f := fun _ d u => d.fl u) (l := l) s' k1 (k2.trans (fun _ h => .inl h) B1.out) k3 k4)
    clear k1 k2 k3 k4
    go_wp2
    go_ret
    exact R2.out
  · have R2 := Lib.hid (EachL.cut (f := fun _ d u => d.fl u) (l := l) s' j k0 k1 (k2.trans (fun _ h => .inl h) B1.out) k3 k4)
    clear k0 k1 k2 k3 k4
    unfold out
    go_wp2
    exact ⟨rfl, R2.out⟩
end
end Go.Proofs.YtplmdmchkaacoaaGreat
