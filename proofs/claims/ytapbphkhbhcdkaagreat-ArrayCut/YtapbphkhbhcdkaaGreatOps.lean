/-
  THE WALKS OF read, write, mendable; AND OF THE CLOSURES OF Flush, PutSame, Put, restore.
-/
import Derived.Test.YtapbphkhbhcdkaaGreatDev
namespace Go.Proofs.YtapbphkhbhcdkaaGreat
open Go.RowKit Go.Maps
set_option linter.unusedVariables false
set_option maxRecDepth 100000

theorem Dk.len {w : World} {g p : Nat} {T : Nat → Prop} {s : DS} (h : Dk w g p T s) (i : Int) : (s.read i).length = s.size := by
  obtain ⟨bd, bw, bn, fd, fw, fn, h⟩ := h
  unfold DS.read DS.last
  rcases h.rowsWait i with ⟨_, e⟩ | ⟨A, cap, l, _, e, hh, _⟩
  · rw [e]
    rcases h.rowsOn i with ⟨_, e⟩ | ⟨A, cap, l, _, e, hh, _⟩
    · rw [e]; simp
    · rw [e]; exact hh.1
  · rw [e]; exact hh.1

section
variable {w w' : World} {P : Pl} {O : Nat → Prop} {s : AS}

theorem Arr.len (h : Arr w P O s) {m : Nat} (hm : m < s.M) (i : Int) : (((s.d m).read i).length : Int) = s.b := by
  obtain ⟨T, hY, hO⟩ := h
  rw [(hY.dk m hm).len i]
  exact (hY.wf.each m hm).2.1

/-- What reading a member comes to. -/
inductive ReadAs (w w' : World) (s s' : AS) (m : Nat) (i : Int) : Value → Int → Prop
  | got (v : Value) (hr : Rel (fun _ => Aged) 2 s s') (hs : s.stale ≠ (m : Int)) (he : s'.stale = s.stale) (hv : NewRow w w' v ((s.d m).read i)) (hl : (s'.d m).dead = false) : ReadAs w w' s s' m i v 0
  | lost (hr : Rel (fun _ => Aged) 2 s s') (hs : s'.stale = (m : Int)) : ReadAs w w' s s' m i (.slice none 0 0) 8
  | gone (hg : Gone 2 s s') : ReadAs w w' s s' m i (.slice none 0 0) 3

theorem rel_same (hb : s.broken = false) : Rel (fun _ => Aged) 2 s s := Rel.refl (fun _ _ => Aged.refl _) hb (by omega)

set_option maxHeartbeats 800000 in
theorem read_any (m : Nat) (hm : m < s.M) (i : Int) (hi : 0 ≤ i ∧ i < (s.S : Int)) (h : Arr w P O s) (hu : s.u ≤ 900000) :
    Calls Tryz.prog 45 #[.pointer (some ⟨P.a, 0, none⟩), .int .i64 (m : Int), .int .i64 i] w fun e w' => ∃ v er s', e = .returned (.tuple #[v, .int .i64 er]) ∧ Arr w' P O s' ∧ But O w w' ∧ ReadAs w w' s s' m i v er := by
  have HA := Lib.hid h
  obtain ⟨c6, c7, c8⟩ := h.cells
  have hmeth := meth_read
  have hM := h.many
  clear h c6 c7
  go_enter Tryz.func45, Tryz.ntmps45
  cases hbr : s.broken
  · rw [hbr] at c8
    have BR := Lib.hid hbr
    clear hbr
    go_wp2_with fail
    refine (stale_any HA.out).mono ?_
    rintro e w1 ⟨rfl, hb⟩
    have H1 := Lib.hid (HA.out.up hb)
    have B1 := Lib.hid (But.of_below (S := O) hb)
    clear hb c8
    by_cases h1 : (m : Int) = s.stale
    · have R := Lib.hid (rel_same BR.out)
      have E1 := Lib.hid h1
      go_wp2
      go_ret2
      exact ⟨_, _, s, rfl, H1.out, B1.out, .lost R.out E1.out.symm⟩
    · have E1 := Lib.hid h1
      have hne : ((m : Int) == s.stale) = false := by simpa using h1
      clear h1
      obtain ⟨c6, c7, c8⟩ := H1.out.cells
      have cr := H1.out.row hm
      clear c7 c8
      go_wp2_with fail
      refine (dread m hm i hi H1.out hu).mono ?_
      rintro e w2 ⟨v, rfl, hr, hk, hb⟩
      have R2 := Lib.hid hr
      have H2 := Lib.hid hk
      have B2 := Lib.hid (B1.out.trans hb (fun _ h _ => h))
      have Z1 := Lib.hid B1.out.size
      clear hr hk hb c6 cr
      cases hdd : ((s.d m).op s.u).dead
      · have R := Lib.hid (turn_rel (R := fun _ => Aged) BR.out hm (Aged.op (s.d m) s.u) (fun _ _ _ => Aged.refl _) hdd rfl)
        rw [DS.got_ok i hdd] at R2
        obtain ⟨A, cap, rfl, hh, _, _⟩ := own_form R2.out
        have HH := Lib.hid hh
        have LN := Lib.hid (H1.out.len hm i)
        have hb48 := Lib.hid H1.out.wf.small.hb
        have DL := Lib.hid (show ((s.turn m ((s.d m).op s.u)).d m).dead = false by rw [turn_d, if_pos rfl]; exact hdd)
        clear hh hdd
        unfold err
        simp only [Bool.false_eq_true, if_false]
        go_wp2_with fail
        refine (clone_any A _ cap _ w2 (by have := LN.out; have := hb48.out; omega) HH.out).mono ?_
        rintro e w3 ⟨v, rfl, hv, hb⟩
        have H3 := Lib.hid (H2.out.up hb)
        have B3 := Lib.hid (B2.out.trans (But.of_below (S := fun _ => False) hb) (fun _ h _ => h.elim))
        have V3 := Lib.hid hv
        clear hv hb
        go_wp2
        go_ret2
        refine ⟨_, _, _, rfl, H3.out, B3.out, .got _ (R.out.mono (fun _ _ _ _ h => h) (by omega)) (fun e => E1.out e.symm) rfl ?_ DL.out⟩
        exact own_base V3.out (fun k hk => Nat.le_trans B2.out.size (V3.out.lt k hk).1)
      · have R := Lib.hid (lose_rel (R := fun _ => Aged) BR.out hm (Aged.op (s.d m) s.u) (fun _ _ _ => Aged.refl _) hdd (Aged.op (s.d m) s.u).why)
        rw [DS.got_no i hdd] at R2
        clear hdd
        obtain ⟨A, cap, rfl, _⟩ := own_form R2.out
        unfold err
        simp only [if_true]
        go_wp2_with fail
        refine (lose_any (s := s.turn m ((s.d m).op s.u)) m hm H2.out (by show s.u + 1 ≤ 990000; omega)).mono ?_
        rintro e w3 ⟨rfl, k1, k2⟩
        have H3 := Lib.hid k1
        have B3 := Lib.hid (B2.out.trans k2 (fun _ h _ => h))
        clear k1 k2
        rcases R.out with ⟨e1, e2, e3⟩ | ⟨e1, e2⟩
        · rw [e1]
          have R3 := Lib.hid e2
          have S3 := Lib.hid e3
          clear e1 e2 e3
          go_wp2
          go_ret2
          exact ⟨_, _, _, rfl, H3.out, B3.out, .lost R3.out S3.out⟩
        · rw [e1]
          have R3 := Lib.hid e2
          clear e1 e2
          go_wp2
          go_ret2
          exact ⟨_, _, _, rfl, H3.out, B3.out, .gone R3.out⟩
  · rw [hbr] at c8
    have G := Lib.hid (Gone.found (c := 2) hbr (by omega))
    clear hbr
    go_wp2
    go_ret2
    exact ⟨_, _, s, rfl, HA.out, But.refl _ _, .gone G.out⟩

/-- A closure's box that holds the array. -/
def Box (w : World) (bx : Nat) (P : Pl) (O : Nat → Prop) : Prop := At w bx #[.pointer (some ⟨P.a, 0, none⟩)] 40 ∧ ¬ O bx
theorem flushOne (bx m : Nat) (hm : m < s.M) (h : Arr w P O s) (hbx : Box w bx P O) (hu : s.u ≤ 900000) :
    Calls Tryz.prog 59 #[.int .i64 (m : Int), .pointer (some ⟨bx, 0, none⟩)] w fun e w' => e = .returned (.int .i64 (err ((s.d m).op s.u).dead)) ∧ Did w P O (s.turn m ((s.d m).fl s.u)) w' := by
  have cb := hbx.1.cell 0
  obtain ⟨c6, c7, c8⟩ := h.cells
  have cr := h.row hm
  have hM := h.many
  have HA := Lib.hid h
  have hmeth := meth_flush
  clear h c7 c8
  go_enter Tryz.func59, Tryz.ntmps59
  go_wp2_with fail
  refine (dflush m hm HA.out hu).mono ?_
  rintro e w' ⟨rfl, k1, k2⟩
  go_wp2
  go_ret
  exact ⟨rfl, O, k1, fun _ h => .inl h, k2⟩
set_option maxHeartbeats 1600000 in
theorem write_any (m : Nat) (hm : m < s.M) (i : Int) (hi : 0 ≤ i ∧ i < (s.S : Int)) (A : Option Addr) (n cap : Nat) (b : Bytes) (hn : (n : Int) = s.b) (hb : Has w A n b) (h : Arr w P O s) (hu : s.u ≤ 900000) :
    Calls Tryz.prog 40 #[.pointer (some ⟨P.a, 0, none⟩), .int .i64 (m : Int), .int .i64 i, .slice A n cap] w fun e w' => e = .returned (.int .i64 (err ((s.d m).op s.u).dead)) ∧ Did w P O (s.turn m ((s.d m).put s.u i b)) w' := by
  have HA := Lib.hid h
  have HB := Lib.hid hb
  have HN := Lib.hid hn
  have hM := h.many
  have hb48 := Lib.hid h.wf.small.hb
  have hmeth := meth_write
  clear h hb hn
  go_enter Tryz.func40, Tryz.ntmps40
  go_wp2_with fail
  have S0 : (fun w' : World => w'.cell? ⟨P.a, 6, none⟩ = some (.slice (some ⟨P.r, 0, none⟩) s.M P.c) ∧ w'.cell? ⟨P.r, m, none⟩ = some (dev (P.g m))) w.drew := ⟨HA.out.drew.cells.1, HA.out.drew.row hm⟩
  refine wp_region_early (fun w' : World => w'.cell? ⟨P.a, 6, none⟩ = some (.slice (some ⟨P.r, 0, none⟩) s.M P.c) ∧ w'.cell? ⟨P.r, m, none⟩ = some (dev (P.g m))) (fun _ => true) (by kernel_rfl) ?_
  change wpEarly _ _ _ _ _ _ 14 (Array.replicate 14 false) _ w.drew
  refine early_take (i := 0) 9 (.pointer (some ⟨P.a, 0, none⟩)) rfl rfl (by kernel_rfl) (by kernel_rfl) (by kernel_rfl) (by kernel_rfl) rfl (fun _ _ _ h => h) (fun w' hw' => by go_simp) S0 ?_
  simp only [Act.put, List.setIfInBounds_toArray, List.set_cons_zero, List.set_cons_succ]
  refine early_take (i := 1) 10 (.pointer (some ⟨P.a, 0, none⟩)) rfl rfl (by kernel_rfl) (by kernel_rfl) (by kernel_rfl) (by kernel_rfl) rfl (fun _ _ _ h => h) (fun w' hw' => by go_simp) S0 ?_
  simp only [Act.put, List.setIfInBounds_toArray, List.set_cons_zero, List.set_cons_succ]
  refine early_take (i := 2) 11 (.pointer (some ⟨P.a, 6, none⟩)) rfl rfl (by kernel_rfl) (by kernel_rfl) (by kernel_rfl) (by kernel_rfl) rfl (fun _ _ _ h => h) (fun w' hw' => by go_simp) S0 ?_
  simp only [Act.put, List.setIfInBounds_toArray, List.set_cons_zero, List.set_cons_succ]
  refine early_take (i := 3) 12 (.slice (some ⟨P.r, 0, none⟩) s.M P.c) rfl rfl (by kernel_rfl) (by kernel_rfl) (by kernel_rfl) (by kernel_rfl) rfl (fun _ _ _ h => h) (fun w' hw' => by obtain ⟨h6, hr⟩ := hw'; go_simp) S0 ?_
  simp only [Act.put, List.setIfInBounds_toArray, List.set_cons_zero, List.set_cons_succ]
  refine early_take (i := 4) 13 (.int .i64 (m : Int)) rfl rfl (by kernel_rfl) (by kernel_rfl) (by kernel_rfl) (by kernel_rfl) rfl (fun _ _ _ h => h) (fun w' hw' => by go_simp) S0 ?_
  simp only [Act.put, List.setIfInBounds_toArray, List.set_cons_zero, List.set_cons_succ]
  refine early_take (i := 5) 14 (.pointer (some ⟨P.r, m, none⟩)) rfl rfl (by kernel_rfl) (by kernel_rfl) (by kernel_rfl) (by kernel_rfl) rfl (fun _ _ _ h => h) (fun w' hw' => by go_simp) S0 ?_
  simp only [Act.put, List.setIfInBounds_toArray, List.set_cons_zero, List.set_cons_succ]
  refine early_take (i := 6) 15 (dev (P.g m)) rfl rfl (by kernel_rfl) (by kernel_rfl) (by kernel_rfl) (by kernel_rfl) rfl (fun _ _ _ h => h) (fun w' hw' => by obtain ⟨h6, hr⟩ := hw'; go_simp) S0 ?_
  simp only [Act.put, List.setIfInBounds_toArray, List.set_cons_zero, List.set_cons_succ]
  refine early_take (i := 7) 16 (.int .i64 i) rfl rfl (by kernel_rfl) (by kernel_rfl) (by kernel_rfl) (by kernel_rfl) rfl (fun _ _ _ h => h) (fun w' hw' => by go_simp) S0 ?_
  simp only [Act.put, List.setIfInBounds_toArray, List.set_cons_zero, List.set_cons_succ]
  refine early_take (i := 8) 17 (.slice A n cap) rfl rfl (by kernel_rfl) (by kernel_rfl) (by kernel_rfl) (by kernel_rfl) rfl (fun _ _ _ h => h) (fun w' hw' => by go_simp) S0 ?_
  simp only [Act.put, List.setIfInBounds_toArray, List.set_cons_zero, List.set_cons_succ]
  refine early_take (i := 10) 19 (dev (P.g m)) rfl rfl (by kernel_rfl) (by kernel_rfl) (by kernel_rfl) (by kernel_rfl) rfl (fun _ _ _ h => h) (fun w' hw' => by go_simp) S0 ?_
  simp only [Act.put, List.setIfInBounds_toArray, List.set_cons_zero, List.set_cons_succ]
  refine early_take (i := 11) 20 (dev (P.g m)) rfl rfl (by kernel_rfl) (by kernel_rfl) (by kernel_rfl) (by kernel_rfl) rfl (fun _ _ _ h => h) (fun w' hw' => by go_simp) S0 ?_
  simp only [Act.put, List.setIfInBounds_toArray, List.set_cons_zero, List.set_cons_succ]
  refine early_only (i := 9) (by kernel_rfl) rfl (fun K hK => ?_)
  simp only [opWp, List.getElem?_toArray, List.getElem?_cons_succ, List.getElem?_cons_zero]
  go_simp
  go_at_call 58
  refine (clone_any A n cap b _ (by have := HN.out; have := hb48.out; omega) (HB.out.drewN 1)).mono ?_
  rintro e w2 ⟨v, rfl, hv, hb⟩
  have H2 := Lib.hid (HA.out.drew.up hb)
  have B2 := Lib.hid (But.of_drewN 1 (But.of_below (S := fun _ => False) hb))
  obtain ⟨A2, cap2, rfl, hh, _, hA⟩ := own_form hv
  have HH := Lib.hid hh
  have HQ := Lib.hid hA
  clear hv hb hh hA
  have S2 : (fun w' : World => w'.cell? ⟨P.a, 6, none⟩ = some (.slice (some ⟨P.r, 0, none⟩) s.M P.c) ∧ w'.cell? ⟨P.r, m, none⟩ = some (dev (P.g m))) w2 := ⟨H2.out.cells.1, H2.out.row hm⟩
  refine hK _ _ (fun _ => S2) ?_
  refine early_only (i := 12) (by kernel_rfl) rfl (fun K hK => ?_)
  simp only [opWp, List.getElem?_toArray, List.getElem?_cons_succ, List.getElem?_cons_zero]
  go_simp
  go_at_call 122
  refine (dwrite m hm i hi A2 n cap2 b HN.out HH.out (fun x hx e => by have h1 := (HQ.out x hx).1; have h2 := HA.out.lt _ e; simp at h1; omega) H2.out hu).mono ?_
  rintro e w3 ⟨rfl, hD⟩
  have D3 := Lib.hid hD
  obtain ⟨O3, k1, k2, k3⟩ := hD
  have S3 : (fun w' : World => w'.cell? ⟨P.a, 6, none⟩ = some (.slice (some ⟨P.r, 0, none⟩) s.M P.c) ∧ w'.cell? ⟨P.r, m, none⟩ = some (dev (P.g m))) w3 := ⟨k1.cells.1, k1.row hm⟩
  clear k1 k2 k3
  refine hK _ _ (fun _ => S3) ?_
  refine early_take (i := 13) 8 (.int .i64 (err ((s.d m).op s.u).dead)) rfl rfl (by kernel_rfl) (by kernel_rfl) (by kernel_rfl) (by kernel_rfl) rfl (fun _ _ _ h => h) (fun w' hw' => by go_simp) S3 ?_
  simp only [Act.put, List.setIfInBounds_toArray, List.set_cons_zero, List.set_cons_succ]
  refine early_done (by kernel_rfl) ?_
  go_wp2
  go_ret
  exact ⟨rfl, D3.out.trans (O := O) (fun _ h => .inl h) (B2.out.mono (fun _ h _ => h.elim))⟩

end
end Go.Proofs.YtapbphkhbhcdkaaGreat
