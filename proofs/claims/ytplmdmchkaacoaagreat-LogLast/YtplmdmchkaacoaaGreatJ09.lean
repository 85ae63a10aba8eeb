/-
  TEXTS JOINED: Ops, Each.
-/
import Derived.Test.YtplmdmchkaacoaaGreatJ08

/-
  THE WALKS OF read, write, mendable; AND OF THE CLOSURES OF Flush, PutSame, Put, restore.
-/
namespace Go.Proofs.YtplmdmchkaacoaaGreat
open Go.RowKit Go.Maps
set_option linter.unusedVariables false
set_option maxRecDepth 100000

theorem Dk.len {w : World} {g p : Nat} {T : Nat → Prop} {s : DS} (h : Dk w g p T s) (i : Int) : (s.read i).length = s.size := by
  obtain ⟨bd, bw, bn, fd, fw, fn, h⟩ := h
  unfold DS.read DS.last
  rcases h.rowsWait i with ⟨_, e⟩ | ⟨A, cap, l, _, e, hh, _⟩
  · rw [e]
    rcases h.rowsOn i with ⟨_, e⟩ | ⟨A, cap, l, _, e, hh, _⟩
    · rw [e]; simp
    · rw [e]; exact hh.1
  · rw [e]; exact hh.1

section
variable {w w' : World} {P : Pl} {O : Nat → Prop} {s : AS}

theorem Arr.len (h : Arr w P O s) {m : Nat} (hm : m < s.M) (i : Int) : (((s.d m).read i).length : Int) = s.b := by
  obtain ⟨T, hY, hO⟩ := h
  rw [(hY.dk m hm).len i]
  exact (hY.wf.each m hm).2.1

/-- What reading a member comes to. -/
inductive ReadAs (w w' : World) (s s' : AS) (m : Nat) (i : Int) : Value → Int → Prop
  | got (v : Value) (hr : Rel (fun _ => Aged) 2 s s') (hs : s.stale ≠ (m : Int)) (he : s'.stale = s.stale) (hv : NewRow w w' v ((s.d m).read i)) (hl : (s'.d m).dead = false) : ReadAs w w' s s' m i v 0
  | lost (hr : Rel (fun _ => Aged) 2 s s') (hs : s'.stale = (m : Int)) : ReadAs w w' s s' m i (.slice none 0 0) 8
  | gone (hg : Gone 2 s s') : ReadAs w w' s s' m i (.slice none 0 0) 3

theorem rel_same (hb : s.broken = false) : Rel (fun _ => Aged) 2 s s := Rel.refl (fun _ _ => Aged.refl _) hb (by omega)

set_option maxHeartbeats 800000 in
theorem read_any (m : Nat) (hm : m < s.M) (i : Int) (hi : 0 ≤ i ∧ i < (s.S : Int)) (h : Arr w P O s) (hu : s.u ≤ 900000) :
    Calls Tryz.prog 69 #[.pointer (some ⟨P.a, 0, none⟩), .int .i64 (m : Int), .int .i64 i] w fun e w' => ∃ v er s', e = .returned (.tuple #[v, .int .i64 er]) ∧ Arr w' P O s' ∧ But O w w' ∧ ReadAs w w' s s' m i v er := by
  have HA := Lib.hid h
  obtain ⟨c6, c7, c8⟩ := h.cells
  have hmeth := meth_read
  have hM := h.many
  clear h c6 c7
  go_enter Tryz.func69, Tryz.ntmps69
  cases hbr : s.broken
  · rw [hbr] at c8
    have BR := Lib.hid hbr
    clear hbr
    go_wp2_with fail
    refine (stale_any HA.out).mono ?_
    rintro e w1 ⟨rfl, hb⟩
    have H1 := Lib.hid (HA.out.up hb)
    have B1 := Lib.hid (But.of_below (S := O) hb)
    clear hb c8
    by_cases h1 : (m : Int) = s.stale
    · have R := Lib.hid (rel_same BR.out)
      have E1 := Lib.hid h1
      go_wp2
      go_ret2
      exact ⟨_, _, s, rfl, H1.out, B1.out, .lost R.out E1.out.symm⟩
    · have E1 := Lib.hid h1
      have hne : ((m : Int) == s.stale) = false := by simpa using h1
      clear h1
      obtain ⟨c6, c7, c8⟩ := H1.out.cells
      have cr := H1.out.row hm
      clear c7 c8
      go_wp2_with fail
      refine (dread m hm i hi H1.out hu).mono ?_
      rintro e w2 ⟨v, rfl, hr, hk, hb⟩
      have R2 := Lib.hid hr
      have H2 := Lib.hid hk
      have B2 := Lib.hid (B1.out.trans hb (fun _ h _ => h))
      have Z1 := Lib.hid B1.out.size
      clear hr hk hb c6 cr
      cases hdd : ((s.d m).op s.u).dead
      · have R := Lib.hid (turn_rel (R := fun _ => Aged) BR.out hm (Aged.op (s.d m) s.u) (fun _ _ _ => Aged.refl _) hdd rfl)
        rw [DS.got_ok i hdd] at R2
        obtain ⟨A, cap, rfl, hh, _, _⟩ := own_form R2.out
        have HH := Lib.hid hh
        have LN := Lib.hid (H1.out.len hm i)
        have hb48 := Lib.hid H1.out.wf.small.hb
        have DL := Lib.hid (show ((s.turn m ((s.d m).op s.u)).d m).dead = false by rw [turn_d, if_pos rfl]; exact hdd)
        clear hh hdd
        unfold err
        simp only [Bool.false_eq_true, if_false]
        go_wp2_with fail
        refine (clone_any A _ cap _ w2 (by have := LN.out; have := hb48.out; omega) HH.out).mono ?_
        rintro e w3 ⟨v, rfl, hv, hb⟩
        have H3 := Lib.hid (H2.out.up hb)
        have B3 := Lib.hid (B2.out.trans (But.of_below (S := fun _ => False) hb) (fun _ h _ => h.elim))
        have V3 := Lib.hid hv
        clear hv hb
        go_wp2
        go_ret2
        refine ⟨_, _, _, rfl, H3.out, B3.out, .got _ (R.out.mono (fun _ _ _ _ h => h) (by omega)) (fun e => E1.out e.symm) rfl ?_ DL.out⟩
        exact own_base V3.out (fun k hk => Nat.le_trans B2.out.size (V3.out.lt k hk).1)
      · have R := Lib.hid (lose_rel (R := fun _ => Aged) BR.out hm (Aged.op (s.d m) s.u) (fun _ _ _ => Aged.refl _) hdd (Aged.op (s.d m) s.u).why)
        rw [DS.got_no i hdd] at R2
        clear hdd
        obtain ⟨A, cap, rfl, _⟩ := own_form R2.out
        unfold err
        simp only [if_true]
        go_wp2_with fail
        refine (lose_any (s := s.turn m ((s.d m).op s.u)) m hm H2.out (by show s.u + 1 ≤ 990000; omega)).mono ?_
        rintro e w3 ⟨rfl, k1, k2⟩
        have H3 := Lib.hid k1
        have B3 := Lib.hid (B2.out.trans k2 (fun _ h _ => h))
        clear k1 k2
        rcases R.out with ⟨e1, e2, e3⟩ | ⟨e1, e2⟩
        · rw [e1]
          have R3 := Lib.hid e2
          have S3 := Lib.hid e3
          clear e1 e2 e3
          go_wp2
          go_ret2
          exact ⟨_, _, _, rfl, H3.out, B3.out, .lost R3.out S3.out⟩
        · rw [e1]
          have R3 := Lib.hid e2
          clear e1 e2
          go_wp2
          go_ret2
          exact ⟨_, _, _, rfl, H3.out, B3.out, .gone R3.out⟩
  · rw [hbr] at c8
    have G := Lib.hid (Gone.found (c := 2) hbr (by omega))
    clear hbr
    go_wp2
    go_ret2
    exact ⟨_, _, s, rfl, HA.out, But.refl _ _, .gone G.out⟩

/-- A closure's box that holds the array. -/
def Box (w : World) (bx : Nat) (P : Pl) (O : Nat → Prop) : Prop := At w bx #[.pointer (some ⟨P.a, 0, none⟩)] 41 ∧ ¬ O bx
theorem flushOne (bx m : Nat) (hm : m < s.M) (h : Arr w P O s) (hbx : Box w bx P O) (hu : s.u ≤ 900000) :
    Calls Tryz.prog 148 #[.int .i64 (m : Int), .pointer (some ⟨bx, 0, none⟩)] w fun e w' => e = .returned (.int .i64 (err ((s.d m).op s.u).dead)) ∧ Did w P O (s.turn m ((s.d m).fl s.u)) w' := by
  have cb := hbx.1.cell 0
  obtain ⟨c6, c7, c8⟩ := h.cells
  have cr := h.row hm
  have hM := h.many
  have HA := Lib.hid h
  have hmeth := meth_flush
  clear h c7 c8
  go_enter Tryz.func148, Tryz.ntmps148
  go_wp2_with fail
  refine (dflush m hm HA.out hu).mono ?_
  rintro e w' ⟨rfl, k1, k2⟩
  go_wp2
  go_ret
  exact ⟨rfl, O, k1, fun _ h => .inl h, k2⟩
set_option maxHeartbeats 1600000 in
theorem write_any (m : Nat) (hm : m < s.M) (i : Int) (hi : 0 ≤ i ∧ i < (s.S : Int)) (A : Option Addr) (n cap : Nat) (b : Bytes) (hn : (n : Int) = s.b) (hb : Has w A n b) (h : Arr w P O s) (hu : s.u ≤ 900000) :
    Calls Tryz.prog 129 #[.pointer (some ⟨P.a, 0, none⟩), .int .i64 (m : Int), .int .i64 i, .slice A n cap] w fun e w' => e = .returned (.int .i64 (err ((s.d m).op s.u).dead)) ∧ Did w P O (s.turn m ((s.d m).put s.u i b)) w' := by
  have HA := Lib.hid h
  have HB := Lib.hid hb
  have HN := Lib.hid hn
  have hM := h.many
  have hb48 := Lib.hid h.wf.small.hb
  have hmeth := meth_write
  clear h hb hn
  go_enter Tryz.func129, Tryz.ntmps129
  go_wp2_with fail
  have S0 : (fun w' : World => w'.cell? ⟨P.a, 6, none⟩ = some (.slice (some ⟨P.r, 0, none⟩) s.M P.c) ∧ w'.cell? ⟨P.r, m, none⟩ = some (dev (P.g m))) w.drew := ⟨HA.out.drew.cells.1, HA.out.drew.row hm⟩
  refine wp_region_early (fun w' : World => w'.cell? ⟨P.a, 6, none⟩ = some (.slice (some ⟨P.r, 0, none⟩) s.M P.c) ∧ w'.cell? ⟨P.r, m, none⟩ = some (dev (P.g m))) (fun _ => true) (by kernel_rfl) ?_
  change wpEarly _ _ _ _ _ _ 14 (Array.replicate 14 false) _ w.drew
  refine early_take (i := 0) 9 (.pointer (some ⟨P.a, 0, none⟩)) rfl rfl (by kernel_rfl) (by kernel_rfl) (by kernel_rfl) (by kernel_rfl) rfl (fun _ _ _ h => h) (fun w' hw' => by go_simp) S0 ?_
  simp only [Act.put, List.setIfInBounds_toArray, List.set_cons_zero, List.set_cons_succ]
  refine early_take (i := 1) 10 (.pointer (some ⟨P.a, 0, none⟩)) rfl rfl (by kernel_rfl) (by kernel_rfl) (by kernel_rfl) (by kernel_rfl) rfl (fun _ _ _ h => h) (fun w' hw' => by go_simp) S0 ?_
  simp only [Act.put, List.setIfInBounds_toArray, List.set_cons_zero, List.set_cons_succ]
  refine early_take (i := 2) 11 (.pointer (some ⟨P.a, 6, none⟩)) rfl rfl (by kernel_rfl) (by kernel_rfl) (by kernel_rfl) (by kernel_rfl) rfl (fun _ _ _ h => h) (fun w' hw' => by go_simp) S0 ?_
  simp only [Act.put, List.setIfInBounds_toArray, List.set_cons_zero, List.set_cons_succ]
  refine early_take (i := 3) 12 (.slice (some ⟨P.r, 0, none⟩) s.M P.c) rfl rfl (by kernel_rfl) (by kernel_rfl) (by kernel_rfl) (by kernel_rfl) rfl (fun _ _ _ h => h) (fun w' hw' => by obtain ⟨h6, hr⟩ := hw'; go_simp) S0 ?_
  simp only [Act.put, List.setIfInBounds_toArray, List.set_cons_zero, List.set_cons_succ]
  refine early_take (i := 4) 13 (.int .i64 (m : Int)) rfl rfl (by kernel_rfl) (by kernel_rfl) (by kernel_rfl) (by kernel_rfl) rfl (fun _ _ _ h => h) (fun w' hw' => by go_simp) S0 ?_
  simp only [Act.put, List.setIfInBounds_toArray, List.set_cons_zero, List.set_cons_succ]
  refine early_take (i := 5) 14 (.pointer (some ⟨P.r, m, none⟩)) rfl rfl (by kernel_rfl) (by kernel_rfl) (by kernel_rfl) (by kernel_rfl) rfl (fun _ _ _ h => h) (fun w' hw' => by go_simp) S0 ?_
  simp only [Act.put, List.setIfInBounds_toArray, List.set_cons_zero, List.set_cons_succ]
  refine early_take (i := 6) 15 (dev (P.g m)) rfl rfl (by kernel_rfl) (by kernel_rfl) (by kernel_rfl) (by kernel_rfl) rfl (fun _ _ _ h => h) (fun w' hw' => by obtain ⟨h6, hr⟩ := hw'; go_simp) S0 ?_
  simp only [Act.put, List.setIfInBounds_toArray, List.set_cons_zero, List.set_cons_succ]
  refine early_take (i := 7) 16 (.int .i64 i) rfl rfl (by kernel_rfl) (by kernel_rfl) (by kernel_rfl) (by kernel_rfl) rfl (fun _ _ _ h => h) (fun w' hw' => by go_simp) S0 ?_
  simp only [Act.put, List.setIfInBounds_toArray, List.set_cons_zero, List.set_cons_succ]
  refine early_take (i := 8) 17 (.slice A n cap) rfl rfl (by kernel_rfl) (by kernel_rfl) (by kernel_rfl) (by kernel_rfl) rfl (fun _ _ _ h => h) (fun w' hw' => by go_simp) S0 ?_
  simp only [Act.put, List.setIfInBounds_toArray, List.set_cons_zero, List.set_cons_succ]
  refine early_take (i := 10) 19 (dev (P.g m)) rfl rfl (by kernel_rfl) (by kernel_rfl) (by kernel_rfl) (by kernel_rfl) rfl (fun _ _ _ h => h) (fun w' hw' => by go_simp) S0 ?_
  simp only [Act.put, List.setIfInBounds_toArray, List.set_cons_zero, List.set_cons_succ]
  refine early_take (i := 11) 20 (dev (P.g m)) rfl rfl (by kernel_rfl) (by kernel_rfl) (by kernel_rfl) (by kernel_rfl) rfl (fun _ _ _ h => h) (fun w' hw' => by go_simp) S0 ?_
  simp only [Act.put, List.setIfInBounds_toArray, List.set_cons_zero, List.set_cons_succ]
  refine early_only (i := 9) (by kernel_rfl) rfl (fun K hK => ?_)
  simp only [opWp, List.getElem?_toArray, List.getElem?_cons_succ, List.getElem?_cons_zero]
  go_simp
  go_at_call 113
  refine (clone_any A n cap b _ (by have := HN.out; have := hb48.out; omega) (HB.out.drewN 1)).mono ?_
  rintro e w2 ⟨v, rfl, hv, hb⟩
  have H2 := Lib.hid (HA.out.drew.up hb)
  have B2 := Lib.hid (But.of_drewN 1 (But.of_below (S := fun _ => False) hb))
  obtain ⟨A2, cap2, rfl, hh, _, hA⟩ := own_form hv
  have HH := Lib.hid hh
  have HQ := Lib.hid hA
  clear hv hb hh hA
  have S2 : (fun w' : World => w'.cell? ⟨P.a, 6, none⟩ = some (.slice (some ⟨P.r, 0, none⟩) s.M P.c) ∧ w'.cell? ⟨P.r, m, none⟩ = some (dev (P.g m))) w2 := ⟨H2.out.cells.1, H2.out.row hm⟩
  refine hK _ _ (fun _ => S2) ?_
  refine early_only (i := 12) (by kernel_rfl) rfl (fun K hK => ?_)
  simp only [opWp, List.getElem?_toArray, List.getElem?_cons_succ, List.getElem?_cons_zero]
  go_simp
  go_at_call 182
  refine (dwrite m hm i hi A2 n cap2 b HN.out HH.out (fun x hx e => by have h1 := (HQ.out x hx).1; have h2 := HA.out.lt _ e; simp at h1; omega) H2.out hu).mono ?_
  rintro e w3 ⟨rfl, hD⟩
  have D3 := Lib.hid hD
  obtain ⟨O3, k1, k2, k3⟩ := hD
  have S3 : (fun w' : World => w'.cell? ⟨P.a, 6, none⟩ = some (.slice (some ⟨P.r, 0, none⟩) s.M P.c) ∧ w'.cell? ⟨P.r, m, none⟩ = some (dev (P.g m))) w3 := ⟨k1.cells.1, k1.row hm⟩
  clear k1 k2 k3
  refine hK _ _ (fun _ => S3) ?_
  refine early_take (i := 13) 8 (.int .i64 (err ((s.d m).op s.u).dead)) rfl rfl (by kernel_rfl) (by kernel_rfl) (by kernel_rfl) (by kernel_rfl) rfl (fun _ _ _ h => h) (fun w' hw' => by go_simp) S3 ?_
  simp only [Act.put, List.setIfInBounds_toArray, List.set_cons_zero, List.set_cons_succ]
  refine early_done (by kernel_rfl) ?_
  go_wp2
  go_ret
  exact ⟨rfl, D3.out.trans (O := O) (fun _ h => .inl h) (B2.out.mono (fun _ h _ => h.elim))⟩

end
end Go.Proofs.YtplmdmchkaacoaaGreat

/-
  THE WALK OF each: an operation of every member, whatever it is.
-/
namespace Go.Proofs.YtplmdmchkaacoaaGreat
open Go.RowKit Go.Maps
set_option linter.unusedVariables false
set_option maxRecDepth 100000

/-- What an operation makes of a disk. -/
structure Act1 (f : Nat → DS → Int → DS) : Prop where
  dead : ∀ i d u, (f i d u).dead = (d.op u).dead
  failAt : ∀ i d u, (f i d u).failAt = d.failAt
  dies : ∀ i d u, d.dead = true → (f i d u).dead = true
  why : ∀ i d u, (f i d u).dead = true → d.dead = true ∨ 0 ≤ d.failAt
theorem Act1.of {f : Nat → DS → Int → DS} {R : Nat → DS → Int → Int → Bytes} (h : ∀ i d u, Turns (R i d u) d (f i d u)) (hd : ∀ i d u, (f i d u).dead = (d.op u).dead) : Act1 f :=
  ⟨hd, fun i d u => (h i d u).failAt, fun i d u => (h i d u).dies, fun i d u => (h i d u).why⟩

/-- The first j members have done it. -/
structure EachTo (f : Nat → DS → Int → DS) (j : Nat) (s s' : AS) : Prop where
  rel : Rel (fun i d d' => if i < j then ∃ u, d' = f i d u else d' = d) (2 * (j : Int)) s s'
  told : ∀ i : Nat, i < j → (s'.d i).dead = true → s'.stale = (i : Int)

section
variable {f : Nat → DS → Int → DS} {j : Nat} {s s' : AS}
theorem EachTo.start (hb : s.broken = false) : EachTo f 0 s s :=
  ⟨Rel.refl (fun i _ => by rw [if_neg (by omega)]) hb (by omega), fun i hi => by omega⟩
theorem EachTo.disk (h : EachTo f j s s') (hj : j < s.M) : s'.d j = s.d j := by
  have := h.rel.disk j hj
  rwa [if_neg (by omega)] at this
def one1 (f : Nat → DS → Int → DS) (j : Nat) : Nat → DS → DS → Prop := fun i d d' => if i = j then ∃ u, d' = f i d u else d' = d
theorem EachTo.rel_step {s2 : AS} (F : Act1 f) (h : EachTo f j s s') (hj : j < s.M) (k : Rel (one1 f j) 2 s' s2) : Rel (fun i d d' => if i < j + 1 then ∃ u, d' = f i d u else d' = d) (2 * ((j + 1 : Nat) : Int)) s s2 := by
  refine (h.rel.trans (R'' := fun i d d' => if i < j + 1 then ∃ u, d' = f i d u else d' = d) k ?_ ?_).mono (fun _ _ _ _ h => h) (by omega)
  · intro i d d' d'' hi h1 h2
    unfold one1 at h2
    by_cases e : i = j
    · subst e
      rw [if_neg (by omega)] at h1
      rw [if_pos rfl] at h2
      rw [if_pos (by omega)]
      subst h1
      exact h2
    · rw [if_neg e] at h2
      subst h2
      by_cases e1 : i < j
      · rw [if_pos e1] at h1; rw [if_pos (by omega)]; exact h1
      · rw [if_neg e1] at h1; rw [if_neg (by omega)]; exact h1
  · intro i d d' hi h1 h2
    unfold one1 at h1
    by_cases e : i = j
    · rw [if_pos e] at h1
      obtain ⟨u, rfl⟩ := h1
      exact F.dies i d u h2
    · rw [if_neg e] at h1
      rw [h1]; exact h2
theorem EachTo.ok (F : Act1 f) (h : EachTo f j s s') (hj : j < s.M) (hd : (f j (s'.d j) s'.u).dead = false) : EachTo f (j + 1) s (s'.turn j (f j (s'.d j) s'.u)) := by
  have hM := h.rel.same.M
  have k := turn_rel (R := one1 f j) h.rel.whole.2 (by rw [hM]; exact hj) (by unfold one1; rw [if_pos rfl]; exact ⟨_, rfl⟩) (fun i _ hi => by unfold one1; rw [if_neg hi]) hd (F.failAt _ _ _)
  refine ⟨h.rel_step F hj (k.mono (fun _ _ _ _ h => h) (by omega)), fun i hi e => ?_⟩
  rw [turn_d] at e
  by_cases e1 : i = j
  · rw [if_pos e1, hd] at e; cases e
  · rw [if_neg e1] at e; exact h.told i (by omega) e
theorem EachTo.lost (F : Act1 f) (h : EachTo f j s s') (hj : j < s.M) (hd : (f j (s'.d j) s'.u).dead = true) :
    (AS.loss (s'.turn j (f j (s'.d j) s'.u)) j = 0 ∧ EachTo f (j + 1) s (AS.lose (s'.turn j (f j (s'.d j) s'.u)) j)) ∨ (AS.loss (s'.turn j (f j (s'.d j) s'.u)) j = 3 ∧ Gone (2 * ((j + 1 : Nat) : Int)) s (AS.lose (s'.turn j (f j (s'.d j) s'.u)) j)) := by
  have hM := h.rel.same.M
  rcases lose_rel (R := one1 f j) h.rel.whole.2 (by rw [hM]; exact hj) (by unfold one1; rw [if_pos rfl]; exact ⟨_, rfl⟩) (fun i _ hi => by unfold one1; rw [if_neg hi]) hd (F.why _ _ _) with ⟨e1, k, e2⟩ | ⟨e1, k⟩
  · refine .inl ⟨e1, h.rel_step F hj k, fun i hi e => ?_⟩
    by_cases ei : i = j
    · rw [e2, ei]
    · have h1 := k.disk i
      have hi2 : i < s'.M := by rw [hM]; omega
      have h2 := k.disk i hi2
      unfold one1 at h2
      rw [if_neg ei] at h2
      rw [h2] at e
      have h3 := h.told i (by omega) e
      rcases k.stale with e3 | ⟨e3, _⟩
      · rw [e3]; exact h3
      · rw [h3] at e3; omega
  · exact .inr ⟨e1, (h.rel.gone k).mono (by omega)⟩
end

/-- What each comes to. -/
inductive EachAs (f : Nat → DS → Int → DS) (s s' : AS) : Int → Prop
  | done (hr : Rel (fun i d d' => ∃ u, d' = f i d u) 10 s s') (ht : ∀ i : Nat, i < s.M → (s'.d i).dead = true → s'.stale = (i : Int)) : EachAs f s s' 0
  | gone (hg : Gone 10 s s') : EachAs f s s' 3
theorem EachTo.all {f : Nat → DS → Int → DS} {s s' : AS} (h : EachTo f s.M s s') (hM : (s.M : Int) ≤ 5) : EachAs f s s' 0 :=
  .done (h.rel.mono (fun i d d' hi h => by rw [if_pos hi] at h; exact h) (by omega)) h.told

section
variable {w : World} {P : Pl} {O : Nat → Prop} {s : AS}
set_option maxHeartbeats 1600000 in
theorem each_any (K : Nat) (cap : Array Value) (f : Nat → DS → Int → DS) (F : Act1 f) (Z : World → (Nat → Prop) → Prop)
    (hK : ∀ (m : Nat) w, (callFunc K (#[.int .i64 (m : Int)] ++ cap)).run Tryz.prog w = .ok (.enter K (#[.int .i64 (m : Int)] ++ cap)) w)
    (hZ : ∀ w w' O O', Z w O → But O w w' → (∀ k, O' k → O k ∨ w.heap.size ≤ k) → Z w' O')
    (hc : ∀ (m : Nat) w O s', m < s.M → Same s s' → Arr w P O s' → Z w O → s'.u ≤ 900000 → Calls Tryz.prog K (#[.int .i64 (m : Int)] ++ cap) w fun e w' => e = .returned (.int .i64 (err ((s'.d m).op s'.u).dead)) ∧ Did w P O (s'.turn m (f m (s'.d m) s'.u)) w')
    (h : Arr w P O s) (hz : Z w O) (hu : s.u ≤ 800000) :
    Calls Tryz.prog 127 #[.pointer (some ⟨P.a, 0, none⟩), .func (.func K) #[] cap] w fun e w' => ∃ er s', e = .returned (.int .i64 er) ∧ Did w P O s' w' ∧ EachAs f s s' er := by
  have HA := Lib.hid h
  have HZ := Lib.hid hz
  obtain ⟨c6, c7, c8⟩ := h.cells
  have hM := h.many
  clear h hz c7
  go_enter Tryz.func127, Tryz.ntmps127
  cases hbr : s.broken
  · rw [hbr] at c8
    have BR := Lib.hid hbr
    clear hbr
    go_wp2_with fail
    go_loopw [16] (fun i wr => ∃ j : Nat, j ≤ s.M ∧ i = .int .i64 (j : Int) ∧ ∃ O' s', Arr wr P O' s' ∧ (∀ k, O' k → O k ∨ w.heap.size ≤ k) ∧ But O w wr ∧ Z wr O' ∧ EachTo f j s s') (fun i _ => s.M - (RowKit.intOf i).toNat)
    case atStart => exact ⟨0, Nat.zero_le _, rfl, O, s, HA.out, fun _ h => .inl h, But.refl _ _, HZ.out, EachTo.start BR.out⟩
    case round =>
      obtain ⟨j, hj, rfl, O', s', k1, k2, k3, k4, k5⟩ := hrel
      have A1 := Lib.hid k1
      have O1 := Lib.hid k2
      have B1 := Lib.hid k3
      have Z1 := Lib.hid k4
      have E1 := Lib.hid k5
      clear k1 k2 k3 k4 k5 c6 c8
      by_cases hlt : j < s.M
      · have US := Lib.hid (show s'.u ≤ 800010 by have := E1.out.rel.u.2; omega)
        go_wp2_with fail
        refine (hc j wr O' s' hlt E1.out.rel.same A1.out Z1.out (by have := US.out; omega)).mono ?_
        rintro e w2 ⟨rfl, O2, a2, o2, b2⟩
        have A2 := Lib.hid a2
        have O3 := Lib.hid (show ∀ k, O2 k → O k ∨ w.heap.size ≤ k from fun k hk => (o2 k hk).elim (O1.out k) (fun h => .inr (Nat.le_trans B1.out.size h)))
        have B2 := Lib.hid (show But O w w2 from B1.out.trans b2 (fun k hk hlt => (O1.out k hk).elim id (fun h => by omega)))
        have Z2 := Lib.hid (hZ _ _ _ O2 Z1.out b2 o2)
        clear a2 o2 b2
        have hfd := F.dead j (s'.d j) s'.u
        cases hdd : ((s'.d j).op s'.u).dead
        · rw [hdd] at hfd
          have E2 := Lib.hid (E1.out.ok F hlt hfd)
          clear hdd hfd
          unfold err
          simp only [Bool.false_eq_true, if_false]
          go_wp2
          go_roundw
          case rel => exact ⟨j + 1, by omega, by go_num, O2, _, A2.out, O3.out, B2.out, Z2.out, E2.out⟩
          case measure => simp [RowKit.intOf]; omega
        · rw [hdd] at hfd
          have E2 := Lib.hid (E1.out.lost F hlt hfd)
          have HM := Lib.hid E1.out.rel.same.M
          clear hdd hfd
          unfold err
          simp only [if_true]
          go_wp2_with fail
          refine (lose_any (s := s'.turn j (f j (s'.d j) s'.u)) j (by show j < s'.M; rw [HM.out]; exact hlt) A2.out (by show s'.u + 1 ≤ 990000; have := US.out; omega)).mono ?_
          rintro e w3 ⟨rfl, k1, k2⟩
          have A3 := Lib.hid k1
          have B3 := Lib.hid (show But O w w3 from B2.out.trans k2 (fun k hk hlt => (O3.out k hk).elim id (fun h => by omega)))
          have Z3 := Lib.hid (hZ _ _ _ O2 Z2.out k2 (fun _ h => .inl h))
          clear k1 k2
          rcases E2.out with ⟨e1, e2⟩ | ⟨e1, e2⟩
          · rw [e1]
            have E3 := Lib.hid e2
            clear e1 e2
            go_wp2
            go_roundw
            case rel => exact ⟨j + 1, by omega, by go_num, O2, _, A3.out, O3.out, B3.out, Z3.out, E3.out⟩
            case measure => simp [RowKit.intOf]; omega
          · rw [e1]
            have E3 := Lib.hid e2
            clear e1 e2
            go_wp2
            go_ret
            exact ⟨_, _, rfl, ⟨O2, A3.out, O3.out, B3.out⟩, .gone (E3.out.mono (by omega))⟩
      · obtain rfl : j = s.M := by omega
        go_wp2
        go_ret
        exact ⟨_, s', rfl, ⟨O', A1.out, O1.out, B1.out⟩, E1.out.all hM.2⟩
  · rw [hbr] at c8
    have G := Lib.hid (Gone.found (c := 10) hbr (by omega))
    clear hbr
    go_wp2
    go_ret
    exact ⟨_, s, rfl, ⟨O, HA.out, fun _ h => .inl h, But.refl _ _⟩, .gone G.out⟩
end
end Go.Proofs.YtplmdmchkaacoaaGreat
