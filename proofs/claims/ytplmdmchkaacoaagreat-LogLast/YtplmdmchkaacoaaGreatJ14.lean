/-
  TEXTS JOINED: Putw.
-/
import Derived.Test.YtplmdmchkaacoaaGreatJ13

/-
  THE WALK OF Put.
-/
namespace Go.Proofs.YtplmdmchkaacoaaGreat
open Go.RowKit Go.Maps
set_option linter.unusedVariables false
set_option maxRecDepth 100000

section
variable {w w' : World} {P : Pl} {O : Nat → Prop} {s : AS}

theorem made_lines {w w1 : World} {M : Nat} (h : w1.ownsRow w.heap.size 57 1 (.slice (some ⟨w.heap.size, 0, none⟩) M M) M (madeCells (Value.slice none 0 0).cells (M * 1)).toList) :
    At w1 w.heap.size ((List.range M).map (fun _ => Sl.v ⟨none, 0, 0, []⟩)).toArray 57 := by
  rcases h.2 with ⟨e, _⟩ | ⟨g, cap, cur, e, _, hh, _, _, hs, ht⟩
  · cases e
  · injection e with e1 _ e2
    injection e1 with e1
    injection e1 with e1
    subst e1 e2
    unfold At
    rw [hh]
    congr 2
    apply Array.ext'
    rw [List.take_of_length_le (by simp [hs])] at ht
    rw [ht, show (Value.slice none 0 0).cells = #[.slice none 0 0] from rfl, toList_madeCells_one]
    simp [Sl.v, List.map_const']

theorem mx_fits {L : List Sl} {b : Int} (h : Fits L b) (h0 : 0 < L.length) (hl : ∀ x ∈ L, x.l.length = x.n) : mx L = b.toNat := by
  cases L with
  | nil => simp at h0
  | cons x r =>
    have ha : ∀ y ∈ x :: r, y.l.length = b.toNat := fun y hy => by rw [hl y hy]; have := h y hy; omega
    have h1 : x.l.length ≤ mx (x :: r) := mx_mem (by simp)
    have h2 := mx_le (L := x :: r) (M := b.toNat) (fun y hy => by rw [ha y hy]; exact Nat.le_refl _)
    have := ha x (by simp)
    omega
/-- What writing stripes comes to. -/
inductive PutAs (i : Int) (B : Nat → Bytes) (s s' : AS) : Int → Prop
  | done (hr : Rel (fun j d d' => ∃ u1 u2, d' = (d.put u1 i (B j)).fl u2) 20 s s') (ht : ∀ j : Nat, j < s.M → (s'.d j).dead = true → s'.stale = (j : Int)) : PutAs i B s s' 0
  | gone (hg : Gone 20 s s') : PutAs i B s s' 3

theorem enters69 (m b1 b2 b3 : Nat) (w : World) : (callFunc 128 (#[.int .i64 (m : Int)] ++ #[.pointer (some ⟨b1, 0, none⟩), .pointer (some ⟨b2, 0, none⟩), .pointer (some ⟨b3, 0, none⟩)])).run Tryz.prog w = .ok (.enter 128 (#[.int .i64 (m : Int)] ++ #[.pointer (some ⟨b1, 0, none⟩), .pointer (some ⟨b2, 0, none⟩), .pointer (some ⟨b3, 0, none⟩)])) w := by kernel_rfl

/-- The parts, and the sector's box. -/
def Ps (w : World) (P : Pl) (O : Nat → Prop) (b1 bp bs g M : Nat) (p : Nat → Sl) (i : Int) : Prop := Pt w P O b1 bp g M p ∧ At w bs #[.int .i64 i] 3 ∧ ¬ O bs
theorem Ps.frame {O' : Nat → Prop} {b1 bp bs g M : Nat} {p : Nat → Sl} {i : Int} (h : Ps w P O b1 bp bs g M p i) (hb : But O w w') (hO : ∀ k, O' k → O k ∨ w.heap.size ≤ k) : Ps w' P O' b1 bp bs g M p i :=
  ⟨h.1.frame hb hO, h.2.1.but hb h.2.2, fun e => (hO _ e).elim h.2.2 (fun e => by have := h.2.1.lt; omega)⟩

set_option maxHeartbeats 1600000 in
theorem putOne (b1 bp bs g m : Nat) (p : Nat → Sl) (hm : m < s.M) (i : Int) (hi : 0 ≤ i ∧ i < (s.S : Int)) (hn : ((p m).n : Int) = s.b) (h : Arr w P O s) (hz : Ps w P O b1 bp bs g s.M p i) (hu : s.u ≤ 900000) :
    Calls Tryz.prog 128 #[.int .i64 (m : Int), .pointer (some ⟨b1, 0, none⟩), .pointer (some ⟨bs, 0, none⟩), .pointer (some ⟨bp, 0, none⟩)] w fun e w' => e = .returned (.int .i64 (err ((s.d m).op s.u).dead)) ∧ Did w P O (s.turn m ((s.d m).put s.u i (p m).l)) w' := by
  have d1 : w.drew.cell? ⟨b1, 0, none⟩ = _ := hz.1.box.1.cell 0
  have d2 : w.drew.cell? ⟨bs, 0, none⟩ = _ := hz.2.1.cell 0
  have d3 : w.drew.cell? ⟨bp, 0, none⟩ = _ := hz.1.parts.cell 0
  have d4 : w.drew.cell? ⟨g, m, none⟩ = _ := hz.1.cell hm
  have HA := Lib.hid h
  have HZ := Lib.hid hz
  have HH := Lib.hid (hz.1.has m hm)
  have HN := Lib.hid hn
  have HI := Lib.hid hi
  have hM := h.many
  clear h hz hn hi
  go_enter Tryz.func128, Tryz.ntmps128
  go_wp2_with fail
  have S0 : (fun w' : World => w'.cell? ⟨b1, 0, none⟩ = some (.pointer (some ⟨P.a, 0, none⟩)) ∧ w'.cell? ⟨bs, 0, none⟩ = some (.int .i64 i) ∧ w'.cell? ⟨bp, 0, none⟩ = some (.slice (some ⟨g, 0, none⟩) s.M s.M) ∧ w'.cell? ⟨g, m, none⟩ = some (.slice (p m).A (p m).n (p m).c)) w.drew := ⟨d1, d2, d3, d4⟩
  refine wp_region_early (fun w' : World => w'.cell? ⟨b1, 0, none⟩ = some (.pointer (some ⟨P.a, 0, none⟩)) ∧ w'.cell? ⟨bs, 0, none⟩ = some (.int .i64 i) ∧ w'.cell? ⟨bp, 0, none⟩ = some (.slice (some ⟨g, 0, none⟩) s.M s.M) ∧ w'.cell? ⟨g, m, none⟩ = some (.slice (p m).A (p m).n (p m).c)) (fun _ => true) (by kernel_rfl) ?_
  change wpEarly _ _ _ _ _ _ 9 (Array.replicate 9 false) _ w.drew
  refine early_take (i := 0) 6 (.pointer (some ⟨P.a, 0, none⟩)) rfl rfl (by kernel_rfl) (by kernel_rfl) (by kernel_rfl) (by kernel_rfl) rfl (fun _ _ _ h => h) (fun w' hw' => by obtain ⟨k1, k2, k3, k4⟩ := hw'; go_simp) S0 ?_
  simp only [Act.put, List.setIfInBounds_toArray, List.set_cons_zero, List.set_cons_succ]
  refine early_take (i := 1) 7 (.int .i64 (m : Int)) rfl rfl (by kernel_rfl) (by kernel_rfl) (by kernel_rfl) (by kernel_rfl) rfl (fun _ _ _ h => h) (fun w' hw' => by go_simp) S0 ?_
  simp only [Act.put, List.setIfInBounds_toArray, List.set_cons_zero, List.set_cons_succ]
  refine early_take (i := 2) 8 (.int .i64 i) rfl rfl (by kernel_rfl) (by kernel_rfl) (by kernel_rfl) (by kernel_rfl) rfl (fun _ _ _ h => h) (fun w' hw' => by obtain ⟨k1, k2, k3, k4⟩ := hw'; go_simp) S0 ?_
  simp only [Act.put, List.setIfInBounds_toArray, List.set_cons_zero, List.set_cons_succ]
  refine early_take (i := 3) 9 (.slice (some ⟨g, 0, none⟩) s.M s.M) rfl rfl (by kernel_rfl) (by kernel_rfl) (by kernel_rfl) (by kernel_rfl) rfl (fun _ _ _ h => h) (fun w' hw' => by obtain ⟨k1, k2, k3, k4⟩ := hw'; go_simp) S0 ?_
  simp only [Act.put, List.setIfInBounds_toArray, List.set_cons_zero, List.set_cons_succ]
  refine early_take (i := 4) 10 (.int .i64 (m : Int)) rfl rfl (by kernel_rfl) (by kernel_rfl) (by kernel_rfl) (by kernel_rfl) rfl (fun _ _ _ h => h) (fun w' hw' => by go_simp) S0 ?_
  simp only [Act.put, List.setIfInBounds_toArray, List.set_cons_zero, List.set_cons_succ]
  refine early_take (i := 5) 11 (.pointer (some ⟨g, m, none⟩)) rfl rfl (by kernel_rfl) (by kernel_rfl) (by kernel_rfl) (by kernel_rfl) rfl (fun _ _ _ h => h) (fun w' hw' => by go_simp) S0 ?_
  simp only [Act.put, List.setIfInBounds_toArray, List.set_cons_zero, List.set_cons_succ]
  refine early_take (i := 6) 12 (.slice (p m).A (p m).n (p m).c) rfl rfl (by kernel_rfl) (by kernel_rfl) (by kernel_rfl) (by kernel_rfl) rfl (fun _ _ _ h => h) (fun w' hw' => by obtain ⟨k1, k2, k3, k4⟩ := hw'; go_simp) S0 ?_
  simp only [Act.put, List.setIfInBounds_toArray, List.set_cons_zero, List.set_cons_succ]
  refine early_only (i := 7) (by kernel_rfl) rfl (fun K hK => ?_)
  simp only [opWp, List.getElem?_toArray, List.getElem?_cons_succ, List.getElem?_cons_zero]
  go_simp
  go_at_call 129
  refine (write_any m hm i HI.out (p m).A (p m).n (p m).c (p m).l HN.out (HH.out.drewN 1) HA.out.drew hu).mono ?_
  rintro e w3 ⟨rfl, hD⟩
  have D3 := Lib.hid hD
  clear hD
  refine hK _ _ (fun _ => ?_) ?_
  · obtain ⟨O3, q1, q2, q3⟩ := D3.out
    have z3 := HZ.out.frame (But.of_drewN 1 q3) q2
    exact ⟨z3.1.box.1.cell 0, z3.2.1.cell 0, z3.1.parts.cell 0, z3.1.cell hm⟩
  obtain ⟨O3, q1, q2, q3⟩ := D3.out
  have z3 := HZ.out.frame (But.of_drewN 1 q3) q2
  have S3 : (fun w' : World => w'.cell? ⟨b1, 0, none⟩ = some (.pointer (some ⟨P.a, 0, none⟩)) ∧ w'.cell? ⟨bs, 0, none⟩ = some (.int .i64 i) ∧ w'.cell? ⟨bp, 0, none⟩ = some (.slice (some ⟨g, 0, none⟩) s.M s.M) ∧ w'.cell? ⟨g, m, none⟩ = some (.slice (p m).A (p m).n (p m).c)) w3 := ⟨z3.1.box.1.cell 0, z3.2.1.cell 0, z3.1.parts.cell 0, z3.1.cell hm⟩
  refine early_take (i := 8) 5 (.int .i64 (err ((s.d m).op s.u).dead)) rfl rfl (by kernel_rfl) (by kernel_rfl) (by kernel_rfl) (by kernel_rfl) rfl (fun _ _ _ h => h) (fun w' hw' => by go_simp) S3 ?_
  simp only [Act.put, List.setIfInBounds_toArray, List.set_cons_zero, List.set_cons_succ]
  refine early_done (by kernel_rfl) ?_
  clear S0 S3 z3
  go_wp2
  go_ret
  exact ⟨rfl, O3, q1, q2, But.of_drewN 1 q3⟩

set_option maxHeartbeats 3200000 in
theorem Put_any (t : Int) (ht : 0 ≤ t ∧ t < s.N) (A : Option Addr) (KC c : Nat) (L : List Sl) (hKC : (KC : Int) = (s.M : Int) - 1) (hL : Ln w A KC L) (hF : Fits L s.b) (hO : ∀ x ∈ L, ∀ a, x.A = some a → ¬ O a.block) (h : Arr w P O s) (hu : s.u ≤ 700000) :
    Calls Tryz.prog 85 #[.pointer (some ⟨P.a, 0, none⟩), .int .i64 t, .slice A KC c] w fun e w' => ∃ er s', e = .returned (.int .i64 er) ∧ Did w P O s' w' ∧ PutAs (s.at_ t) (spreadB t s.M (fun j => (L.getD j ⟨none, 0, 0, []⟩).l) (tab s.b.toNat (par L)) (s.M - 1)) s s' er := by
  have hmf : ∀ (fn : Fn) (first cap : Array Value) (w : World), (Instr.makeFunc fn first cap).run Tryz.prog w = .ok (.func fn first cap) w := fun _ _ _ _ => rfl
  obtain ⟨i0, hi, hz0, hz1, hz2⟩ := info_parts line_info
  have hM := h.many
  have hN := Lib.hid h.wf.n
  have HT := Lib.hid ht
  have HKK := Lib.hid hKC
  have HF := Lib.hid hF
  have HO := Lib.hid hO
  have b48 := Lib.hid h.wf.small.hb
  have t1 : decide (0 ≤ t ∧ t < s.N) = true := decide_eq_true ht
  have tF : decide (Fits L s.b) = true := decide_eq_true hF
  have tK : ((KC : Int) != (s.M : Int) - 1) = false := by simp [hKC]
  obtain ⟨W, hW⟩ : ∃ W, W = w.alloc (.cells #[.pointer (some ⟨P.a, 0, none⟩)] 41) := ⟨_, rfl⟩
  have bel : Below w.heap.size w W := by rw [hW]; exact (Below.refl _ _).alloc (Nat.le_refl _) _
  have BB := Lib.hid bel
  have HA := Lib.hid (show Arr W P O s by rw [hW]; exact h.alloc _)
  have HL := Lib.hid (hL.below bel)
  have HL0 := Lib.hid hL
  have hbx : Box W w.heap.size P O := by rw [hW]; exact box_new h
  have BX := Lib.hid hbx
  have OL := Lib.hid h.lt
  have d1 := hbx.1.cell 0
  rw [hW] at d1
  have HW := Lib.hid hW
  clear h hL hF hO ht hKC bel hbx hW
  go_enter Tryz.func85, Tryz.ntmps85
  go_wp2_with fail
  rw [← HW.out]
  refine (chunks_any HA.out).mono ?_
  rintro e W ⟨rfl, rfl⟩
  rw [← HW.out] at d1
  go_wp2_with fail
  refine (blocks_any A KC c L HA.out HL.out).mono ?_
  rintro e w2 ⟨rfl, hb⟩
  rw [tF]
  have A2 := Lib.hid (HA.out.up hb)
  have C2 := Lib.hid (BB.out.trans (hb.mono BB.out.size))
  have X2 := Lib.hid (show Box w2 w.heap.size P O from ⟨BX.out.1.below hb BX.out.1.lt, BX.out.2⟩)
  have Z2 := Lib.hid (show w.heap.size + 1 ≤ w2.heap.size by have := hb.size; have := BX.out.1.lt; omega)
  clear hb d1 tF tK
  have d1 := X2.out.1.cell 0
  obtain ⟨c0, c1, c2, c3, c4, c5⟩ := A2.out.shape
  go_wp2_with fail
  refine (all_call A2.out.wf w2).mono ?_
  rintro e w3 ⟨rfl, hb⟩
  have A3 := Lib.hid (A2.out.up hb)
  have C3 := Lib.hid (C2.out.trans (hb.mono C2.out.size))
  have X3 := Lib.hid (show Box w3 w.heap.size P O from ⟨X2.out.1.below hb X2.out.1.lt, X2.out.2⟩)
  have Z3 := Lib.hid (show w.heap.size + 1 ≤ w3.heap.size by have := hb.size; have := Z2.out; omega)
  clear hb d1 c0 c1 c2 c3 c4 c5
  go_wp2_with fail
  refine (inside_any t s.N w3).mono ?_
  rintro e w3 ⟨rfl, rfl⟩
  rw [t1]
  clear t1
  have d1 := X3.out.1.cell 0
  obtain ⟨c6, c7, c8⟩ := A3.out.cells
  clear c7 c8
  go_wp2_with (first
    | (at_make; refine wpList_make_full _ rfl (.tmp 37) (.tmp 37) 141 rfl w3.heap.size 57 i0 (.slice none 0 0) 1 Tryz.underlying141 hi hz0 hz1 .i64 .i64 s.M s.M s.M rfl rfl rfl rfl (by rw [hz2]; omega) (by unfold maxLen; omega) (Nat.le_refl _) ?_; intro w4 hown1 hg1; have RW := Lib.hid (made_lines hown1); have B4 := Lib.hid (show Below w3.heap.size w3 w4 from (Below.refl _ _).grown hg1 (Nat.le_refl _) (by simp)); clear hown1 hg1))
  obtain ⟨G, hG⟩ : ∃ G, G = w3.heap.size := ⟨_, rfl⟩
  obtain ⟨BP, hBP⟩ : ∃ BP, BP = w4.heap.size := ⟨_, rfl⟩
  have sz4 := B4.out.size
  have belV : Below w3.heap.size w3 (w4.alloc (.cells #[.slice (some ⟨w3.heap.size, 0, none⟩) s.M s.M] 141)) := B4.out.alloc sz4 _
  have CV := Lib.hid (C3.out.trans (belV.mono C3.out.size))
  have AV := Lib.hid (A3.out.up belV)
  have nsl : ∀ k, w.heap.size ≤ k → ¬ O k := fun k hk e => by have := OL.out k e; omega
  have Z3' := Z3.out
  have PV : Pt (w4.alloc (.cells #[.slice (some ⟨w3.heap.size, 0, none⟩) s.M s.M] 141)) P O w.heap.size w4.heap.size w3.heap.size s.M (fun _ => ⟨none, 0, 0, []⟩) :=
    ⟨⟨X3.out.1.below belV X3.out.1.lt, X3.out.2⟩, At.new _ 141 rfl, RW.out.alloc _, fun m hm => Has.nil _ _, ⟨nsl _ (by omega), nsl _ (by omega), by omega, by have := RW.out.lt; omega, fun m hm h0 => by simp at h0⟩⟩
  rw [← hG] at PV
  rw [← hBP] at PV
  rw [← hG] at CV AV
  have NS := Lib.hid nsl
  have GB := Lib.hid (show w.heap.size + 1 ≤ G ∧ G < BP by have := RW.out.lt; omega)
  rw [← hG, ← hBP]
  generalize w4.alloc (.cells #[.slice (some ⟨G, 0, none⟩) s.M s.M] 141) = V at *
  have PVH := Lib.hid PV
  clear PV RW B4 belV hG hBP sz4 Z3' nsl d1 c6 A2 A3 X2 X3 C2 C3 Z2 Z3 BB HA HL BX HW hi hz0 hz1 hz2
  obtain ⟨pm, hpm⟩ : ∃ pm : Nat, t % (s.M : Int) = (pm : Int) := ⟨(t % (s.M : Int)).toNat, by have := Int.emod_nonneg t (show (s.M : Int) ≠ 0 by omega); omega⟩
  have hpl : pm < s.M := by have := Int.emod_lt_of_pos t (show 0 < (s.M : Int) by omega); omega
  have HPM := Lib.hid hpm
  have HPL := Lib.hid hpl
  clear hpm hpl
  have LB := Lib.hid (show mx L = s.b.toNat by
    have hk := HL0.out.len
    refine mx_fits HF.out ?_ (fun x hx => (HL0.out.has x hx).1)
    have := HKK.out
    omega)
  have S0 : (fun w' : World => Below w.heap.size w w' ∧ Arr w' P O s ∧ Pt w' P O w.heap.size BP G s.M (fun _ => ⟨none, 0, 0, []⟩)) V.drew := ⟨⟨CV.out.os, CV.out.tape, CV.out.output, CV.out.size, CV.out.block⟩, AV.out.drew, PVH.out.drew⟩
  refine wp_region_early (fun w' : World => Below w.heap.size w w' ∧ Arr w' P O s ∧ Pt w' P O w.heap.size BP G s.M (fun _ => ⟨none, 0, 0, []⟩)) (fun j => decide (j ≠ 10)) (by kernel_rfl) ?_
  change wpEarly _ _ _ _ _ _ 11 (Array.replicate 11 false) _ V.drew
  refine early_take (i := 0) 39 (.slice (some ⟨G, 0, none⟩) s.M s.M) rfl rfl (by kernel_rfl) (by kernel_rfl) (by kernel_rfl) (by kernel_rfl) rfl (fun _ _ _ h => h) (fun w' hw' => by obtain ⟨hB, hA, hP⟩ := hw'; have k := hP.parts.cell 0; go_simp) S0 ?_
  simp only [Act.put, List.setIfInBounds_toArray, List.set_cons_zero, List.set_cons_succ]
  refine early_take (i := 1) 40 (.pointer (some ⟨P.a, 0, none⟩)) rfl rfl (by kernel_rfl) (by kernel_rfl) (by kernel_rfl) (by kernel_rfl) rfl (fun _ _ _ h => h) (fun w' hw' => by obtain ⟨hB, hA, hP⟩ := hw'; have k := hP.box.1.cell 0; go_simp) S0 ?_
  simp only [Act.put, List.setIfInBounds_toArray, List.set_cons_zero, List.set_cons_succ]
  refine early_take (i := 2) 41 (.pointer (some ⟨P.a, 0, none⟩)) rfl rfl (by kernel_rfl) (by kernel_rfl) (by kernel_rfl) (by kernel_rfl) rfl (fun _ _ _ h => h) (fun w' hw' => by go_simp) S0 ?_
  simp only [Act.put, List.setIfInBounds_toArray, List.set_cons_zero, List.set_cons_succ]
  refine early_take (i := 3) 42 (.pointer (some ⟨P.a, 0, none⟩)) rfl rfl (by kernel_rfl) (by kernel_rfl) (by kernel_rfl) (by kernel_rfl) rfl (fun _ _ _ h => h) (fun w' hw' => by go_simp) S0 ?_
  simp only [Act.put, List.setIfInBounds_toArray, List.set_cons_zero, List.set_cons_succ]
  refine early_take (i := 4) 43 (sv (s.M : Int) s.b s.g s.s s.n s.l) rfl rfl (by kernel_rfl) (by kernel_rfl) (by kernel_rfl) (by kernel_rfl) rfl (fun _ _ _ h => h) (fun w' hw' => exec_shape (x := .tmp 42) rfl rfl hw'.2.1.range) S0 ?_
  simp only [Act.put, List.setIfInBounds_toArray, List.set_cons_zero, List.set_cons_succ]
  refine early_take (i := 5) 44 (.int .i64 t) rfl rfl (by kernel_rfl) (by kernel_rfl) (by kernel_rfl) (by kernel_rfl) rfl (fun _ _ _ h => h) (fun w' hw' => by go_simp) S0 ?_
  simp only [Act.put, List.setIfInBounds_toArray, List.set_cons_zero, List.set_cons_succ]
  refine early_take (i := 7) 46 (.slice A KC c) rfl rfl (by kernel_rfl) (by kernel_rfl) (by kernel_rfl) (by kernel_rfl) rfl (fun _ _ _ h => h) (fun w' hw' => by go_simp) S0 ?_
  simp only [Act.put, List.setIfInBounds_toArray, List.set_cons_zero, List.set_cons_succ]
  refine early_only (i := 6) (by kernel_rfl) rfl (fun K hK => ?_)
  simp only [opWp, List.getElem?_toArray, List.getElem?_cons_succ, List.getElem?_cons_zero]
  go_simp
  go_at_call 126
  refine (parity_call AV.out.wf t (by have := HT.out; have := hN.out; omega) _).mono ?_
  rintro e w5 ⟨rfl, hb⟩
  rw [HPM.out]
  have S1 : (fun w' : World => Below w.heap.size w w' ∧ Arr w' P O s ∧ Pt w' P O w.heap.size BP G s.M (fun _ => ⟨none, 0, 0, []⟩)) w5 := ⟨S0.1.trans (hb.mono S0.1.size), S0.2.1.up hb, S0.2.2.up hb⟩
  clear hb
  refine hK _ _ (fun _ => S1) ?_
  refine early_only (i := 8) (by kernel_rfl) rfl (fun K hK => ?_)
  simp only [opWp, List.getElem?_toArray, List.getElem?_cons_succ, List.getElem?_cons_zero]
  go_simp
  go_at_call 125
  refine (of_any A KC c L w5 (HL0.out.below S1.1)).mono ?_
  rintro e w6 ⟨rfl, hat, hb⟩
  have S2 : (fun w' : World => Below w.heap.size w w' ∧ Arr w' P O s ∧ Pt w' P O w.heap.size BP G s.M (fun _ => ⟨none, 0, 0, []⟩)) w6 := ⟨S1.1.trans (hb.mono S1.1.size), S1.2.1.up hb, S1.2.2.up hb⟩
  have HX := Lib.hid (show Has w6 (some ⟨w5.heap.size, 0, none⟩) (mx L) (tab (mx L) (par L)) from Has.of_at hat)
  have ZX := Lib.hid (show G < w5.heap.size ∧ w.heap.size ≤ w5.heap.size by have := S1.2.2.row.lt; have := S1.1.size; omega)
  clear hat hb
  refine hK _ _ (fun _ => S2) ?_
  refine early_take (i := 9) 48 (.pointer (some ⟨G, pm, none⟩)) rfl rfl (by kernel_rfl) (by kernel_rfl) (by kernel_rfl) (by kernel_rfl) rfl (fun _ _ _ h => h) (fun w' hw' => by have hpl := HPL.out; go_simp) S2 ?_
  simp only [Act.put, List.setIfInBounds_toArray, List.set_cons_zero, List.set_cons_succ]
  refine early_only (i := 10) (by kernel_rfl) rfl (fun K hK => ?_)
  simp only [opWp, List.getElem?_toArray, List.getElem?_cons_succ, List.getElem?_cons_zero]
  have kc := S2.2.2.cell HPL.out
  have kf := S2.2.2.row.frozen pm
  go_simp
  have b7 := But.own w6 G pm (.slice (some ⟨w5.heap.size, 0, none⟩) (mx L) (mx L))
  have P7 := Lib.hid (show Pt (w6.setCell ⟨G, pm, none⟩ (.slice (some ⟨w5.heap.size, 0, none⟩) (mx L) (mx L))) P O w.heap.size BP G s.M (spread t s.M (fun j => L.getD j ⟨none, 0, 0, []⟩) ⟨some ⟨w5.heap.size, 0, none⟩, mx L, mx L, tab (mx L) (par L)⟩ 0) from (S2.2.2.set HPL.out ⟨some ⟨w5.heap.size, 0, none⟩, mx L, mx L, tab (mx L) (par L)⟩ HX.out (fun _ a ha => by injection ha with ha; subst ha; have := ZX.out; exact ⟨NS.out _ (by show w.heap.size ≤ w5.heap.size; omega), by show w5.heap.size ≠ G; omega⟩)).congr (q := spread t s.M (fun j => L.getD j ⟨none, 0, 0, []⟩) ⟨some ⟨w5.heap.size, 0, none⟩, mx L, mx L, tab (mx L) (par L)⟩ 0) (fun m hm => by
    unfold spread
    have e : (m = pm) ↔ ((m : Int) = t % (s.M : Int)) := by rw [HPM.out]; omega
    simp only [e]))
  have A7 := Lib.hid (S2.2.1.but b7 (fun k hk e => NS.out G (by have := GB.out; omega) (e ▸ hk)))
  have C7 := Lib.hid (show Below w.heap.size w (w6.setCell ⟨G, pm, none⟩ (.slice (some ⟨w5.heap.size, 0, none⟩) (mx L) (mx L))) from S2.1.trans (b7.below (fun k e => by have := GB.out; omega) S2.1.size))
  refine hK _ _ (fun h => absurd h (by decide)) ?_
  refine early_done (by kernel_rfl) ?_
  generalize hX : (⟨some ⟨w5.heap.size, 0, none⟩, mx L, mx L, tab (mx L) (par L)⟩ : Sl) = X at *
  have XL := Lib.hid (show X.l = tab s.b.toNat (par L) ∧ (X.n : Int) = s.b by rw [← hX, ← LB.out]; exact ⟨rfl, by show ((mx L : Nat) : Int) = s.b; have := LB.out; have := b48.out; omega⟩)
  generalize w6.setCell ⟨G, pm, none⟩ (.slice (some ⟨w5.heap.size, 0, none⟩) (mx L) (mx L)) = V7 at *
  clear S0 S1 S2 HX ZX kc kf b7 hX CV AV PVH
  have hk4 : KC ≤ 4 := by have := HKK.out; omega
  go_wp2_with fail
  go_loopw [51] (fun q wr => ∃ j : Nat, j ≤ KC ∧ q = .int .i64 (j : Int) ∧ Below w.heap.size w wr ∧ Arr wr P O s ∧ Pt wr P O w.heap.size BP G s.M (spread t s.M (fun j => L.getD j ⟨none, 0, 0, []⟩) X j)) (fun q _ => KC - (RowKit.intOf q).toNat)
  case atStart => exact ⟨0, Nat.zero_le _, rfl, C7.out, A7.out, P7.out⟩
  case round =>
    obtain ⟨j, hj, rfl, k1, k2, k3⟩ := hrel
    have C8 := Lib.hid k1
    have A8 := Lib.hid k2
    have P8 := Lib.hid k3
    clear k1 k2 k3 C7 A7 P7
    by_cases hlt : j < KC
    · obtain ⟨hjl, b, off, rfl, hc, hh, hx⟩ := (HL0.out.below C8.out).one hlt
      have HH := Lib.hid hh
      have HE := Lib.hid (show L.getD j ⟨none, 0, 0, []⟩ = L[j] by rw [List.getD_eq_getElem?_getD, List.getElem?_eq_getElem hjl]; rfl)
      have HOJ := Lib.hid (HO.out _ (List.getElem_mem hjl))
      have HLT := Lib.hid (show ∀ a, (L[j]).A = some a → 0 < (L[j]).n → a.block < w.heap.size by
        intro a ha h0
        obtain ⟨bb, oo, e1, hlt2, _⟩ := (HL0.out.has _ (List.getElem_mem hjl)).2 h0
        rw [ha] at e1
        injection e1 with e1
        rw [e1]; exact hlt2)
      clear hh
      generalize L[j] = x at *
      obtain ⟨xA, xn, xc, xl⟩ := x
      simp only at hc hx
      go_wp2_with fail
      obtain ⟨mj, hmj⟩ : ∃ mj : Nat, (t + 1 + (j : Int)) % (s.M : Int) = (mj : Int) := ⟨((t + 1 + (j : Int)) % (s.M : Int)).toNat, by have := Int.emod_nonneg (t + 1 + (j : Int)) (show (s.M : Int) ≠ 0 by omega); omega⟩
      have HML := Lib.hid (show mj < s.M by have := Int.emod_lt_of_pos (t + 1 + (j : Int)) (show 0 < (s.M : Int) by omega); omega)
      have HMJ := Lib.hid hmj
      clear hmj hc
      have S0 : (fun w' : World => Below w.heap.size w w' ∧ Arr w' P O s ∧ Pt w' P O w.heap.size BP G s.M (spread t s.M (fun j => L.getD j ⟨none, 0, 0, []⟩) X j)) wr.drew := ⟨⟨C8.out.os, C8.out.tape, C8.out.output, C8.out.size, C8.out.block⟩, A8.out.drew, P8.out.drew⟩
      refine wp_region_early (fun w' : World => Below w.heap.size w w' ∧ Arr w' P O s ∧ Pt w' P O w.heap.size BP G s.M (spread t s.M (fun j => L.getD j ⟨none, 0, 0, []⟩) X j)) (fun j => decide (j ≠ 10)) (by kernel_rfl) ?_
      change wpEarly _ _ _ _ _ _ 11 (Array.replicate 11 false) _ wr.drew
      refine early_take (i := 0) 56 (.slice (some ⟨G, 0, none⟩) s.M s.M) rfl rfl (by kernel_rfl) (by kernel_rfl) (by kernel_rfl) (by kernel_rfl) rfl (fun _ _ _ h => h) (fun w' hw' => by obtain ⟨hB, hA, hP⟩ := hw'; have k := hP.parts.cell 0; go_simp) S0 ?_
      simp only [Act.put, List.setIfInBounds_toArray, List.set_cons_zero, List.set_cons_succ]
      refine early_take (i := 1) 57 (.pointer (some ⟨P.a, 0, none⟩)) rfl rfl (by kernel_rfl) (by kernel_rfl) (by kernel_rfl) (by kernel_rfl) rfl (fun _ _ _ h => h) (fun w' hw' => by obtain ⟨hB, hA, hP⟩ := hw'; have k := hP.box.1.cell 0; go_simp) S0 ?_
      simp only [Act.put, List.setIfInBounds_toArray, List.set_cons_zero, List.set_cons_succ]
      refine early_take (i := 2) 58 (.pointer (some ⟨P.a, 0, none⟩)) rfl rfl (by kernel_rfl) (by kernel_rfl) (by kernel_rfl) (by kernel_rfl) rfl (fun _ _ _ h => h) (fun w' hw' => by go_simp) S0 ?_
      simp only [Act.put, List.setIfInBounds_toArray, List.set_cons_zero, List.set_cons_succ]
      refine early_take (i := 3) 59 (.pointer (some ⟨P.a, 0, none⟩)) rfl rfl (by kernel_rfl) (by kernel_rfl) (by kernel_rfl) (by kernel_rfl) rfl (fun _ _ _ h => h) (fun w' hw' => by go_simp) S0 ?_
      simp only [Act.put, List.setIfInBounds_toArray, List.set_cons_zero, List.set_cons_succ]
      refine early_take (i := 4) 60 (sv (s.M : Int) s.b s.g s.s s.n s.l) rfl rfl (by kernel_rfl) (by kernel_rfl) (by kernel_rfl) (by kernel_rfl) rfl (fun _ _ _ h => h) (fun w' hw' => exec_shape (x := .tmp 59) rfl rfl hw'.2.1.range) S0 ?_
      simp only [Act.put, List.setIfInBounds_toArray, List.set_cons_zero, List.set_cons_succ]
      refine early_take (i := 5) 61 (.int .i64 t) rfl rfl (by kernel_rfl) (by kernel_rfl) (by kernel_rfl) (by kernel_rfl) rfl (fun _ _ _ h => h) (fun w' hw' => by go_simp) S0 ?_
      simp only [Act.put, List.setIfInBounds_toArray, List.set_cons_zero, List.set_cons_succ]
      refine early_take (i := 6) 62 (.int .i64 (j : Int)) rfl rfl (by kernel_rfl) (by kernel_rfl) (by kernel_rfl) (by kernel_rfl) rfl (fun _ _ _ h => h) (fun w' hw' => by go_simp) S0 ?_
      simp only [Act.put, List.setIfInBounds_toArray, List.set_cons_zero, List.set_cons_succ]
      refine early_take (i := 8) 64 (.slice xA xn xc) rfl rfl (by kernel_rfl) (by kernel_rfl) (by kernel_rfl) (by kernel_rfl) rfl (fun _ _ _ h => h) (fun w' hw' => by go_simp) S0 ?_
      simp only [Act.put, List.setIfInBounds_toArray, List.set_cons_zero, List.set_cons_succ]
      refine early_only (i := 7) (by kernel_rfl) rfl (fun K hK => ?_)
      simp only [opWp, List.getElem?_toArray, List.getElem?_cons_succ, List.getElem?_cons_zero]
      go_simp
      go_at_call 67
      refine (member_call A8.out.wf t (by have := HT.out; have := hN.out; omega) (j : Int) (by have := HKK.out; omega) _).mono ?_
      rintro e w9 ⟨rfl, hb⟩
      rw [HMJ.out]
      have S1 : (fun w' : World => Below w.heap.size w w' ∧ Arr w' P O s ∧ Pt w' P O w.heap.size BP G s.M (spread t s.M (fun j => L.getD j ⟨none, 0, 0, []⟩) X j)) w9 := ⟨S0.1.trans (hb.mono S0.1.size), S0.2.1.up hb, S0.2.2.up hb⟩
      have H9 := Lib.hid (Has.below (w := wr.drew) HH.out hb)
      clear hb
      refine hK _ _ (fun _ => S1) ?_
      refine early_take (i := 9) 65 (.pointer (some ⟨G, mj, none⟩)) rfl rfl (by kernel_rfl) (by kernel_rfl) (by kernel_rfl) (by kernel_rfl) rfl (fun _ _ _ h => h) (fun w' hw' => by have hpl := HML.out; go_simp) S1 ?_
      simp only [Act.put, List.setIfInBounds_toArray, List.set_cons_zero, List.set_cons_succ]
      refine early_only (i := 10) (by kernel_rfl) rfl (fun K hK => ?_)
      simp only [opWp, List.getElem?_toArray, List.getElem?_cons_succ, List.getElem?_cons_zero]
      have kc := S1.2.2.cell HML.out
      have kf := S1.2.2.row.frozen mj
      go_simp
      have b7 := But.own w9 G mj (.slice xA xn xc)
      have P10 := Lib.hid (show Pt (w9.setCell ⟨G, mj, none⟩ (.slice xA xn xc)) P O w.heap.size BP G s.M (spread t s.M (fun j => L.getD j ⟨none, 0, 0, []⟩) X (j + 1)) from (S1.2.2.set HML.out ⟨xA, xn, xc, xl⟩ H9.out (fun h0 a ha => ⟨HOJ.out a ha, by have := HLT.out a ha h0; have := GB.out; omega⟩)).congr (fun m hm => by
        have e : (m = mj) ↔ ((m : Int) = (t + 1 + (j : Int)) % (s.M : Int)) := by rw [HMJ.out]; omega
        show _ = (if (m : Int) = (t + 1 + (j : Int)) % (s.M : Int) then L.getD j ⟨none, 0, 0, []⟩ else _)
        rw [HE.out]
        simp only [e]))
      have A10 := Lib.hid (S1.2.1.but b7 (fun k hk e => NS.out G (by have := GB.out; omega) (e ▸ hk)))
      have C10 := Lib.hid (show Below w.heap.size w (w9.setCell ⟨G, mj, none⟩ (.slice xA xn xc)) from S1.1.trans (b7.below (fun k e => by have := GB.out; omega) S1.1.size))
      refine hK _ _ (fun h => absurd h (by decide)) ?_
      refine early_done (by kernel_rfl) ?_
      generalize w9.setCell ⟨G, mj, none⟩ (.slice xA xn xc) = V10 at *
      clear S0 S1 kc kf b7
      go_wp2
      go_roundw
      case rel => exact ⟨j + 1, by omega, by go_num, C10.out, A10.out, P10.out⟩
      case measure => simp [RowKit.intOf]; omega
    · obtain rfl : j = KC := by omega
      have k1 := P8.out.box.1.cell 0
      obtain ⟨c0, c1, c2, c3, c4, c5⟩ := A8.out.shape
      go_wp2_with fail
      refine (at_call A8.out.wf t (by have := HT.out; have := hN.out; omega) wr).mono ?_
      rintro e w11 ⟨rfl, hb⟩
      have bel : Below w11.heap.size w11 (w11.alloc (.cells #[.int .i64 (s.at_ t)] 3)) := (Below.refl _ _).alloc (Nat.le_refl _) _
      have bel2 : Below wr.heap.size wr (w11.alloc (.cells #[.int .i64 (s.at_ t)] 3)) := hb.trans (bel.mono hb.size)
      have A12 := Lib.hid (A8.out.up bel2)
      have P12 := Lib.hid (P8.out.up bel2)
      have C12 := Lib.hid (C8.out.trans (bel2.mono C8.out.size))
      have sz12 : w.heap.size ≤ w11.heap.size := Nat.le_trans C8.out.size hb.size
      have Q12 := Lib.hid (show Ps (w11.alloc (.cells #[.int .i64 (s.at_ t)] 3)) P O w.heap.size BP w11.heap.size G s.M (spread t s.M (fun j => L.getD j ⟨none, 0, 0, []⟩) X j) (s.at_ t) from ⟨P12.out, At.new _ 3 rfl, NS.out _ sz12⟩)
      clear hb bel bel2 sz12 c0 c1 c2 c3 c4 c5 k1
      have k1 := P12.out.box.1.cell 0
      have IN := Lib.hid (at_in A12.out.wf HT.out)
      have HSP := Lib.hid (show ∀ m, m < s.M → (((spread t s.M (fun j => L.getD j ⟨none, 0, 0, []⟩) X (s.M - 1) m).n : Nat) : Int) = s.b from fun m hm => spread_all (by omega) _ _ (fun x => (x.n : Int) = s.b) (fun k hk => by
        have hkl : k < L.length := by rw [HL0.out.len]; have := HKK.out; omega
        rw [List.getD_eq_getElem?_getD, List.getElem?_eq_getElem hkl]
        exact HF.out _ (List.getElem_mem hkl)) XL.out.2 m hm)
      have HJ := Lib.hid (show j = s.M - 1 by have := HKK.out; omega)
      go_wp2_with fail
      refine (each_any 128 _ (fun k d u => d.put u (s.at_ t) (spread t s.M (fun j => L.getD j ⟨none, 0, 0, []⟩) X j k).l) (put_act (s.at_ t) (fun k => (spread t s.M (fun j => L.getD j ⟨none, 0, 0, []⟩) X j k).l)) (fun w' O' => Ps w' P O' w.heap.size BP w11.heap.size G s.M (spread t s.M (fun j => L.getD j ⟨none, 0, 0, []⟩) X j) (s.at_ t)) (fun m w' => enters69 m _ _ _ w') (fun _ _ _ _ hz hb hO => hz.frame hb hO)
        (fun m w' O' s' hm hs ha hz hu' => by
          have hz2 : Ps w' P O' w.heap.size BP w11.heap.size G s'.M (spread t s.M (fun j => L.getD j ⟨none, 0, 0, []⟩) X j) (s.at_ t) := by rw [hs.M]; exact hz
          exact putOne _ _ _ _ m _ (by rw [hs.M]; exact hm) (s.at_ t) (by rw [hs.S]; exact IN.out) (by rw [hs.b]; rw [HJ.out]; exact HSP.out m hm) ha hz2 hu')
        A12.out Q12.out (by omega)).mono ?_
      rintro e w13 ⟨er, s1, rfl, hD, hE⟩
      obtain ⟨O1, q1, q2, q3⟩ := hD
      have A13 := Lib.hid q1
      have O13 := Lib.hid (show ∀ k, O1 k → O k ∨ w.heap.size ≤ k from fun k hk => (q2 k hk).imp id (fun h => Nat.le_trans C12.out.size h))
      have B13 := Lib.hid (show But O w w13 from (show But O w _ from ⟨C12.out.os, C12.out.tape, C12.out.output, C12.out.size, fun k hk _ => C12.out.block k hk⟩).trans q3 (fun k hk _ => hk))
      have Q13 := Lib.hid (Q12.out.frame q3 q2)
      clear q1 q2 q3 k1
      cases hE with
      | gone hg =>
        have X13 := Lib.hid (show PutAs (s.at_ t) (spreadB t s.M (fun j => (L.getD j ⟨none, 0, 0, []⟩).l) (tab s.b.toNat (par L)) (s.M - 1)) s s1 3 from .gone (hg.mono (by omega)))
        clear hg
        go_wp2
        go_ret
        exact ⟨3, s1, rfl, ⟨O1, A13.out, O13.out, B13.out⟩, X13.out⟩
      | done hr ht =>
        have R13 := Lib.hid hr
        have k1 := Q13.out.1.box.1.cell 0
        clear hr ht
        go_wp2_with fail
        refine (Flush_any A13.out (by have := R13.out.u.2; omega)).mono ?_
        rintro e w14 ⟨er, s2, rfl, hD, hE⟩
        have D14 := Lib.hid (hD.trans O13.out B13.out)
        have X14 := Lib.hid (show PutAs (s.at_ t) (spreadB t s.M (fun j => (L.getD j ⟨none, 0, 0, []⟩).l) (tab s.b.toNat (par L)) (s.M - 1)) s s2 er by
          have hB : ∀ m, (spread t s.M (fun j => L.getD j ⟨none, 0, 0, []⟩) X j m).l = spreadB t s.M (fun j => (L.getD j ⟨none, 0, 0, []⟩).l) (tab s.b.toNat (par L)) (s.M - 1) m := fun m => by rw [spread_l, XL.out.1, HJ.out]
          cases hE with
          | gone hg => exact .gone ((R13.out.gone hg).mono (by omega))
          | done hr ht =>
            refine .done ((R13.out.trans (R'' := fun j d d' => ∃ u1 u2, d' = (d.put u1 (s.at_ t) (spreadB t s.M (fun j => (L.getD j ⟨none, 0, 0, []⟩).l) (tab s.b.toNat (par L)) (s.M - 1) j)).fl u2) hr ?_ ?_).mono (fun _ _ _ _ h => h) (by omega)) (fun i hi => ht i (by rw [R13.out.same.M]; exact hi))
            · rintro m d d' d'' hm ⟨u1, rfl⟩ ⟨u2, rfl⟩
              exact ⟨u1, u2, by rw [hB]⟩
            · rintro m d d' hm ⟨u, rfl⟩ hd
              exact (fl_turns d u).dies hd)
        clear hD hE k1
        go_wp2
        go_ret
        exact ⟨er, s2, rfl, D14.out, X14.out⟩
end
end Go.Proofs.YtplmdmchkaacoaaGreat
