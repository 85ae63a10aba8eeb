/-
  THE WALK OF super.parse: the eight numbers of eighteen bytes.
-/
import Derived.Test.YtkhjeaabhjfkgaaEnds
import Derived.Test.YtkhjeaabhjfkgaaEarly
namespace Go.Proofs.Ytkhjeaabhjfkgaa
open Go.RowKit
set_option linter.unusedVariables false
set_option maxRecDepth 100000

theorem take_fld (g : Nat) (A : Option Addr) (c : Nat) (L : List (BitVec 8)) (i s : Nat) (w : World) (h8 : s ≤ 8) (hn : L.length ≤ 1000000) (hs : i + s ≤ L.length) (h : Rd w g A (L.drop i).length c (L.drop i) false) :
    Calls Try.prog 31 #[.pointer (some ⟨g, 0, none⟩), .int .i64 s] w (TakeDone w g A (fld L i s) (L.drop (i + s)) false) := by
  have h1 := take_good g A (L.drop i).length c (L.drop i) false s s w (by rw [List.length_drop]; omega) (by rw [List.length_drop]; omega) (by omega) h
  rw [List.take_take, Nat.min_self, List.drop_drop] at h1
  exact h1

/-- The answer's block B, the reader at g with all behind the first i bytes of L, and, once it is there, the label's block P. -/
structure Par (w0 w : World) (B g P : Nat) (cs : Array Value) (L : List (BitVec 8)) (i : Nat) : Prop where
  res : At w B Lab.zero.cs 29
  rd : ∃ A c, Rd w g A (L.drop i).length c (L.drop i) false ∧ ∀ x, A = some x → B < x.block ∧ x.block ≠ P
  lab : At w P cs 29
  ne : B < g ∧ g ≠ P ∧ B < P
  bel : Below B w0 w
theorem Par.take {w0 w w' : World} {B g P : Nat} {cs : Array Value} {L : List (BitVec 8)} {i j : Nat} {A : Option Addr} (h : Par w0 w B g P cs L i) (hA : ∀ x, A = some x → B < x.block ∧ x.block ≠ P) (hS : Step w g A (L.drop j) false w') (hB : w0.heap.size = B) : Par w0 w' B g P cs L j := by
  obtain ⟨⟨A2, c2, hr, hx⟩, hb⟩ := hS
  obtain ⟨n1, n2, n3⟩ := h.ne
  refine ⟨h.res.but hb (by omega), ⟨A2, c2, hr, fun x e => ?_⟩, h.lab.but hb (by omega), ⟨n1, n2, n3⟩, h.bel.trans (hb.below (fun k e => by omega) (by have := h.res.lt; omega))⟩
  obtain ⟨y, e2, e3⟩ := hx x e
  rw [e3]
  exact hA y e2
theorem Par.set {w0 w : World} {B g P : Nat} {cs : Array Value} {L : List (BitVec 8)} {i : Nat} (h : Par w0 w B g P cs L i) (j : Nat) (v : Value) : Par w0 (w.setCell ⟨P, j, none⟩ v) B g P (cs.setIfInBounds j v) L i := by
  obtain ⟨n1, n2, n3⟩ := h.ne
  obtain ⟨A, c, hr, hA⟩ := h.rd
  have hb : But (fun k => k = P) w (w.setCell ⟨P, j, none⟩ v) := (But.refl (fun k => k = P) w).setCell (p := ⟨P, j, none⟩) (fun _ => rfl) v
  exact ⟨h.res.but hb (by omega), ⟨A, c, hr.but hb n2 (fun x e => (hA x e).2), hA⟩, h.lab.set j v, ⟨n1, n2, n3⟩, h.bel.setCell (Nat.le_of_lt n3) v⟩
theorem Par.start {w0 w w1 : World} {B g : Nat} {L : List (BitVec 8)} {A : Option Addr} {j : Nat} (hres : At w B Lab.zero.cs 29) (hbel : Below B w0 w) (hB : w0.heap.size = B) (hg : B < g) (hA : ∀ x, A = some x → B < x.block) (hS : Step w g A (L.drop j) false w1) (h0 : 0 < (L.drop j).length) :
    Par w0 (w1.alloc (.cells Lab.zero.cs 29)) B g w1.heap.size Lab.zero.cs L j := by
  obtain ⟨⟨A2, c2, hr, hx⟩, hb⟩ := hS
  have h1 := hres.but hb (by omega)
  have hlt := h1.lt
  have hgl := hr.lt
  have hb2 : Below B w0 w1 := hbel.trans (hb.below (fun k e => by omega) (by have := hres.lt; omega))
  · refine ⟨h1.alloc _, ⟨A2, c2, hr.but (S := fun _ => False) ((But.refl _ _).alloc _) (fun h => h) (fun _ _ h => h), fun x e => ?_⟩, At.new _ _ rfl, ⟨hg, by omega, hlt⟩, hb2.alloc (by omega) _⟩
    obtain ⟨y, e2, e3⟩ := hx x e
    obtain ⟨b', o', e4, hlt', _⟩ := hr.has.2 h0
    rw [e] at e4
    injection e4 with e4
    subst e4
    exact ⟨by rw [e3]; exact hA y e2, by show b' ≠ _; omega⟩

set_option maxHeartbeats 1000000 in
theorem parse_any (A : Option Addr) (c : Nat) (L : List (BitVec 8)) (w : World) (h : Has w A 18 L) :
    Calls Try.prog 20 #[.slice A 18 c] w fun e w' => e = .returned (.tuple #[.int .u64 (fld L 0 4 : Nat), .agg (lab L).cs]) ∧ Below w.heap.size w w' := by
  have hL : L.length = 18 := h.1
  have HL := Lib.hid hL
  have HA := Lib.hid (h.below ((Below.refl _ _).alloc (Nat.le_refl _) (.cells Lab.zero.cs 29)))
  have RS := Lib.hid (At.new (w := w) (g := w.heap.size) Lab.zero.cs 29 rfl)
  have BB := Lib.hid ((Below.refl w.heap.size w).alloc (Nat.le_refl _) (.cells Lab.zero.cs 29))
  clear h hL
  go_enter Try.func20, Try.ntmps20
  go_wp2_with fail
  refine (read_any A 18 c L _ (by omega) HA.out).mono ?_
  rintro e w1 ⟨g, A1, c1, rfl, hr, hb1, hg1, hx1⟩
  have hsz : (w.alloc (.cells Lab.zero.cs 29)).heap.size = w.heap.size + 1 := by simp
  rw [hsz] at hg1
  have RS := Lib.hid (RS.out.below hb1 RS.out.lt)
  have BB := Lib.hid (BB.out.trans (hb1.mono (by omega)))
  have RD := Lib.hid (show Rd w1 g A1 (L.drop 0).length c1 (L.drop 0) false by rw [List.drop_zero, HL.out]; exact hr)
  have X1 := Lib.hid (show ∀ x, A1 = some x → w.heap.size < x.block from fun x e => by have := hx1 x e; omega)
  clear hr hb1 hx1 hsz
  go_wp2_with fail
  refine (take_fld g A1 c1 L 0 4 w1 (by omega) (by rw [HL.out]; omega) (by rw [HL.out]; omega) RD.out).mono ?_
  rintro e w2 ⟨rfl, hS⟩
  have E := Lib.hid (Par.start RS.out BB.out rfl (by omega) X1.out hS (by rw [List.length_drop, HL.out]; omega))
  clear hS RS BB RD X1
  have hf0 : fld L 0 4 < 4294967296 := fld_lt L 0 4
  obtain ⟨y0, hy0⟩ : ∃ y, y = fld L 0 4 := ⟨_, rfl⟩
  rw [← hy0] at hf0 ⊢
  have Y0 := Lib.hid hy0
  clear hy0
  have EP := Lib.hid (show w.heap.size < w2.heap.size from E.out.ne.2.2)
  go_wp2_with fail
  generalize hP : w2.heap.size = P at *
  clear hP
  obtain ⟨Aq, cq, hr, hA⟩ := E.out.rd
  refine (take_fld g Aq cq L 4 1 _ (by omega) (by rw [HL.out]; omega) (by rw [HL.out]; omega) hr).mono ?_
  rintro e w3 ⟨rfl, hS⟩
  have E := Lib.hid (E.out.take hA hS rfl)
  clear hS hr hA
  have hfk : fld L 4 1 < 256 := fld_lt L 4 1
  obtain ⟨yk, hyk⟩ : ∃ y, y = fld L 4 1 := ⟨_, rfl⟩
  rw [← hyk] at hfk ⊢
  have Yk := Lib.hid hyk
  clear hyk
  have cc : w3.cell? ⟨P, 6, none⟩ = some (.int .i64 0) := E.out.lab.cell 6
  have fz := E.out.lab.frozen 6
  go_wp2_with fail
  have E := Lib.hid (E.out.set 6 (.int .i64 (yk : Int)))
  clear cc fz
  obtain ⟨Aq, cq, hr, hA⟩ := E.out.rd
  refine (take_fld g Aq cq L 5 1 _ (by omega) (by rw [HL.out]; omega) (by rw [HL.out]; omega) hr).mono ?_
  rintro e w4 ⟨rfl, hS⟩
  have E := Lib.hid (E.out.take hA hS rfl)
  clear hS hr hA
  have hfm : fld L 5 1 < 256 := fld_lt L 5 1
  obtain ⟨ym, hym⟩ : ∃ y, y = fld L 5 1 := ⟨_, rfl⟩
  rw [← hym] at hfm ⊢
  have Ym := Lib.hid hym
  clear hym
  have cc : w4.cell? ⟨P, 0, none⟩ = some (.int .i64 0) := E.out.lab.cell 0
  have fz := E.out.lab.frozen 0
  go_wp2_with fail
  have E := Lib.hid (E.out.set 0 (.int .i64 (ym : Int)))
  clear cc fz
  obtain ⟨Aq, cq, hr, hA⟩ := E.out.rd
  refine (take_fld g Aq cq L 6 2 _ (by omega) (by rw [HL.out]; omega) (by rw [HL.out]; omega) hr).mono ?_
  rintro e w5 ⟨rfl, hS⟩
  have E := Lib.hid (E.out.take hA hS rfl)
  clear hS hr hA
  have hfb : fld L 6 2 < 65536 := fld_lt L 6 2
  obtain ⟨yb, hyb⟩ : ∃ y, y = fld L 6 2 := ⟨_, rfl⟩
  rw [← hyb] at hfb ⊢
  have Yb := Lib.hid hyb
  clear hyb
  have cc : w5.cell? ⟨P, 1, none⟩ = some (.int .i64 0) := E.out.lab.cell 1
  have fz := E.out.lab.frozen 1
  go_wp2_with fail
  have E := Lib.hid (E.out.set 1 (.int .i64 (yb : Int)))
  clear cc fz
  obtain ⟨Aq, cq, hr, hA⟩ := E.out.rd
  refine (take_fld g Aq cq L 8 2 _ (by omega) (by rw [HL.out]; omega) (by rw [HL.out]; omega) hr).mono ?_
  rintro e w6 ⟨rfl, hS⟩
  have E := Lib.hid (E.out.take hA hS rfl)
  clear hS hr hA
  have hfg : fld L 8 2 < 65536 := fld_lt L 8 2
  obtain ⟨yg, hyg⟩ : ∃ y, y = fld L 8 2 := ⟨_, rfl⟩
  rw [← hyg] at hfg ⊢
  have Yg := Lib.hid hyg
  clear hyg
  have cc : w6.cell? ⟨P, 2, none⟩ = some (.int .i64 0) := E.out.lab.cell 2
  have fz := E.out.lab.frozen 2
  go_wp2_with fail
  have E := Lib.hid (E.out.set 2 (.int .i64 (yg : Int)))
  clear cc fz
  obtain ⟨Aq, cq, hr, hA⟩ := E.out.rd
  refine (take_fld g Aq cq L 10 2 _ (by omega) (by rw [HL.out]; omega) (by rw [HL.out]; omega) hr).mono ?_
  rintro e w7 ⟨rfl, hS⟩
  have E := Lib.hid (E.out.take hA hS rfl)
  clear hS hr hA
  have hfs : fld L 10 2 < 65536 := fld_lt L 10 2
  obtain ⟨ys, hys⟩ : ∃ y, y = fld L 10 2 := ⟨_, rfl⟩
  rw [← hys] at hfs ⊢
  have Ys := Lib.hid hys
  clear hys
  have cc : w7.cell? ⟨P, 3, none⟩ = some (.int .i64 0) := E.out.lab.cell 3
  have fz := E.out.lab.frozen 3
  go_wp2_with fail
  have E := Lib.hid (E.out.set 3 (.int .i64 (ys : Int)))
  clear cc fz
  obtain ⟨Aq, cq, hr, hA⟩ := E.out.rd
  refine (take_fld g Aq cq L 12 2 _ (by omega) (by rw [HL.out]; omega) (by rw [HL.out]; omega) hr).mono ?_
  rintro e w8 ⟨rfl, hS⟩
  have E := Lib.hid (E.out.take hA hS rfl)
  clear hS hr hA
  have hfn : fld L 12 2 < 65536 := fld_lt L 12 2
  obtain ⟨yn, hyn⟩ : ∃ y, y = fld L 12 2 := ⟨_, rfl⟩
  rw [← hyn] at hfn ⊢
  have Yn := Lib.hid hyn
  clear hyn
  have cc : w8.cell? ⟨P, 4, none⟩ = some (.int .i64 0) := E.out.lab.cell 4
  have fz := E.out.lab.frozen 4
  go_wp2_with fail
  have E := Lib.hid (E.out.set 4 (.int .i64 (yn : Int)))
  clear cc fz
  obtain ⟨Aq, cq, hr, hA⟩ := E.out.rd
  refine (take_fld g Aq cq L 14 4 _ (by omega) (by rw [HL.out]; omega) (by rw [HL.out]; omega) hr).mono ?_
  rintro e w9 ⟨rfl, hS⟩
  have E := Lib.hid (E.out.take hA hS rfl)
  clear hS hr hA
  have hfl : fld L 14 4 < 4294967296 := fld_lt L 14 4
  obtain ⟨yl, hyl⟩ : ∃ y, y = fld L 14 4 := ⟨_, rfl⟩
  rw [← hyl] at hfl ⊢
  have Yl := Lib.hid hyl
  clear hyl
  have cc : w9.cell? ⟨P, 5, none⟩ = some (.int .i64 0) := E.out.lab.cell 5
  have fz := E.out.lab.frozen 5
  go_wp2_with fail
  have E := Lib.hid (E.out.set 5 (.int .i64 (yl : Int)))
  clear cc fz
  generalize hW : w9.setCell ⟨P, 5, none⟩ (.int .i64 (yl : Int)) = W at *
  clear hW
  have LB := Lib.hid (show At W.drew P (Lab.mk ym yb yg ys yn yl yk).cs 29 from E.out.lab)
  have RB := Lib.hid (show At W.drew w.heap.size Lab.zero.cs 29 from E.out.res)
  have BB := Lib.hid (show Below w.heap.size w W.drew from below_drewN E.out.bel 1)
  clear E
  have S0 : (fun w' : World => At w' P (Lab.mk ym yb yg ys yn yl yk).cs 29) W.drew := LB.out
  refine wp_region_early (fun w' : World => At w' P (Lab.mk ym yb yg ys yn yl yk).cs 29) (fun _ => true) (by kernel_rfl) ?_
  change wpEarly _ _ _ _ _ _ 4 (Array.replicate 4 false) _ W.drew
  refine early_take (i := 0) 45 (.int .u64 (y0 : Int)) rfl rfl (by kernel_rfl) (by kernel_rfl) (by kernel_rfl) (by kernel_rfl) rfl (fun _ _ _ h => h) (fun w' hw' => by go_simp) S0 ?_
  simp only [Act.put, List.setIfInBounds_toArray, List.set_cons_zero, List.set_cons_succ]
  refine early_take (i := 1) 46 (.agg (Lab.mk ym yb yg ys yn yl yk).cs) rfl rfl (by kernel_rfl) (by kernel_rfl) (by kernel_rfl) (by kernel_rfl) rfl (fun _ _ _ h => h) (fun w' hw' => exec_load_whole (x := .tmp 6) rfl rfl hw' Try.underlying29 size29) S0 ?_
  simp only [Act.put, List.setIfInBounds_toArray, List.set_cons_zero, List.set_cons_succ]
  refine early_take (i := 2) 2 (.int .u64 (y0 : Int)) rfl rfl (by kernel_rfl) (by kernel_rfl) (by kernel_rfl) (by kernel_rfl) rfl (fun _ _ _ h => h) (fun w' hw' => by go_simp) S0 ?_
  simp only [Act.put, List.setIfInBounds_toArray, List.set_cons_zero, List.set_cons_succ]
  refine early_only (i := 3) (by kernel_rfl) rfl (fun K hK => ?_)
  simp only [opWp, List.getElem?_toArray, List.getElem?_cons_succ, List.getElem?_cons_zero]
  refine wp_store_part 29 (.tmp 3) (.tmp 46) rfl w.heap.size 0 29 Lab.zero.cs (Lab.mk ym yb yg ys yn yl yk).cs rfl rfl RB.out size29 (by simp [cs_size]) (cs_all _) ?_
  intro w10 hat10 hb10
  rw [part_lab] at hat10
  refine hK _ _ (fun _ => LB.out.but hb10 (by have := EP.out; omega)) ?_
  have R := Lib.hid hat10
  have BB := Lib.hid (BB.out.trans (hb10.below (B := w.heap.size) (fun j e => by omega) (Nat.le_of_lt RB.out.lt)))
  clear hat10 hb10
  refine early_done (by kernel_rfl) ?_
  clear S0
  go_wp2
  refine bodyPost_ret (results_slot_cell (p := 3) (u := 2) (ty := 29) rfl _ _ w.heap.size _ _ rfl R.out Try.underlying29 size29) rfl ?_
  refine ⟨?_, BB.out⟩
  have e : lab L = Lab.mk ym yb yg ys yn yl yk := by
    unfold lab
    rw [Yk.out, Ym.out, Yb.out, Yg.out, Ys.out, Yn.out, Yl.out]
  rw [e, ← Y0.out]
  rfl

end Go.Proofs.Ytkhjeaabhjfkgaa
