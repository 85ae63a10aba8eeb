/-
  THE WALK OF GeomApart: any small shape.
-/
import Derived.Test.YtimehgckgpdmbaaAwake
import Derived.Test.YtimehgckgpdmbaaIn
import Derived.Test.YtimehgckgpdmbaaMap
import Derived.Deep.CutRange
import Derived.Deep.CutBlock
import Derived.Deep.DeepCutAuto
namespace Go.Proofs.Ytimehgckgpdmbaa
open Go.RowKit Go.Sort Go.Maps
set_option linter.unusedVariables false
set_option maxRecDepth 100000

/-- The shape's block, and the map of what was seen: ones from nought up to K. -/
structure Ap1 (w wr : World) (G bs : Nat) (K : Int) (cs : Array Value) : Prop where
  s : At wr G cs 23
  m : Mp wr bs (Upto K)
  below : Below w.heap.size w wr
  ne : ¬ bs = G
  ub : w.heap.size ≤ bs
/-- .. and the map of the places, up to L. -/
structure Ap2 (w wr : World) (G bs bp : Nat) (K L : Int) (cs : Array Value) : Prop where
  a : Ap1 w wr G bs K cs
  p : Mp wr bp (Upto L)
  ng : ¬ bp = G
  nb : ¬ bp = bs
  ub : w.heap.size ≤ bp

section
variable {w wr wx : World} {G bs bp : Nat} {K L : Int} {cs : Array Value}
theorem Ap1.up (h : Ap1 w wr G bs K cs) (hb : Below wr.heap.size wr wx) : Ap1 w wx G bs K cs :=
  ⟨h.s.below hb h.s.lt, h.m.block (hb.block bs h.m.lt), h.below.trans (hb.mono (Ytimehgckgpdmbaa.up h.below rfl)), h.ne, h.ub⟩
theorem Ap1.but (h : Ap1 w wr G bs K cs) {b : Nat} (hb : But (fun k => k = b) wr wx) (h1 : ¬ b = G) (h2 : ¬ b = bs) (h3 : w.heap.size ≤ b) : Ap1 w wx G bs K cs :=
  ⟨h.s.but hb (fun e => h1 e.symm), h.m.but hb (fun e => h2 e.symm), h.below.trans (hb.below (fun k e => by rw [e]; exact h3) (Ytimehgckgpdmbaa.up h.below rfl)), h.ne, h.ub⟩
theorem Ap1.bump (h : Ap1 w wr G bs K cs) (h0 : 0 ≤ K) (hK : K ≤ 1000000) :
    (Instr.lookup 44 (.map (some bs)) (.int .i64 K) false).run Try.prog wr = .ok (.int .i64 0) wr ∧ ∃ wx, (Instr.mapUpdate 44 (.map (some bs)) (.int .i64 K) (.int .i64 1)).run Try.prog wr = .ok () wx ∧ Ap1 w wx G bs (K + 1) cs ∧ But (fun k => k = bs) wr wx := by
  obtain ⟨h1, wx, h2, h3, h4⟩ := h.m.bump h0 hK
  exact ⟨h1, wx, h2, ⟨h.s.but h4 (fun e => h.ne e.symm), h3, h.below.trans (h4.below (fun k e => by rw [e]; exact h.ub) (Ytimehgckgpdmbaa.up h.below rfl)), h.ne, h.ub⟩, h4⟩
theorem Ap2.up (h : Ap2 w wr G bs bp K L cs) (hb : Below wr.heap.size wr wx) : Ap2 w wx G bs bp K L cs :=
  ⟨h.a.up hb, h.p.block (hb.block bp h.p.lt), h.ng, h.nb, h.ub⟩
theorem Ap2.bumpS (h : Ap2 w wr G bs bp K L cs) (h0 : 0 ≤ K) (hK : K ≤ 1000000) :
    (Instr.lookup 44 (.map (some bs)) (.int .i64 K) false).run Try.prog wr = .ok (.int .i64 0) wr ∧ ∃ wx, (Instr.mapUpdate 44 (.map (some bs)) (.int .i64 K) (.int .i64 1)).run Try.prog wr = .ok () wx ∧ Ap2 w wx G bs bp (K + 1) L cs := by
  obtain ⟨h1, wx, h2, h3, h4⟩ := h.a.bump h0 hK
  exact ⟨h1, wx, h2, h3, h.p.but h4 h.nb, h.ng, h.nb, h.ub⟩
theorem Ap2.bumpP (h : Ap2 w wr G bs bp K L cs) (h0 : 0 ≤ L) (hL : L ≤ 1000000) :
    (Instr.lookup 44 (.map (some bp)) (.int .i64 L) false).run Try.prog wr = .ok (.int .i64 0) wr ∧ ∃ wx, (Instr.mapUpdate 44 (.map (some bp)) (.int .i64 L) (.int .i64 1)).run Try.prog wr = .ok () wx ∧ Ap2 w wx G bs bp K (L + 1) cs := by
  obtain ⟨h1, wx, h2, h3, h4⟩ := h.p.bump h0 hL
  exact ⟨h1, wx, h2, h.a.but h4 h.ng h.nb h.ub, h3, h.ng, h.nb, h.ub⟩
theorem Ap1.at_ (h : Ap1 w wr G bs K cs) {K' : Int} (e : K = K') : Ap1 w wr G bs K' cs := e ▸ h
theorem Ap2.at_ (h : Ap2 w wr G bs bp K L cs) {K' L' : Int} (e : K = K') (e' : L = L') : Ap2 w wr G bs bp K' L' cs := e ▸ e' ▸ h
theorem grown_of_below (h : Below wr.heap.size wr wx) : wr.grownBy wx none := ⟨h.os, h.tape, h.output, h.size, fun k hk _ => h.block k hk⟩
end

theorem apart_of (x0 x1 x2 x3 x4 x5 m b g s n l : Int) (hS : Hid (Small m b g s n l)) (SHP : Hid (∀ w, Calls Try.prog 13 #[.agg #[.int .u8 x0, .int .u8 x1, .int .u8 x2, .int .u8 x3, .int .u8 x4, .int .u8 x5]] w fun e w' => e = .returned (sv m b g s n l) ∧ Below w.heap.size w w')) (Pn : Nat) (hP : Hid (pgs b g l = Pn)) (hm : 3 ≤ m ∧ m ≤ 16) (hb : 32 ≤ b ∧ b ≤ 512) (hg : 4 ≤ g ∧ g ≤ 64) (hs : 2 ≤ s ∧ s ≤ 16) (hl : 1 ≤ l ∧ l ≤ 100000) (h0 : 0 < (Pn : Int) ∧ (Pn : Int) ≤ 100000) (p3 : 1 ≤ g * s ∧ g * s ≤ 1024) (p4 : 0 ≤ g * s * (m - 2) ∧ g * s * (m - 2) ≤ 14336) (w : World) :
    Calls Try.prog 7 #[.agg #[.int .u8 x0, .int .u8 x1, .int .u8 x2, .int .u8 x3, .int .u8 x4, .int .u8 x5]] w fun e w' => e = .returned (.bool true) ∧ Below w.heap.size w w' := by
  have hmm := @run_makeMap Try.prog
  go_enter Try.func7, Try.ntmps7
  go_wp2_with fail
  have A := Lib.hid (At.new (w := w) (g := w.heap.size) #[.int .u8 x0, .int .u8 x1, .int .u8 x2, .int .u8 x3, .int .u8 x4, .int .u8 x5] 29 rfl)
  have B0 := Lib.hid ((Below.refl w.heap.size w).alloc (Nat.le_refl _) (.cells #[.int .u8 x0, .int .u8 x1, .int .u8 x2, .int .u8 x3, .int .u8 x4, .int .u8 x5] 29))
  refine (awake_any _).mono ?_
  rintro e w1 ⟨rfl, hb'⟩
  have A := Lib.hid (A.out.below hb' A.out.lt)
  have B0 := Lib.hid (B0.out.trans (hb'.mono (up B0.out rfl)))
  have c0 := A.out.cell 0; have c1 := A.out.cell 1; have c2 := A.out.cell 2; have c3 := A.out.cell 3; have c4 := A.out.cell 4; have c5 := A.out.cell 5
  clear hb'
  go_wp2_with fail
  refine (SHP.out _).mono ?_
  rintro e w2 ⟨rfl, hb'⟩
  have B0 := Lib.hid (B0.out.trans (hb'.mono (up B0.out rfl)))
  clear hb' c0 c1 c2 c3 c4 c5 A
  go_upto_region 4 with (fail)
  have A := Lib.hid (At.new (w := w2) (g := w2.heap.size) #[.int .i64 m, .int .i64 b, .int .i64 g, .int .i64 s, .int .i64 n, .int .i64 l] 23 rfl)
  have U := Lib.hid (up B0.out rfl)
  have B0 := Lib.hid (B0.out.alloc (up B0.out rfl) (.cells #[.int .i64 m, .int .i64 b, .int .i64 g, .int .i64 s, .int .i64 n, .int .i64 l] 23))
  generalize w2.alloc (.cells #[.int .i64 m, .int .i64 b, .int .i64 g, .int .i64 s, .int .i64 n, .int .i64 l] 23) = W at *
  generalize hG : w2.heap.size = G at *
  have UG := Lib.hid (show w.heap.size ≤ G from U.out)
  clear hG U
  have c0 := A.out.cell 0; have c1 := A.out.cell 1; have c2 := A.out.cell 2; have c3 := A.out.cell 3; have c4 := A.out.cell 4; have c5 := A.out.cell 5
  obtain ⟨_, w3, hst, hM3, hB3⟩ := (show Mp (W.alloc (.map #[] 0)) W.heap.size (Upto 0) by rw [Upto.zero]; exact Mp.made W).bump (by omega) (by omega)
  have R := Lib.hid (show Ap1 w w3 G W.heap.size 1 #[.int .i64 m, .int .i64 b, .int .i64 g, .int .i64 s, .int .i64 n, .int .i64 l] from ⟨(A.out.alloc _).but hB3 (fun e => by have := A.out.lt; omega), hM3, (B0.out.alloc (up B0.out rfl) _).trans (hB3.below (fun k e => by rw [e]; exact up B0.out rfl) (by simp; have := up B0.out rfl; omega)), fun e => by have := A.out.lt; omega, up B0.out rfl⟩)
  clear hM3 hB3 c0 c1 c2 c3 c4 c5
  go_upto_region 5 with (fail)
  clear hst A B0
  generalize W.heap.size = bs at *
  go_wp2_with fail
  go_loopw [18] (fun i wr => ∃ r : Nat, r ≤ 2 ∧ i = .int .i64 r ∧ Ap1 w wr G bs (1 + (r : Int) * (Pn : Int)) #[.int .i64 m, .int .i64 b, .int .i64 g, .int .i64 s, .int .i64 n, .int .i64 l]) (fun i _ => 2 - (RowKit.intOf i).toNat)
  case atStart => exact ⟨0, by omega, rfl, R.out.at_ (by simp)⟩
  case round =>
    obtain ⟨r, hr, rfl, hR⟩ := hrel
    have R1 := Lib.hid hR
    clear hR R
    have c0 := R1.out.s.cell 0; have c1 := R1.out.s.cell 1; have c2 := R1.out.s.cell 2; have c3 := R1.out.s.cell 3; have c4 := R1.out.s.cell 4; have c5 := R1.out.s.cell 5
    by_cases hlt : r < 2
    · go_wp2_with fail
      refine (pages_P m b g s n l _ hP.out hb hg hl _).mono ?_
      rintro e w4 ⟨rfl, hb'⟩
      have R2 := Lib.hid (R1.out.up hb')
      clear hb' c0 c1 c2 c3 c4 c5
      go_wp2_with fail
      go_loopw [23] (fun i wx => ∃ j : Nat, j ≤ Pn ∧ i = .int .i64 j ∧ Ap1 w wx G bs (1 + (r : Int) * (Pn : Int) + (j : Int)) #[.int .i64 m, .int .i64 b, .int .i64 g, .int .i64 s, .int .i64 n, .int .i64 l]) (fun i _ => Pn - (RowKit.intOf i).toNat)
      case atStart => exact ⟨0, Nat.zero_le _, rfl, R2.out.at_ (by simp)⟩
      case round =>
        obtain ⟨j, hj, rfl, hR⟩ := hrel
        have R3 := Lib.hid hR
        clear hR R2
        have hrP : 0 ≤ (r : Int) * (Pn : Int) ∧ (r : Int) * (Pn : Int) ≤ 100000 := by
          rcases (show r = 0 ∨ r = 1 by omega) with e | e <;> subst e <;> simp <;> omega
        have c0 := R3.out.s.cell 0; have c1 := R3.out.s.cell 1; have c2 := R3.out.s.cell 2; have c3 := R3.out.s.cell 3; have c4 := R3.out.s.cell 4; have c5 := R3.out.s.cell 5
        by_cases hlt2 : j < Pn
        · go_wp2_with fail
          refine (pageAt_any m b g s n l _ hP ⟨h0.1, by omega⟩ (r : Int) (j : Int) (by omega) (by omega) hb hg hl _).mono ?_
          rintro e w5 ⟨rfl, hb'⟩
          have R4 := Lib.hid (R3.out.up hb')
          clear hb' c0 c1 c2 c3 c4 c5
          obtain ⟨hlk, w6, hst, hR6, _⟩ := R4.out.bump (by omega) (by omega)
          have R6 := Lib.hid hR6
          clear hR6
          go_wp2
          go_roundw
          case rel => exact ⟨j + 1, by omega, by go_num, R6.out.at_ (by omega)⟩
          case measure => simp [RowKit.intOf]; omega
        · obtain rfl : j = Pn := by omega
          go_wp2
          go_roundw
          case rel => exact ⟨r + 1, by omega, by go_num, R3.out.at_ (by rw [show ((r + 1 : Nat) : Int) = (r : Int) + 1 from rfl, Int.add_mul, Int.one_mul]; omega)⟩
          case measure => simp [RowKit.intOf]; omega
    · have R2 := Lib.hid (R1.out.at_ (show 1 + (r : Int) * (Pn : Int) = 1 + 2 * (Pn : Int) by rw [show r = 2 by omega]; rfl))
      clear R1 c0 c1 c2 c3 c4 c5
      go_upto_region 15 with (fail)
      have R3 := Lib.hid (show Ap2 w (wr.alloc (.map #[] 0)) G bs wr.heap.size (1 + 2 * (Pn : Int)) 0 #[.int .i64 m, .int .i64 b, .int .i64 g, .int .i64 s, .int .i64 n, .int .i64 l] from ⟨R2.out.up (Below.alloc (Below.refl _ _) (Nat.le_refl _) _), by rw [Upto.zero]; exact Mp.made wr, fun e => by have := R2.out.s.lt; omega, fun e => by have := R2.out.m.lt; omega, up R2.out.below rfl⟩)
      clear R2 hlt hr
      generalize wr.alloc (.map #[] 0) = W5 at *
      generalize wr.heap.size = bp at *
      have c0 := R3.out.a.s.cell 0; have c1 := R3.out.a.s.cell 1; have c2 := R3.out.a.s.cell 2; have c3 := R3.out.a.s.cell 3; have c4 := R3.out.a.s.cell 4; have c5 := R3.out.a.s.cell 5
      go_wp2_with fail
      refine (all_any m b g s n l hg hs _).mono ?_
      rintro e w6 ⟨rfl, hb'⟩
      have R4 := Lib.hid (R3.out.up hb')
      clear hb' R3 c0 c1 c2 c3 c4 c5
      go_wp2_with fail
      go_loopw [38] (fun i wx => ∃ t : Nat, (t : Int) ≤ g * s ∧ i = .int .i64 t ∧ Ap2 w wx G bs bp (1 + 2 * (Pn : Int) + (t : Int)) ((t : Int) * (m - 2)) #[.int .i64 m, .int .i64 b, .int .i64 g, .int .i64 s, .int .i64 n, .int .i64 l]) (fun i _ => (g * s).toNat - (RowKit.intOf i).toNat)
      case atStart => exact ⟨0, by omega, rfl, R4.out.at_ (by simp) (by simp)⟩
      case round =>
        obtain ⟨t, ht, rfl, hR⟩ := hrel
        have R5 := Lib.hid hR
        clear hR R4
        have c0 := R5.out.a.s.cell 0; have c1 := R5.out.a.s.cell 1; have c2 := R5.out.a.s.cell 2; have c3 := R5.out.a.s.cell 3; have c4 := R5.out.a.s.cell 4; have c5 := R5.out.a.s.cell 5
        have htm : 0 ≤ (t : Int) * (m - 2) ∧ (t : Int) * (m - 2) ≤ 1024 * 14 := ⟨Int.mul_nonneg (by omega) (by omega), Int.mul_le_mul (by omega) (by omega) (by omega) (by omega)⟩
        by_cases hlt : (t : Int) < g * s
        · go_wp2_with fail
          refine (stripeAt_any m b g s n l _ hP ⟨h0.1, by omega⟩ (t : Int) (by omega) hb hg hl _).mono ?_
          rintro e w7 ⟨rfl, hb'⟩
          have R6 := Lib.hid (R5.out.up hb')
          clear hb' c0 c1 c2 c3 c4 c5
          obtain ⟨hlk, w8, hst, hR8⟩ := R6.out.bumpS (by omega) (by omega)
          have R8 := Lib.hid hR8
          clear hR8
          go_upto_region 19 with (fail)
          clear hlk hst R6
          have c0 := R8.out.a.s.cell 0; have c1 := R8.out.a.s.cell 1; have c2 := R8.out.a.s.cell 2; have c3 := R8.out.a.s.cell 3; have c4 := R8.out.a.s.cell 4; have c5 := R8.out.a.s.cell 5
          go_wp2_with fail
          refine (slots_any m b g s n l hm _).mono ?_
          rintro e w9 ⟨rfl, hb'⟩
          have R9 := Lib.hid (R8.out.up hb')
          clear hb' c0 c1 c2 c3 c4 c5 R8
          go_wp2_with fail
          go_loopw [49] (fun i wx => ∃ j : Nat, (j : Int) ≤ m - 2 ∧ i = .int .i64 j ∧ Ap2 w wx G bs bp (1 + 2 * (Pn : Int) + (t : Int) + 1) ((t : Int) * (m - 2) + (j : Int)) #[.int .i64 m, .int .i64 b, .int .i64 g, .int .i64 s, .int .i64 n, .int .i64 l]) (fun i _ => m.toNat - (RowKit.intOf i).toNat)
          case atStart => exact ⟨0, by omega, rfl, R9.out.at_ rfl (by simp)⟩
          case round =>
            obtain ⟨j, hj, rfl, hR⟩ := hrel
            have R10 := Lib.hid hR
            clear hR R9
            have c0 := R10.out.a.s.cell 0; have c1 := R10.out.a.s.cell 1; have c2 := R10.out.a.s.cell 2; have c3 := R10.out.a.s.cell 3; have c4 := R10.out.a.s.cell 4; have c5 := R10.out.a.s.cell 5
            by_cases hlt2 : (j : Int) < m - 2
            · go_wp2_with fail
              refine (place_any m b g s n l (t : Int) (by omega) (j : Int) (by omega) hm _).mono ?_
              rintro e w11 ⟨rfl, hb'⟩
              have R11 := Lib.hid (R10.out.up hb')
              clear hb' c0 c1 c2 c3 c4 c5
              obtain ⟨hlk, w12, hst, hR12⟩ := R11.out.bumpP (by omega) (by omega)
              have R12 := Lib.hid hR12
              clear hR12
              go_wp2
              go_roundw
              case rel => exact ⟨j + 1, by omega, by go_num, R12.out.at_ rfl (by omega)⟩
              case measure => simp [RowKit.intOf]; omega
            · have e : (j : Int) = m - 2 := by omega
              have R11 := Lib.hid (R10.out.at_ rfl (show (t : Int) * (m - 2) + (j : Int) = ((t + 1 : Nat) : Int) * (m - 2) by rw [e, show ((t + 1 : Nat) : Int) = (t : Int) + 1 from rfl, Int.add_mul, Int.one_mul]))
              clear e R10
              go_wp2
              go_roundw
              case rel => exact ⟨t + 1, by omega, by go_num, R11.out.at_ (by omega) rfl⟩
              case measure => simp [RowKit.intOf]; omega
        · have e : (t : Int) = g * s := by omega
          have R6 := Lib.hid (R5.out.at_ (show 1 + 2 * (Pn : Int) + (t : Int) = 1 + 2 * (Pn : Int) + g * s by rw [e]) (show (t : Int) * (m - 2) = g * s * (m - 2) by rw [e]))
          clear e R5 c0 c1 c2 c3 c4 c5 htm
          go_wp2_with fail
          clear hlt ht
          have A := Lib.hid R6.out.a.s
          have k0 := cell_regrown (w := wr) (a := ⟨G, 0, none⟩) (v := .int .i64 m) (A.out.cell 0)
          have k1 := cell_regrown (w := wr) (a := ⟨G, 1, none⟩) (v := .int .i64 b) (A.out.cell 1)
          have k2 := cell_regrown (w := wr) (a := ⟨G, 2, none⟩) (v := .int .i64 g) (A.out.cell 2)
          have k3 := cell_regrown (w := wr) (a := ⟨G, 3, none⟩) (v := .int .i64 s) (A.out.cell 3)
          have k4 := cell_regrown (w := wr) (a := ⟨G, 4, none⟩) (v := .int .i64 n) (A.out.cell 4)
          have k5 := cell_regrown (w := wr) (a := ⟨G, 5, none⟩) (v := .int .i64 l) (A.out.cell 5)
          have hls : ∀ (d : Nat) (os : Array Obj) (ty : TypeId), (Builtin.len_ #[44] ty #[.map (some bs)]).run Try.prog (grow (redrawn wr d) os) = .ok (.int .i64 (1 + 2 * (Pn : Int) + g * s)) (grow (redrawn wr d) os) := fun d os ty => (R6.out.up (below_regrown wr d os)).a.m.len (by omega) (by omega) ty
          have hlp : ∀ (d : Nat) (os : Array Obj) (ty : TypeId), (Builtin.len_ #[44] ty #[.map (some bp)]).run Try.prog (grow (redrawn wr d) os) = .ok (.int .i64 (g * s * (m - 2))) (grow (redrawn wr d) os) := fun d os ty => (R6.out.up (below_regrown wr d os)).p.len (by omega) (by omega) ty
          refine wp_region_quiet_below (by kernel_rfl) (by kernel_rfl) ?_
          repeat (go_big_quiet_step ((first | (with_reducible exact Calls.regrown_of (sectors_any m b g s n l _ hP ⟨h0.1, by omega⟩ hb hg hs hl _)) | (with_reducible exact Calls.regrown_of (all_any m b g s n l hg hs _)) | (with_reducible exact Calls.regrown_of (slots_any m b g s n l hm _)) )))
          refine wpQuiet_nil ?_
          intro _ hw'
          obtain ⟨⟨dq, osq⟩, hw''⟩ := hw'
          subst hw''
          have R7 := Lib.hid (R6.out.up (below_regrown wr dq osq)).a
          clear k0 k1 k2 k3 k4 k5 hls hlp A R6
          generalize grow (redrawn wr dq) osq = V at *
          obtain ⟨D, hown, hf, _⟩ := R7.out.m
          have HF := Lib.hid hf
          clear hf
          go_wp2_with (first
            | (at_range; refine wpList_range_own _ rfl _ 44 rfl 3 3 keyed Try.underlying44 raw bs (Maps.size D) D rfl hown ?_; intro w0 hrg0 hg0 hs0)
            | fail)
          go_frame
          have UR := Lib.hid (up R7.out.below rfl)
          have NG := Lib.hid (show ¬ G = V.heap.size by have := R7.out.s.lt; omega)
          have R0 := Lib.hid hrg0
          have A0 : Hid (At w0 G #[.int .i64 m, .int .i64 b, .int .i64 g, .int .i64 s, .int .i64 n, .int .i64 l] 23) := (hg0.block G R7.out.s.lt (by simp)).trans R7.out.s
          have B1 := Lib.hid (R7.out.below.grown hg0 (up R7.out.below rfl) (fun k hk => by cases hk))
          clear hrg0 hg0 hs0 hown
          generalize V.heap.size = rr at *
          go_loopw [10] (fun _ wx => ∃ (left : Lit → Bool) (cnt : Nat), wx.ranges Try.prog 3 raw bs rr (Maps.size D) D left cnt ∧ At wx G #[.int .i64 m, .int .i64 b, .int .i64 g, .int .i64 s, .int .i64 n, .int .i64 l] 23 ∧ Below w.heap.size w wx) (fun _ wx => wx.rangeLeft bs rr)
          case atStart => exact ⟨_, _, R0.out, A0.out, B1.out⟩
          case round =>
            obtain ⟨left, cnt, hrg, hA, hB⟩ := hrel
            have RG := Lib.hid hrg
            have A2 := Lib.hid hA
            have B2 := Lib.hid hB
            clear hA hB hrg R0 A0 B1
            go_wp2_with (first
              | (at_next; refine wpList_next_one _ rfl _ rfl bs rr (Maps.size D) D left cnt (1 + 2 * (Pn : Int) + g * s) rfl RG.out HF.out ?_ ?_)
              | fail)
            · go_wp2
              go_ret
              exact ⟨rfl, B2.out⟩
            · intro x w1 left1 cnt1 hx0 hxK hrg1 hlt hg1 hs1 hen
              have A3 : Hid (At w1 G #[.int .i64 m, .int .i64 b, .int .i64 g, .int .i64 s, .int .i64 n, .int .i64 l] 23) := (hg1.block G A2.out.lt (fun e => NG.out (by injection e))).trans A2.out
              have B3 := Lib.hid (B2.out.grown hg1 (up B2.out rfl) (fun k hk => by injection hk with hk; rw [← hk]; exact UR.out))
              have R1 := Lib.hid hrg1
              have LT := Lib.hid hlt
              clear hg1 hs1 hrg1 hlt
              have d0 : decide (x < 0) = false := decide_eq_false (by omega)
              have c0 := A3.out.cell 0; have c1 := A3.out.cell 1; have c2 := A3.out.cell 2; have c3 := A3.out.cell 3; have c4 := A3.out.cell 4; have c5 := A3.out.cell 5
              go_wp2_with fail
              refine (sectors_any m b g s n l _ hP ⟨h0.1, by omega⟩ hb hg hs hl _).mono ?_
              rintro e w2 ⟨rfl, hb'⟩
              have R2 := Lib.hid (R1.out.kept (grown_of_below hb') (by simp) (by simp))
              have A4 := Lib.hid (A3.out.below hb' A3.out.lt)
              have B4 := Lib.hid (B3.out.trans (hb'.mono (up B3.out rfl)))
              clear hb' hen c0 c1 c2 c3 c4 c5
              have d1 : decide (1 + 2 * (Pn : Int) + g * s ≤ x) = false := decide_eq_false (by omega)
              go_wp2
              go_roundw
              case rel => exact ⟨_, cnt1, R2.out, A4.out, B4.out⟩
              case measure => rw [R2.out.left_eq, RG.out.left_eq]; exact LT.out

theorem apart_walk (x0 x1 x2 x3 x4 x5 : Int) (y0 : Byte x0) (y1 : Byte x1) (y2 : Byte x2) (y3 : Byte x3) (y4 : Byte x4) (y5 : Byte x5) (w : World) :
    Calls Try.prog 7 #[.agg #[.int .u8 x0, .int .u8 x1, .int .u8 x2, .int .u8 x3, .int .u8 x4, .int .u8 x5]] w fun e w' => e = .returned (.bool true) ∧ Below w.heap.size w w' := by
  obtain ⟨m, b, g, s, n, l, hS, hsh⟩ := shape_small x0 x1 x2 x3 x4 x5 y0 y1 y2 y3 y4 y5
  obtain ⟨hm, hb, hg, hs, hl, hok⟩ := hS
  have hS : Small m b g s n l := ⟨hm, hb, hg, hs, hl, hok⟩
  have p0 := pgs_bounds b g l (by omega) (by omega) (by omega)
  have p1 : pgs b g l ≤ 100000 := by
    unfold pgs
    exact Int.le_trans (Int.ediv_le_self _ (by omega)) (by omega)
  have p3 : 1 ≤ g * s ∧ g * s ≤ 6 * 3 := ⟨Int.mul_pos (by omega) (by omega), Int.mul_le_mul (show g ≤ 6 by omega) (show s ≤ 3 by omega) (by omega) (by omega)⟩
  have p4 : 0 ≤ g * s * (m - 2) ∧ g * s * (m - 2) ≤ 18 * 3 := ⟨Int.mul_nonneg (by omega) (by omega), Int.mul_le_mul (show g * s ≤ 18 by omega) (show m - 2 ≤ 3 by omega) (by omega) (by omega)⟩
  exact apart_of x0 x1 x2 x3 x4 x5 m b g s n l hS hsh (pgs b g l).toNat (show pgs b g l = _ by omega) (by omega) (by omega) (by omega) (by omega) (by omega) (by omega) (by omega) (by omega) w

end Go.Proofs.Ytimehgckgpdmbaa
