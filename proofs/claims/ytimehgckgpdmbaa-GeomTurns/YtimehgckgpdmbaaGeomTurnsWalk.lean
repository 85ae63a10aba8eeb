/-
  THE WALK OF GeomTurns: any small shape, any first stripe.
-/
import Derived.Test.YtimehgckgpdmbaaCounts
import Derived.Deep.CutRange
import Derived.Deep.CutBlock
import Derived.Deep.DeepCutAuto
import Derived.BigRegion
namespace Go.Proofs.Ytimehgckgpdmbaa
open Go.RowKit Go.Sort
set_option linter.unusedVariables false
set_option maxRecDepth 100000

/-- Two rows of counts, apart from one another and from the shape. -/
structure Rows2 (w wc : World) (G Qa Qb mn ra rb i j : Nat) (cs : Array Value) : Prop where
  a : At wc Qa (cntA mn ra i) 3
  b : At wc Qb (cntA mn rb j) 3
  s : At wc G cs 23
  below : Below w.heap.size w wc
  ab : ¬ Qa = Qb
  ga : ¬ Qa = G
  gb : ¬ Qb = G
  ua : w.heap.size ≤ Qa
  ub : w.heap.size ≤ Qb

theorem two_new (W : World) (cs ds : Array Value) (t : TypeId) : At ((W.alloc (.cells cs t)).alloc (.cells ds t)) W.heap.size cs t ∧ At ((W.alloc (.cells cs t)).alloc (.cells ds t)) (W.heap.size + 1) ds t :=
  ⟨(At.new cs t rfl).alloc _, At.new ds t (by simp)⟩

theorem rows2_new {w W : World} {G mn ra rb : Nat} {cs : Array Value} (hA : At W G cs 23) (hB : Below w.heap.size w W) (hm : 3 ≤ mn ∧ mn ≤ 5) (ha : ra < mn) (hb : rb < mn) :
    Rows2 w ((W.alloc (.cells (Array.replicate mn (Value.int .i64 0)) 3)).alloc (.cells (Array.replicate mn (Value.int .i64 0)) 3)).drew G W.heap.size (W.heap.size + 1) mn ra rb 0 0 cs ∧ Rows2 w ((W.alloc (.cells (Array.replicate mn (Value.int .i64 0)) 3)).alloc (.cells (Array.replicate mn (Value.int .i64 0)) 3)).drew G (W.heap.size + 1) W.heap.size mn ra rb 0 0 cs := by
  obtain ⟨h1, h2⟩ := two_new W (Array.replicate mn (Value.int .i64 0)) (Array.replicate mn (Value.int .i64 0)) 3
  have hl := hA.lt
  have hu := up hB rfl
  have h3 : At ((W.alloc (.cells (Array.replicate mn (Value.int .i64 0)) 3)).alloc (.cells (Array.replicate mn (Value.int .i64 0)) 3)).drew G cs 23 := (hA.alloc (.cells (Array.replicate mn (Value.int .i64 0)) 3)).alloc (.cells (Array.replicate mn (Value.int .i64 0)) 3)
  have h4 : Below w.heap.size w ((W.alloc (.cells (Array.replicate mn (Value.int .i64 0)) 3)).alloc (.cells (Array.replicate mn (Value.int .i64 0)) 3)).drew := ((hB.alloc hu _).alloc (by simp; omega) _).drew
  exact ⟨⟨by rw [cntA_first hm ha]; exact h1, by rw [cntA_first hm hb]; exact h2, h3, h4, by omega, by omega, by omega, hu, by omega⟩, ⟨by rw [cntA_first hm ha]; exact h2, by rw [cntA_first hm hb]; exact h1, h3, h4, by omega, by omega, by omega, by omega, hu⟩⟩

section
variable {w wc wd : World} {G Qa Qb mn ra rb i j : Nat} {cs : Array Value}
theorem Rows2.up (h : Rows2 w wc G Qa Qb mn ra rb i j cs) (hb : Below wc.heap.size wc wd) : Rows2 w wd G Qa Qb mn ra rb i j cs :=
  ⟨h.a.below hb h.a.lt, h.b.below hb h.b.lt, h.s.below hb h.s.lt, h.below.trans (hb.mono (Ytimehgckgpdmbaa.up h.below rfl)), h.ab, h.ga, h.gb, h.ua, h.ub⟩
theorem Rows2.stepA (h : Rows2 w wc G Qa Qb mn ra rb i j cs) (hm : 3 ≤ mn ∧ mn ≤ 5) (hr : ra < mn) (hi : i < mn) {y : Nat} (hy : y = (ra + i) % mn) : Rows2 w (wc.setCell ⟨Qa, y, none⟩ (.int .i64 1)) G Qa Qb mn ra rb (i + 1) j cs :=
  ⟨by have := h.a.set y (.int .i64 1); rw [hy, cntA_step hm hr hi, ← hy] at this; exact this, h.b.other (p := ⟨Qa, y, none⟩) h.ab _, h.s.other (p := ⟨Qa, y, none⟩) h.ga _, h.below.setCell (p := ⟨Qa, y, none⟩) h.ua _, h.ab, h.ga, h.gb, h.ua, h.ub⟩
theorem Rows2.stepB (h : Rows2 w wc G Qa Qb mn ra rb i j cs) (hm : 3 ≤ mn ∧ mn ≤ 5) (hr : rb < mn) (hi : j < mn) {y : Nat} (hy : y = (rb + j) % mn) : Rows2 w (wc.setCell ⟨Qb, y, none⟩ (.int .i64 1)) G Qa Qb mn ra rb i (j + 1) cs :=
  ⟨h.a.other (p := ⟨Qb, y, none⟩) (fun e => h.ab e.symm) _, by have := h.b.set y (.int .i64 1); rw [hy, cntA_step hm hr hi, ← hy] at this; exact this, h.s.other (p := ⟨Qb, y, none⟩) h.gb _, h.below.setCell (p := ⟨Qb, y, none⟩) h.ub _, h.ab, h.ga, h.gb, h.ua, h.ub⟩
theorem Rows2.zeroA (h : Rows2 w wc G Qa Qb mn ra rb i j cs) (hm : 3 ≤ mn ∧ mn ≤ 5) (hr : ra < mn) (hi : i < mn) {y : Nat} (hy : y = (ra + i) % mn) : wc.cell? ⟨Qa, y, none⟩ = some (.int .i64 0) := by rw [h.a.cell y, hy]; exact cntA_nought hm hr hi
theorem Rows2.zeroB (h : Rows2 w wc G Qa Qb mn ra rb i j cs) (hm : 3 ≤ mn ∧ mn ≤ 5) (hr : rb < mn) (hi : j < mn) {y : Nat} (hy : y = (rb + j) % mn) : wc.cell? ⟨Qb, y, none⟩ = some (.int .i64 0) := by rw [h.b.cell y, hy]; exact cntA_nought hm hr hi
end

theorem run_rem (w : World) (a b : Int) (ha : 0 ≤ a ∧ a ≤ 9223372036854775807) (hb : 0 < b ∧ b ≤ 9223372036854775807) : (binOp BinOp.rem 3 (.int .i64 a) (.int .i64 b)).run Try.prog w = .ok (.int .i64 (a % b)) w := by
  have hb0 : ¬ b = 0 := by omega
  go_simp
  exact Int.tmod_eq_emod_of_nonneg ha.1

theorem turn_nat2 (F c m i : Nat) : (F + i + 1 + c) % m = ((F + 1 + c) % m + i) % m := by
  rw [Nat.mod_add_mod]
  congr 1
  omega

theorem turns_of (x0 x1 x2 x3 x4 x5 m b g s n l : Int) (hS : Hid (Small m b g s n l)) (SHP : Hid (∀ w, Calls Try.prog 13 #[.agg #[.int .u8 x0, .int .u8 x1, .int .u8 x2, .int .u8 x3, .int .u8 x4, .int .u8 x5]] w fun e w' => e = .returned (sv m b g s n l) ∧ Below w.heap.size w w')) (mn : Nat) (hmm : m = (mn : Int)) (h35 : mn = 3 ∨ mn = 4 ∨ mn = 5) (hg : 4 ≤ g ∧ g ≤ 6) (hs : 2 ≤ s ∧ s ≤ 3) (t : Int) (ht : 0 ≤ t ∧ t ≤ 255) (p3 : 8 ≤ g * s ∧ g * s ≤ 18) (Fn : Nat) (hF : t % (g * s - (mn : Int) + 1) = (Fn : Int)) (hF2 : Fn ≤ 1000) (cn : Nat) (hc : t % ((mn : Int) - 1) = (cn : Int)) (hc2 : cn ≤ 1000) (w : World) :
    Calls Try.prog 9 #[.agg #[.int .u8 x0, .int .u8 x1, .int .u8 x2, .int .u8 x3, .int .u8 x4, .int .u8 x5], .int .u8 t] w fun e w' => e = .returned (.bool true) ∧ Below w.heap.size w w' := by
  subst hmm
  have hm : 3 ≤ (mn : Int) ∧ (mn : Int) ≤ 16 := by omega
  have hm5 : 3 ≤ mn ∧ mn ≤ 5 := by omega
  obtain ⟨ra, hra⟩ : ∃ r, r = Fn % mn := ⟨_, rfl⟩
  obtain ⟨rb, hrb⟩ : ∃ r, r = (Fn + 1 + cn) % mn := ⟨_, rfl⟩
  have ram : ra < mn := by rw [hra]; exact Nat.mod_lt _ (by omega)
  have rbm : rb < mn := by rw [hrb]; exact Nat.mod_lt _ (by omega)
  have RA := Lib.hid hra
  have RB := Lib.hid hrb
  clear hra hrb
  have hmk := fun (w : World) => run_make w mn h35
  have H35 := Lib.hid h35
  clear h35
  go_enter Try.func9, Try.ntmps9
  go_wp2_with fail
  have A := Lib.hid (At.new (w := w) (g := w.heap.size) #[.int .u8 x0, .int .u8 x1, .int .u8 x2, .int .u8 x3, .int .u8 x4, .int .u8 x5] 29 rfl)
  have B0 := Lib.hid ((Below.refl w.heap.size w).alloc (Nat.le_refl _) (.cells #[.int .u8 x0, .int .u8 x1, .int .u8 x2, .int .u8 x3, .int .u8 x4, .int .u8 x5] 29))
  refine (awake_any _).mono ?_
  rintro e w1 ⟨rfl, hb'⟩
  have A := Lib.hid (A.out.below hb' A.out.lt)
  have B0 := Lib.hid (B0.out.trans (hb'.mono (up B0.out rfl)))
  have c0 := A.out.cell 0; have c1 := A.out.cell 1; have c2 := A.out.cell 2; have c3 := A.out.cell 3; have c4 := A.out.cell 4; have c5 := A.out.cell 5
  clear hb'
  go_wp2_with fail
  refine (SHP.out _).mono ?_
  rintro e w2 ⟨rfl, hb'⟩
  have B0 := Lib.hid (B0.out.trans (hb'.mono (up B0.out rfl)))
  clear hb' c0 c1 c2 c3 c4 c5 A
  go_upto_region 4 with (fail)
  have A := Lib.hid (At.new (w := w2) (g := w2.heap.size) #[.int .i64 (mn : Int), .int .i64 b, .int .i64 g, .int .i64 s, .int .i64 n, .int .i64 l] 23 rfl)
  have U := Lib.hid (up B0.out rfl)
  have B0 := Lib.hid (B0.out.alloc (up B0.out rfl) (.cells #[.int .i64 (mn : Int), .int .i64 b, .int .i64 g, .int .i64 s, .int .i64 n, .int .i64 l] 23))
  generalize w2.alloc (.cells #[.int .i64 (mn : Int), .int .i64 b, .int .i64 g, .int .i64 s, .int .i64 n, .int .i64 l] 23) = W at *
  generalize hG : w2.heap.size = G at *
  have UG := Lib.hid (show w.heap.size ≤ G from U.out)
  clear hG U
  have c0 := A.out.cell 0; have c1 := A.out.cell 1; have c2 := A.out.cell 2; have c3 := A.out.cell 3; have c4 := A.out.cell 4; have c5 := A.out.cell 5
  go_cut [6, 7] (fun s6 s7 wc => ∃ Qa Qb : Nat, s6 = .slice (some ⟨Qa, 0, none⟩) mn mn ∧ s7 = .slice (some ⟨Qb, 0, none⟩) mn mn ∧ Rows2 w wc G Qa Qb mn ra rb 0 0 #[.int .i64 (mn : Int), .int .i64 b, .int .i64 g, .int .i64 s, .int .i64 n, .int .i64 l])
  case first =>
    have hal : (W.alloc (.cells (Array.replicate mn (Value.int .i64 0)) 3)).cell? ⟨G, 0, none⟩ = some (.int .i64 (mn : Int)) := (A.out.alloc (.cells (Array.replicate mn (Value.int .i64 0)) 3)).cell 0
    go_region
    all_goals
      go_wp2_with fail
      go_meet
      first | exact ⟨_, _, rfl, rfl, (rows2_new A.out B0.out hm5 ram rbm).1⟩ | exact ⟨_, _, rfl, rfl, (rows2_new A.out B0.out hm5 ram rbm).2⟩
  case rest =>
    obtain ⟨Qa, Qb, rfl, rfl, hR⟩ := hcut
    clear c0 c1 c2 c3 c4 c5 hmk A B0
    have R := Lib.hid hR
    have k0 : wc.cell? ⟨G, 0, none⟩ = some (.int .i64 (mn : Int)) := hR.s.cell 0
    clear hR
    go_wp2_with fail
    go_loopw [23] (fun i wr => ∃ k : Nat, k ≤ mn ∧ i = .int .i64 k ∧ Rows2 w wr G Qa Qb mn ra rb k k #[.int .i64 (mn : Int), .int .i64 b, .int .i64 g, .int .i64 s, .int .i64 n, .int .i64 l]) (fun i _ => mn - (intOf i).toNat)
    case atStart => exact ⟨0, Nat.zero_le _, rfl, R.out⟩
    case round =>
      clear k0
      obtain ⟨k, hk, rfl, hR⟩ := hrel
      have R1 := Lib.hid hR
      clear hR R
      by_cases hlt : k < mn
      · obtain ⟨ya, hya⟩ : ∃ y, y = (ra + k) % mn := ⟨_, rfl⟩
        obtain ⟨yb, hyb⟩ : ∃ y, y = (rb + k) % mn := ⟨_, rfl⟩
        have iya : ((Fn : Int) + (k : Int)) % (mn : Int) = (ya : Int) := by
          have : (Fn + k) % mn = ya := by rw [hya, RA.out, Nat.mod_add_mod]
          rw [← this]
          rfl
        have iyb : ((Fn : Int) + (k : Int) + 1 + (cn : Int)) % (mn : Int) = (yb : Int) := by
          have : (Fn + k + 1 + cn) % mn = yb := by rw [hyb, RB.out, turn_nat2]
          rw [← this]
          rfl
        have yam : ya < mn := by rw [hya]; exact Nat.mod_lt _ (by omega)
        have ybm : yb < mn := by rw [hyb]; exact Nat.mod_lt _ (by omega)
        have YA := Lib.hid hya
        have YB := Lib.hid hyb
        clear hya hyb
        go_wp2_with fail
        have A := Lib.hid R1.out.s
        have k0 := cell_regrown (w := wr) (a := ⟨G, 0, none⟩) (v := .int .i64 (mn : Int)) (A.out.cell 0)
        have k1 := cell_regrown (w := wr) (a := ⟨G, 1, none⟩) (v := .int .i64 b) (A.out.cell 1)
        have k2 := cell_regrown (w := wr) (a := ⟨G, 2, none⟩) (v := .int .i64 g) (A.out.cell 2)
        have k3 := cell_regrown (w := wr) (a := ⟨G, 3, none⟩) (v := .int .i64 s) (A.out.cell 3)
        have k4 := cell_regrown (w := wr) (a := ⟨G, 4, none⟩) (v := .int .i64 n) (A.out.cell 4)
        have k5 := cell_regrown (w := wr) (a := ⟨G, 5, none⟩) (v := .int .i64 l) (A.out.cell 5)
        refine wp_region_quiet_below (by kernel_rfl) (by kernel_rfl) ?_
        repeat (go_big_quiet_step ((first | (with_reducible exact Calls.regrown_of (all_any (mn : Int) b g s n l (by omega) (by omega) _)) )))
        refine wpQuiet_nil ?_
        intro _ hw'
        obtain ⟨⟨dq, osq⟩, hw''⟩ := hw'
        subst hw''
        have R2 := Lib.hid (R1.out.up (below_regrown wr dq osq))
        clear k0 k1 k2 k3 k4 k5 A R1
        generalize grow (redrawn wr dq) osq = V at *
        have c0 := R2.out.s.cell 0; have c1 := R2.out.s.cell 1; have c2 := R2.out.s.cell 2; have c3 := R2.out.s.cell 3; have c4 := R2.out.s.cell 4; have c5 := R2.out.s.cell 5
        go_wp2_with fail
        refine (parity_any (mn : Int) b g s n l ((Fn : Int) + (k : Int)) (by omega) hm _).mono ?_
        rintro e w5 ⟨rfl, hb'⟩
        have R3 := Lib.hid (R2.out.up hb')
        clear hb' c0 c1 c2 c3 c4 c5 R2
        have z0 := R3.out.zeroA hm5 ram hlt YA.out
        have z1 : w5.frozen? ⟨Qa, ya, none⟩ = false := R3.out.a.frozen ya
        go_upto_region 10 with (fail)
        have R4 := Lib.hid (R3.out.stepA hm5 ram hlt YA.out)
        clear z0 z1 R3
        generalize w5.setCell ⟨Qa, ya, none⟩ (.int .i64 1) = W6 at *
        have c0 := R4.out.s.cell 0; have c1 := R4.out.s.cell 1; have c2 := R4.out.s.cell 2; have c3 := R4.out.s.cell 3; have c4 := R4.out.s.cell 4; have c5 := R4.out.s.cell 5
        have R5 := Lib.hid (show Rows2 w W6.drew G Qa Qb mn ra rb (k + 1) k #[.int .i64 (mn : Int), .int .i64 b, .int .i64 g, .int .i64 s, .int .i64 n, .int .i64 l] from ⟨R4.out.a, R4.out.b, R4.out.s, ⟨R4.out.below.os, R4.out.below.tape, R4.out.below.output, R4.out.below.size, R4.out.below.block⟩, R4.out.ab, R4.out.ga, R4.out.gb, R4.out.ua, R4.out.ub⟩)
        have hw1 : IntKind.i64.wrap ((mn : Int) - 1) = (mn : Int) - 1 := wrap_of (by omega) (by omega)
        have hwt : IntKind.i64.wrap t = t := wrap_of (by omega) (by omega)
        have hnz : ¬ (mn : Int) - 1 = 0 := by omega
        have hn1 : ¬ (mn : Int) = 1 := by omega
        have htm : t.tmod ((mn : Int) - 1) = (cn : Int) := by rw [Int.tmod_eq_emod_of_nonneg ht.1]; exact hc
        go_region_with ((go_at_call 26; refine (member_any (mn : Int) b g s n l ((Fn : Int) + (k : Int)) (by omega) (cn : Int) (by omega) hm _).mono ?_; rintro e w7 ⟨rfl, hb7⟩; have R5 := Lib.hid (R5.out.up hb7); have R7 := Lib.hid (R5.out.stepB hm5 rbm hlt YB.out); have z0 := R5.out.zeroB hm5 rbm hlt YB.out; have z1 : w7.frozen? ⟨Qb, yb, none⟩ = false := R5.out.b.frozen yb; clear hb7))
        all_goals
          go_wp2
          go_roundw
          case rel => exact ⟨k + 1, by omega, by go_num, R7.out⟩
          case measure => simp [intOf]; omega
      · obtain rfl : k = mn := by omega
        have k0 : wr.cell? ⟨G, 0, none⟩ = some (.int .i64 (k : Int)) := R1.out.s.cell 0
        clear hlt
        go_wp2_with fail
        go_loopw [62] (fun i wx => ∃ j : Nat, j ≤ k ∧ i = .int .i64 j ∧ wx = wr) (fun i _ => k - (intOf i).toNat)
        case atStart => exact ⟨0, Nat.zero_le _, rfl, rfl⟩
        case round =>
          obtain ⟨j, hj, rfl, rfl⟩ := hrel
          by_cases hlt : j < k
          · have ha : wr.cell? ⟨Qa, j, none⟩ = some (.int .i64 1) := by rw [R1.out.a.cell j]; exact cntA_last hm5 ram hlt
            have hb : wr.cell? ⟨Qb, j, none⟩ = some (.int .i64 1) := by rw [R1.out.b.cell j]; exact cntA_last hm5 rbm hlt
            go_wp2
            go_roundw
            case rel => exact ⟨j + 1, by omega, by go_num, trivial⟩
            case measure => simp [intOf]; omega
          · go_wp2
            go_ret
            exact ⟨rfl, R1.out.below⟩

theorem turns_walk (x0 x1 x2 x3 x4 x5 : Int) (y0 : Byte x0) (y1 : Byte x1) (y2 : Byte x2) (y3 : Byte x3) (y4 : Byte x4) (y5 : Byte x5) (t : Int) (ht : Byte t) (w : World) :
    Calls Try.prog 9 #[.agg #[.int .u8 x0, .int .u8 x1, .int .u8 x2, .int .u8 x3, .int .u8 x4, .int .u8 x5], .int .u8 t] w fun e w' => e = .returned (.bool true) ∧ Below w.heap.size w w' := by
  obtain ⟨m, b, g, s, n, l, hS, hsh⟩ := shape_small x0 x1 x2 x3 x4 x5 y0 y1 y2 y3 y4 y5
  obtain ⟨hm, hb, hg, hs, hl, hok⟩ := hS
  have hS : Small m b g s n l := ⟨hm, hb, hg, hs, hl, hok⟩
  have p3 : 8 ≤ g * s ∧ g * s ≤ 18 := by
    rcases (show s = 2 ∨ s = 3 by omega) with e | e <;> rw [e] <;> omega
  have r1 := Int.emod_nonneg t (show g * s - m + 1 ≠ 0 by omega)
  have r2 := Int.emod_lt_of_pos t (show 0 < g * s - m + 1 by omega)
  have r3 := Int.emod_nonneg t (show m - 1 ≠ 0 by omega)
  have r4 := Int.emod_lt_of_pos t (show 0 < m - 1 by omega)
  have em : ((m.toNat : Nat) : Int) = m := by omega
  exact turns_of x0 x1 x2 x3 x4 x5 m b g s n l hS hsh m.toNat em.symm (by omega) hg hs t ht p3 (t % (g * s - m + 1)).toNat (by rw [em]; omega) (by omega) (t % (m - 1)).toNat (by rw [em]; omega) (by omega) w

end Go.Proofs.Ytimehgckgpdmbaa
