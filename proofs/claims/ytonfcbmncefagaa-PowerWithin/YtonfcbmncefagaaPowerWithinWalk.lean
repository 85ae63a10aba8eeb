/-
  THE WALK OF PowerWithin.
-/
import Derived.Test.YtonfcbmncefagaaPowerAgainWalk
import Derived.Deep.CutRange
import Derived.Deep.CutBlock
namespace Go.Proofs.Ytonfcbmncefagaa
open Go.RowKit
set_option linter.unusedVariables false

/-- What PowerWithin's outer call makes: of p ticks (within a run of its own) and then q more; two variables say how it went. -/
def Twice (g c d : Nat) (l p q : Nat) (w : World) (gone : Bool) (w' : World) : Prop :=
  gone = decide (l < min l p + q) ∧ (∃ L, Pw w' g ((min l (min l p + q) : Nat) : Int) L) ∧ At w' c #[.bool (decide (l < p))] 4 ∧ At w' d #[.bool true] 4 ∧ But (fun k => k = g ∨ k = c ∨ k = d) w w'

theorem can_nat (l n : Nat) : can (l : Int) n = min l n := by unfold can; rw [if_neg (by omega)]; omega
theorem left_nat (l m : Nat) : left (l : Int) m = (l : Int) - m := by unfold left; rw [if_neg (by omega)]

set_option maxHeartbeats 1000000 in
theorem loop19 (a b c d f g x z l p q : Nat) (w : World) (ha : At w a #[.int .u8 x] 5) (hf : At w f #[.int .u8 z] 5) (hb : Pv w b g) (hp : Pw w g 0 l) (hc : At w c #[.bool false] 4) (hd : At w d #[.bool false] 4)
    (hx : x ≤ 255) (hz : z ≤ 255) (hxp : x % 40 = p) (hzq : z % 40 = q) (hl : l ≤ 255) (h1 : ¬ a = g ∧ ¬ b = g ∧ ¬ c = g ∧ ¬ d = g ∧ ¬ f = g) (h2 : ¬ a = c ∧ ¬ b = c ∧ ¬ d = c ∧ ¬ f = c) (h3 : ¬ a = d ∧ ¬ b = d ∧ ¬ f = d) :
    Calls Try.prog 19 #[.pointer (some ⟨a, 0, none⟩), .pointer (some ⟨b, 0, none⟩), .pointer (some ⟨c, 0, none⟩), .pointer (some ⟨d, 0, none⟩), .pointer (some ⟨f, 0, none⟩)] w fun e w' => ∃ gone, Ends gone e ∧ Twice g c d l p q w gone w' := by
  have hmf : ∀ (fn : Fn) (first cap : Array Value) (w : World), (Instr.makeFunc fn first cap).run Try.prog w = .ok (.func fn first cap) w := fun _ _ _ _ => rfl
  have HF := Lib.hid hf
  have HB := Lib.hid hb
  have HC := Lib.hid hc
  have HD := Lib.hid hd
  have N1 := Lib.hid h1
  have N2 := Lib.hid h2
  have N3 := Lib.hid h3
  have G := hp.lt
  have HA := Lib.hid ha
  have HP := Lib.hid hp
  clear ha hp hf hb hc hd h1 h2 h3
  go_enter Try.func19, Try.ntmps19
  go_wp2_with fail
  refine (run_ticks 20 _ g p 0 l w (enters 20 _ (by decide)) G (loop20 a b g x p 0 l _ (HA.out.alloc _) hx hxp (HB.out.alloc _) (HP.out.alloc _) N1.out.2.1 (by omega) (by omega))).mono ?_
  rintro e w1 ⟨gone, rfl, hg, hp1, hb1⟩
  rw [can_nat] at hg hp1
  rw [left_nat] at hp1
  have e1 : gone = decide (l < p) := by rw [hg]; apply decide_eq_decide.2; omega
  subst e1
  generalize hi : decide (l < p) = i at *
  have HI := Lib.hid hi
  have hc1 := HC.out.but hb1 N1.out.2.2.1
  have hcc : w1.cell? ⟨c, 0, none⟩ = some (.bool false) := hc1.cell 0
  have hcz := hc1.frozen 0
  have hd1 := (HD.out.but hb1 N1.out.2.2.2.1).other (p := ⟨c, 0, none⟩) (fun e => N2.out.2.2.1 e.symm) (.bool i)
  have hdc : (w1.setCell ⟨c, 0, none⟩ (.bool i)).cell? ⟨d, 0, none⟩ = some (.bool false) := hd1.cell 0
  have hdz := hd1.frozen 0
  obtain ⟨w2, hw2⟩ : ∃ w2, w2 = (w1.setCell ⟨c, 0, none⟩ (.bool i)).setCell ⟨d, 0, none⟩ (.bool true) := ⟨_, rfl⟩
  have bw : But (fun k => k = g ∨ k = c ∨ k = d) w w2 := by
    subst hw2
    exact ((hb1.mono (fun _ h _ => .inl h)).setCell (p := ⟨c, 0, none⟩) (fun _ => .inr (.inl rfl)) _).setCell (p := ⟨d, 0, none⟩) (fun _ => .inr (.inr rfl)) _
  have P2 := Lib.hid (show Pw w2 g (0 + ((min l p : Nat) : Int)) ((l : Int) - (min l p : Nat)) by
    subst hw2
    exact (At.other hp1 (p := ⟨c, 0, none⟩) N1.out.2.2.1 _).other (p := ⟨d, 0, none⟩) N1.out.2.2.2.1 _)
  have C2 := Lib.hid (show At w2 c #[.bool i] 4 by subst hw2; exact (hc1.set 0 _).other (p := ⟨d, 0, none⟩) N2.out.2.2.1 _)
  have D2 := Lib.hid (show At w2 d #[.bool true] 4 by subst hw2; exact hd1.set 0 _)
  have V2 := Lib.hid (show Pv w2 b g from HB.out.but bw (by have := N1.out; have := N2.out; have := N3.out; omega))
  have f2 : At w2 f #[.int .u8 z] 5 := HF.out.but bw (by have := N1.out; have := N2.out; have := N3.out; omega)
  have hcf : w2.cell? ⟨f, 0, none⟩ = some (.int .u8 z) := f2.cell 0
  have BW := Lib.hid bw
  have EW := Lib.hid hw2
  clear hp1 hb1 hg bw f2 HF HB HC HD HA HP hc1 hd1 hw2 hi
  go_upto_region 2 with (fail)
  rw [← EW.out]
  clear hdc hdz hcc hcz EW
  have e0 : (z : Int) % 40 = (q : Int) := by omega
  have hn : q ≤ 255 := by omega
  go_wp2
  rw [e0]
  clear e0 hcf
  generalize hm : min l p = m at *
  have HM := Lib.hid hm
  have HLM := Lib.hid (show m ≤ l by omega)
  clear hm hxp hzq
  go_loopg [9] q (fun gk s3 wr => ∃ j : Nat, j ≤ q ∧ gk = q - j ∧ s3 = .int .u8 j ∧ m + j ≤ l ∧ Pw wr g ((m + j : Nat) : Int) ((l - (m + j) : Nat) : Int) ∧ But (fun k => k = g) w2 wr)
  case atStart => exact ⟨0, Nat.zero_le _, rfl, rfl, HLM.out, by have := P2.out; have := HLM.out; rw [show ((l - (m + 0) : Nat) : Int) = (l : Int) - m by omega, show ((m + 0 : Nat) : Int) = 0 + (m : Int) by omega]; exact P2.out, But.refl _ _⟩
  case round =>
    obtain ⟨j, hj, rfl, rfl, hjl, hpj, hbj⟩ := hrel
    have HP' := Lib.hid hpj
    have HJ := Lib.hid hjl
    have HB' := Lib.hid hbj
    have hcb : wr.cell? ⟨b, 0, none⟩ = some (.pointer (some ⟨g, 0, none⟩)) := (At.but V2.out hbj N1.out.2.1).cell 0
    clear hpj hjl hbj
    by_cases hlt : j < q
    · go_wp2_with fail
      by_cases h0 : l - (m + j) = 0
      · have hpj := HP'.out
        rw [h0] at hpj
        refine (tick_out g _ wr hpj).mono ?_
        rintro e w' ⟨rfl, rfl⟩
        have F0 : Twice g c d l p q w true w' := by
          have h1 := HJ.out
          have h2 := HM.out
          have h3 := HI.out
          have e1 : m + j = l := by omega
          refine ⟨by rw [h2]; symm; apply decide_eq_true; omega, ⟨((0 : Nat) : Int), ?_⟩, by rw [h3]; exact C2.out.but HB'.out N1.out.2.2.1, D2.out.but HB'.out N1.out.2.2.2.1, BW.out.trans HB'.out (fun _ h _ => .inl h)⟩
          · rw [h2, show min l (m + q) = m + j by omega]
            exact hpj
        have HF := Lib.hid F0
        clear F0 hpj h0
        unfold out
        go_wp2
        exact ⟨rfl, true, rfl, HF.out⟩
      · refine (tick_go g _ _ wr HP'.out (by omega) (by omega) (by omega)).mono ?_
        rintro e w' ⟨rfl, hp', hb'⟩
        have hle : less ((l - (m + j) : Nat) : Int) = ((l - (m + (j + 1)) : Nat) : Int) := by unfold less; rw [if_pos (by omega)]; omega
        rw [hle] at hp'
        have X := Lib.hid (show Pw w' g ((m + (j + 1) : Nat) : Int) ((l - (m + (j + 1)) : Nat) : Int) by rw [show ((m + (j + 1) : Nat) : Int) = ((m + j : Nat) : Int) + 1 by omega]; exact hp')
        have Y := Lib.hid (HB'.out.trans hb' (fun _ h _ => h))
        have Z := Lib.hid (show m + (j + 1) ≤ l by omega)
        clear hp' hb' hle h0
        go_wp2
        go_roundg (q - (j + 1))
        case measure => omega
        case rel => exact ⟨j + 1, hlt, rfl, by go_num, Z.out, X.out, Y.out⟩
    · have e : j = q := by omega
      have F0 : Twice g c d l p q w false wr := by
        have h1 := HJ.out
        have h2 := HM.out
        have h3 := HI.out
        subst e
        refine ⟨by rw [h2]; symm; apply decide_eq_false; omega, ⟨((l - (m + j) : Nat) : Int), ?_⟩, by rw [h3]; exact C2.out.but HB'.out N1.out.2.2.1, D2.out.but HB'.out N1.out.2.2.2.1, BW.out.trans HB'.out (fun _ h _ => .inl h)⟩
        · rw [h2, show min l (m + j) = m + j by omega]
          exact HP'.out
      have HF := Lib.hid F0
      clear F0
      go_wp2
      go_end0
      exact ⟨false, rfl, HF.out⟩

theorem Twice.out_ {g c d l p q : Nat} {w w' w'' : World} {o : Obj} {gone : Bool} (h : Twice g c d l p q (w.alloc o) gone w') (hg : g < w.heap.size) (hc : c < w.heap.size) (hd : d < w.heap.size) (hb : But (fun k => k = w.heap.size) w' w'') : Twice g c d l p q w gone w'' := by
  obtain ⟨h1, ⟨L, h2⟩, h3, h4, h5⟩ := h
  exact ⟨h1, ⟨L, h2.but hb (fun e => by omega)⟩, h3.but hb (fun e => by omega), h4.but hb (fun e => by omega), ((((But.refl (fun k => k = g ∨ k = c ∨ k = d) w).alloc o).trans h5 (fun _ e _ => e)).trans hb (fun i e hi => by omega))⟩

theorem run_twice (a b c d f g x z l p q : Nat) (w : World) (ha : At w a #[.int .u8 x] 5) (hf : At w f #[.int .u8 z] 5) (hb : Pv w b g) (hp : Pw w g 0 l) (hc : At w c #[.bool false] 4) (hd : At w d #[.bool false] 4)
    (hx : x ≤ 255) (hz : z ≤ 255) (hxp : x % 40 = p) (hzq : z % 40 = q) (hl : l ≤ 255) (h1 : ¬ a = g ∧ ¬ b = g ∧ ¬ c = g ∧ ¬ d = g ∧ ¬ f = g) (h2 : ¬ a = c ∧ ¬ b = c ∧ ¬ d = c ∧ ¬ f = c) (h3 : ¬ a = d ∧ ¬ b = d ∧ ¬ f = d) :
    Calls Try.prog 10 #[.func (.func 19) #[] #[.pointer (some ⟨a, 0, none⟩), .pointer (some ⟨b, 0, none⟩), .pointer (some ⟨c, 0, none⟩), .pointer (some ⟨d, 0, none⟩), .pointer (some ⟨f, 0, none⟩)]] w fun e w' => ∃ gone, e = .returned (.bool gone) ∧ Twice g c d l p q w gone w' := by
  have g1 := hp.lt
  have g2 := hc.lt
  have g3 := hd.lt
  refine (run_some 19 _ w (enters 19 _ (by decide)) (fun gone w' => Twice g c d l p q (w.alloc (.cells #[.bool false] 4)) gone w')
    ((loop19 a b c d f g x z l p q (w.alloc (.cells #[.bool false] 4)) (ha.alloc _) (hf.alloc _) (hb.alloc _) (hp.alloc _) (hc.alloc _) (hd.alloc _) hx hz hxp hzq hl h1 h2 h3).mono ?_)).mono ?_
  · rintro e w' ⟨gone, he, ht⟩
    exact ⟨gone, he, ht, (At.new _ _ rfl).but ht.2.2.2.2 (fun e => by omega)⟩
  · rintro e w'' ⟨gone, w', he, ht, hb⟩
    exact ⟨gone, he, ht.out_ g1 g2 g3 hb⟩

set_option maxHeartbeats 1000000 in
set_option maxRecDepth 100000 in
theorem within_walk (x y z : Nat) (hx : x ≤ 255) (hy : y ≤ 255) (hz : z ≤ 255) (w : World) :
    Calls Try.prog 6 #[.int .u8 x, .int .u8 y, .int .u8 z] w fun e w' => e = .returned (.bool true) ∧ Below w.heap.size w w' := by
  have hmf : ∀ (fn : Fn) (first cap : Array Value) (w : World), (Instr.makeFunc fn first cap).run Try.prog w = .ok (.func fn first cap) w := fun _ _ _ _ => rfl
  go_enter Try.func6, Try.ntmps6
  go_wp2_with fail
  refine (awake_any _).mono ?_
  rintro e w1 ⟨rfl, hb1⟩
  have B1 := Lib.hid ((((Below.refl w.heap.size w).alloc (Nat.le_refl _) (.cells #[.int .u8 y] 5)).alloc (by simp) (.cells #[.int .u8 z] 5)).trans (hb1.mono (by simp; omega)))
  have A1 := Lib.hid (((At.new (w := w) #[.int .u8 y] 5 rfl).alloc (.cells #[.int .u8 z] 5)).below hb1 (by simp; omega))
  have F1 := Lib.hid ((At.new (w := w.alloc (.cells #[.int .u8 y] 5)) (g := w.heap.size + 1) #[.int .u8 z] 5 (by simp)).below hb1 (by simp))
  have fl := F1.out.lt
  clear hb1
  generalize ha : w.heap.size = a at *
  have EA := Lib.hid ha
  clear ha
  go_wp2_with fail
  refine (new_any _ w1).mono ?_
  rintro e w2 ⟨rfl, rfl⟩
  go_wp2_with fail
  obtain ⟨W, hW⟩ : ∃ W, W = ((((w1.alloc (.cells #[.int .i64 0, .int .i64 ((x : Int) % 40)] 38)).alloc (.cells #[.pointer (some ⟨w1.heap.size, 0, none⟩)] 24)).alloc (.cells #[.bool false] 4)).alloc (.cells #[.bool false] 4)) := ⟨_, rfl⟩
  have P3 := Lib.hid (show Pw W w1.heap.size 0 ((x % 40 : Nat) : Int) by subst hW; exact (((At.new _ _ rfl).alloc _).alloc _).alloc _)
  have V3 := Lib.hid (show Pv W (w1.heap.size + 1) w1.heap.size by subst hW; exact ((At.new _ _ (by simp)).alloc _).alloc _)
  have C3 := Lib.hid (show At W (w1.heap.size + 1 + 1) #[.bool false] 4 by subst hW; exact (At.new _ _ (by simp)).alloc _)
  have D3 := Lib.hid (show At W (w1.heap.size + 1 + 1 + 1) #[.bool false] 4 by subst hW; exact At.new _ _ (by simp))
  have A3 := Lib.hid (show At W a #[.int .u8 y] 5 by subst hW; exact (((A1.out.alloc _).alloc _).alloc _).alloc _)
  have F3 := Lib.hid (show At W (a + 1) #[.int .u8 z] 5 by subst hW; exact (((F1.out.alloc _).alloc _).alloc _).alloc _)
  have B3 := Lib.hid (show Below a w W by subst hW; exact (((B1.out.alloc (by omega) _).alloc (by simp; omega) _).alloc (by simp; omega) _).alloc (by simp; omega) _)
  rw [← hW]
  clear hW A1 B1 F1
  generalize w1.heap.size = g at *
  refine (run_twice a (g + 1) (g + 1 + 1) (g + 1 + 1 + 1) (a + 1) g y z (x % 40) (y % 40) (z % 40) W A3.out F3.out V3.out P3.out C3.out D3.out hy hz rfl rfl (by omega) (by omega) (by omega) (by omega)).mono ?_
  rintro e w4 ⟨gone, rfl, hgone, ⟨L, hp4⟩, hc4, hd4, hb4⟩
  have A4 := A3.out.but hb4 (by omega)
  have F4 := F3.out.but hb4 (by omega)
  have V4 := V3.out.but hb4 (by omega)
  have hca : w4.cell? ⟨a, 0, none⟩ = some (.int .u8 y) := A4.cell 0
  have hcf : w4.cell? ⟨a + 1, 0, none⟩ = some (.int .u8 z) := F4.cell 0
  have hcv : w4.cell? ⟨g + 1, 0, none⟩ = some (.pointer (some ⟨g, 0, none⟩)) := V4.cell 0
  have hcd : w4.cell? ⟨g + 1 + 1 + 1, 0, none⟩ = some (.bool true) := hd4.cell 0
  have B4 := Lib.hid (B3.out.trans (hb4.below (B := a) (fun k h => by omega) (by have := A3.out.lt; omega)))
  have P4 := Lib.hid hp4
  generalize hi : decide (x % 40 < y % 40) = i at *
  have hcc : w4.cell? ⟨g + 1 + 1, 0, none⟩ = some (.bool i) := hc4.cell 0
  obtain ⟨A, hA⟩ : ∃ A, A = min (x % 40) (y % 40) := ⟨_, rfl⟩
  obtain ⟨U, hU⟩ : ∃ U, U = min (x % 40) (A + z % 40) := ⟨_, rfl⟩
  rw [← hA] at P4 hgone
  rw [← hU] at P4
  have hmin1 := fun (w : World) => run_min2 (P := Try.prog) w #[3, 3] 3 ((x : Int) % 40) ((y : Int) % 40) A (by omega)
  have hmin2 := fun (w : World) => run_min2 (P := Try.prog) w #[3, 3] 3 ((x : Int) % 40) ((A : Int) + (z : Int) % 40) U (by omega)
  have hsum : IntKind.i64.wrap ((A : Int) + (z : Int) % 40) = (A : Int) + (z : Int) % 40 := by rw [IntKind.wrap_i64]; omega
  have d1 : decide ((A : Int) < (y : Int) % 40) = i := by rw [← hi]; apply decide_eq_decide.2; omega
  have d2 : decide ((x : Int) % 40 < (A : Int) + (z : Int) % 40) = gone := by rw [hgone]; apply decide_eq_decide.2; omega
  clear hp4 hc4 hd4 hb4 A4 F4 V4 A3 F3 B3 V3 C3 D3 P3 hgone hi hA hU
  cases i <;> cases gone
  all_goals
    go_wp2_with fail
    go_quiet ((go_at_call 13; exact Calls.quiet_of_same (used_any g U _ _ P4.out)))
    go_wp2
    go_ret
    exact ⟨rfl, by rw [EA.out]; exact below_drewN B4.out _⟩

theorem within_all (x y z : Int) (hx : (Lit.int .u8 x).wf = true) (hy : (Lit.int .u8 y).wf = true) (hz : (Lit.int .u8 z).wf = true) (w : World) :
    Calls Try.prog 6 #[.int .u8 x, .int .u8 y, .int .u8 z] w fun e w' => e = .returned (.bool true) ∧ Below w.heap.size w w' := by
  obtain ⟨x, rfl, hx'⟩ := byte_nat hx
  obtain ⟨y, rfl, hy'⟩ := byte_nat hy
  obtain ⟨z, rfl, hz'⟩ := byte_nat hz
  exact within_walk x y z hx' hy' hz' w

end Go.Proofs.Ytonfcbmncefagaa
