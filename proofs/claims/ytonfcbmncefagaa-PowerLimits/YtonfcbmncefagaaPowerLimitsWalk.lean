/-
  THE WALK OF PowerLimits.
-/
import Derived.Test.YtonfcbmncefagaaAwake
import Derived.OpenShut
import Derived.ChangeSlices
import Derived.Deep.CutRange
import Derived.Deep.CutBlock
import Derived.Deep.DeepCutAuto
namespace Go.Proofs.Ytonfcbmncefagaa
open Go.RowKit Go.ChangeShapes Go.WideShapes Go.ChangeAt
set_option linter.unusedVariables false

/-- A slice of integers that came in. -/
def Ints (k : IntKind) (w : World) (A : Option Addr) (n cap : Nat) (zs : List Int) : Prop :=
  zs.length = n ∧ n ≤ cap ∧ cap ≤ maxLen ∧ (0 < n → ∃ b off, A = some ⟨b, off, none⟩ ∧ b < w.heap.size ∧ ∀ i (h : i < zs.length), w.cell? ⟨b, off + i, none⟩ = some (.int k zs[i]) ∧ (Lit.int k zs[i]).wf = true)
theorem Ints.below {k : IntKind} {w w' : World} {A : Option Addr} {n cap : Nat} {zs : List Int} (h : Ints k w A n cap zs) (hb : Below w.heap.size w w') : Ints k w' A n cap zs :=
  ⟨h.1, h.2.1, h.2.2.1, fun hn => by
    obtain ⟨b, off, e, hlt, hc⟩ := h.2.2.2 hn
    exact ⟨b, off, e, Nat.lt_of_lt_of_le hlt hb.size, fun i hi => ⟨(hb.cell (p := ⟨b, off + i, none⟩) hlt).trans (hc i hi).1, (hc i hi).2⟩⟩⟩
theorem Ints.at_ {k : IntKind} {w : World} {A : Option Addr} {n cap : Nat} {zs : List Int} (h : Ints k w A n cap zs) (i : Nat) (hi : i < n) :
    ∃ b off v, A = some ⟨b, off, none⟩ ∧ w.cell? ⟨b, off + i, none⟩ = some (.int k v) ∧ (Lit.int k v).wf = true := by
  obtain ⟨b, off, e, hlt, hc⟩ := h.2.2.2 (by omega)
  exact ⟨b, off, _, e, (hc i (by rw [h.1]; exact hi)).1, (hc i (by rw [h.1]; exact hi)).2⟩

section
variable {H : Type} {enc : TypeId × Value → H} {w : World}
theorem ints_in {t e : TypeId} {k : IntKind} (ht : Try.prog.underlying t = some (.slice e)) (he : Try.prog.underlying e = some (.int k)) (hc : Try.prog.cellsOf e = 1) {a : Option Addr} {len cap : Nat} {d : DataW H} {p : List MemPlace}
    (h : DataW.Trod enc Try.prog w 0 (fun _ => true) true t (.slice a len cap) d p) : ∃ zs, Ints k w a len cap zs := by
  obtain ⟨fuel, hf⟩ := h
  rcases open_ints ht he hc hf with ⟨hcs, _⟩ | ⟨x, l, c, zs, hcs, _, hl, hm, hz, _, hcell, hwz⟩
  · simp [Value.cells] at hcs
    obtain ⟨rfl, rfl, rfl⟩ := hcs
    exact ⟨[], rfl, Nat.le_refl _, by unfold maxLen; omega, fun h => absurd h (by omega)⟩
  · simp [Value.cells] at hcs
    obtain ⟨rfl, rfl, rfl⟩ := hcs
    have hz' : zs.length = cap := by simpa using hz
    refine ⟨zs.take len, by simp; omega, hl, hm, fun hn => ?_⟩
    obtain ⟨b, off, spot⟩ := x
    have h0 := hcell 0 (by omega)
    have hs : spot = none := by simpa [Addr.add] using World.cell?_spot h0
    subst hs
    refine ⟨b, off, rfl, ?_, fun i hi => ?_⟩
    · rcases Nat.lt_or_ge b w.heap.size with h | h
      · exact h
      · simp [World.cell?, Addr.add, Array.getElem?_eq_none h] at h0
    · have hiz : i < zs.length := by simp at hi; omega
      have hi0 := hcell i hiz
      have e1 : (⟨b, off, none⟩ : Addr).add i = ⟨b, off + i, none⟩ := by
        unfold Addr.add
        by_cases h : i = 0 <;> simp [h]
      rw [e1] at hi0
      have hg : zs.getD i 0 = zs[i] := by rw [List.getD_eq_getElem?_getD, List.getElem?_eq_getElem hiz]; rfl
      rw [List.getElem_take]
      exact ⟨by rw [hi0, hg], hwz zs[i] (List.getElem_mem hiz)⟩
theorem limits_in {a : Option Addr} {len cap : Nat} {d : DataW H} {p : List MemPlace} (h : DataW.Trod enc Try.prog w 0 (fun _ => true) true 29 (.slice a len cap) d p) : ∃ zs, Ints .i8 w a len cap zs :=
  ints_in Try.underlying29 Try.underlying22 (by kernel_rfl) h
theorem ticks_in {a : Option Addr} {len cap : Nat} {d : DataW H} {p : List MemPlace} (h : DataW.Trod enc Try.prog w 0 (fun _ => true) true 30 (.slice a len cap) d p) : ∃ zs, Ints .u8 w a len cap zs :=
  ints_in Try.underlying30 Try.underlying5 (by kernel_rfl) h
end

theorem forty {D m k n : Nat} (h1 : D ≤ 40 * k) (h2 : m ≤ n) (h3 : n ≤ 39) : D + m ≤ 40 * (k + 1) := by omega

set_option maxHeartbeats 1000000 in
set_option maxRecDepth 100000 in
theorem limits_walk (A0 : Option Addr) (n0 c0 : Nat) (zs : List Int) (A1 : Option Addr) (n1 c1 : Nat) (ts : List Int) (w : World) (h0 : Ints .i8 w A0 n0 c0 zs) (h1 : Ints .u8 w A1 n1 c1 ts) :
    Calls Try.prog 4 #[.slice A0 n0 c0, .slice A1 n1 c1] w fun e w' => e = .returned (.bool true) ∧ Below w.heap.size w w' := by
  have hmf : ∀ (fn : Fn) (first cap : Array Value) (w : World), (Instr.makeFunc fn first cap).run Try.prog w = .ok (.func fn first cap) w := fun _ _ _ _ => rfl
  have Z0 := Lib.hid h0
  have T0 := Lib.hid h1
  clear h0 h1
  by_cases h20 : n0 ≤ 20
  · go_enter Try.func4, Try.ntmps4
    go_wp2_with fail
    refine (awake_any _).mono ?_
    rintro e w1 ⟨rfl, hb1⟩
    have B1 := Lib.hid hb1
    have s1 := hb1.size
    clear hb1
    go_wp2_with fail
    refine (new_any _ w1).mono ?_
    rintro e w2 ⟨rfl, rfl⟩
    go_wp2_with fail
    obtain ⟨W, hW⟩ : ∃ W, W = ((w1.alloc (.cells #[.int .i64 0, .int .i64 (-1)] 38)).alloc (.cells #[.pointer (some ⟨w1.heap.size, 0, none⟩)] 24)) := ⟨_, rfl⟩
    have P3 := Lib.hid (show Pw W w1.heap.size ((0 : Nat) : Int) (-1) by subst hW; exact (At.new _ _ rfl).alloc _)
    have V3 := Lib.hid (show Pv W (w1.heap.size + 1) w1.heap.size by subst hW; exact At.new _ _ (by simp))
    have B3 := Lib.hid (show Below w.heap.size w W by subst hW; exact (B1.out.alloc s1 _).alloc (by simp; omega) _)
    rw [← hW]
    clear hW B1
    generalize w1.heap.size = g at *
    go_loopg [6, 20] n0 (fun gk s6 s20 wr => ∃ (k D : Nat) (L : Int), k ≤ n0 ∧ gk = n0 - k ∧ s20 = .int .i64 k ∧ s6 = .int .i64 D ∧ D ≤ 40 * k ∧ Pw wr g D L ∧ Pv wr (g + 1) g ∧ Below w.heap.size w wr)
    case atStart => exact ⟨0, 0, -1, Nat.zero_le _, rfl, rfl, rfl, Nat.le_refl _, P3.out, V3.out, B3.out⟩
    case round =>
      obtain ⟨k, D, L, hk, rfl, rfl, rfl, hD, hP, hV, hB⟩ := hrel
      have HP := Lib.hid hP
      have HV := Lib.hid hV
      have HB := Lib.hid hB
      clear hP hV hB
      by_cases hlt : k < n0
      · obtain ⟨b0, o0, mo, rfl, hcm, hwm⟩ := (Z0.out.below HB.out).at_ k hlt
        have hmo : -128 ≤ mo ∧ mo ≤ 127 := by simpa [Lit.wf, IntKind.min, IntKind.max, IntKind.signed, IntKind.bits] using hwm
        have hmo1 := hmo.1
        have hmo2 := hmo.2
        clear hwm hmo
        go_upto_if 28 with (fail)
        have HPa := Lib.hid (HP.out.alloc (.cells #[.int .i64 0] 3))
        have HVa := Lib.hid (HV.out.alloc (.cells #[.int .i64 0] 3))
        have HBa := Lib.hid (HB.out.alloc HB.out.size (.cells #[.int .i64 0] 3))
        have HNa := Lib.hid (At.new (w := wr) #[.int .i64 0] 3 rfl)
        have hgn := HP.out.lt
        have hvn := HV.out.lt
        have hwn := HB.out.size
        clear HP HV HB hcm
        generalize wr.alloc (.cells #[.int .i64 0] 3) = wa at *
        generalize wr.heap.size = nb at *
        go_cut [] (fun wx => ∃ n : Nat, n ≤ 39 ∧ At wx nb #[.int .i64 n] 3 ∧ But (fun k => k = nb) wa wx)
        case first =>
          have hcn : wa.cell? ⟨nb, 0, none⟩ = some (.int .i64 0) := HNa.out.cell 0
          have hzn := HNa.out.frozen 0
          by_cases hk1 : k < n1
          · obtain ⟨b1, o1, tv, rfl, hct, hwt⟩ := (T0.out.below HBa.out).at_ k hk1
            have htv : 0 ≤ tv ∧ tv ≤ 255 := by simpa [Lit.wf, IntKind.min, IntKind.max, IntKind.signed, IntKind.bits] using hwt
            have htv1 := htv.1
            have htv2 := htv.2
            clear hwt htv
            go_wp2_with fail
            have ht : (((tv % 40).toNat : Nat) : Int) = tv % 40 := by omega
            have HT := Lib.hid (show At (wa.setCell ⟨nb, 0, none⟩ (.int .i64 (tv % 40))) nb #[.int .i64 (((tv % 40).toNat : Nat) : Int)] 3 by rw [ht]; exact HNa.out.set 0 _)
            go_meet
            exact ⟨(tv % 40).toNat, by omega, HT.out, But.own _ _ _ _⟩
          · go_wp2_with fail
            go_meet
            exact ⟨0, by omega, HNa.out, But.refl _ _⟩
        case rest =>
          obtain ⟨n, hn, hat, hbx⟩ := hcut
          have hcm5 : ¬ nb = g := by omega
          have hnv : ¬ nb = g + 1 := by omega
          have HPc := Lib.hid (show Pw wc g D L from HPa.out.but hbx (by omega))
          have HVc := Lib.hid (show Pv wc (g + 1) g from HVa.out.but hbx (by omega))
          have HBc := Lib.hid (HBa.out.trans (hbx.below (B := w.heap.size) (fun k h => by omega) HBa.out.size))
          have HNc := Lib.hid hat
          have hcv : wc.cell? ⟨g + 1, 0, none⟩ = some (.pointer (some ⟨g, 0, none⟩)) := HVc.out.cell 0
          clear hat hbx HPa HVa HBa HNa
          go_wp2_with fail
          refine (limit_any g _ _ mo wc HPc.out).mono ?_
          rintro e w5 ⟨rfl, hp5, hb5⟩
          have P5 := Lib.hid hp5
          have V5 := Lib.hid (HVc.out.but hb5 (by omega))
          have N5 := Lib.hid (HNc.out.but hb5 (by omega))
          have B5 := Lib.hid (HBc.out.trans (hb5.below (B := w.heap.size) (fun k h => by omega) HBc.out.size))
          clear hp5 hb5 HPc HVc HBc HNc hcv
          go_wp2_with fail
          refine (run_ticks 15 _ g n D mo w5 (enters 15 _ (by decide)) P5.out.lt (loop15 nb (g + 1) g n D mo _ (N5.out.alloc _) (by omega) (V5.out.alloc _) (P5.out.alloc _) (by omega) (by omega) (by omega))).mono ?_
          rintro e w6 ⟨gone, rfl, hgone, hp6, hb6⟩
          obtain ⟨m, hm⟩ : ∃ m, m = can mo n := ⟨_, rfl⟩
          rw [← hm] at hp6 hgone
          have P6 := Lib.hid hp6
          have V6 := Lib.hid (show Pv w6 (g + 1) g from V5.out.but hb6 (by omega))
          have N6 := Lib.hid (N5.out.but hb6 (by omega))
          have B6 := Lib.hid (B5.out.trans (hb6.below (B := w.heap.size) (fun k h => by omega) B5.out.size))
          have hcv : w6.cell? ⟨g + 1, 0, none⟩ = some (.pointer (some ⟨g, 0, none⟩)) := V6.out.cell 0
          have hcn : w6.cell? ⟨nb, 0, none⟩ = some (.int .i64 n) := N6.out.cell 0
          have hmn : m ≤ n := by rw [hm]; exact can_le _ _
          have hsum : wrap64 ((D : Int) + (m : Int)) = (D : Int) + (m : Int) := by unfold wrap64; omega
          have HDm := Lib.hid (forty hD hmn hn)
          have HPm := Lib.hid (show Pw w6 g ((D + m : Nat) : Int) (left mo m) by rw [Int.natCast_add]; exact P6.out)
          clear hp6 hb6 P5 V5 N5 B5 hD
          unfold can at hm
          by_cases h0 : mo < 0
          · rw [if_pos h0] at hm
            subst hm
            obtain rfl : gone = false := by simpa using hgone
            clear hgone
            go_wp2_with fail
            refine (used_any g _ _ w6 P6.out).mono ?_
            rintro e w7 ⟨rfl, rfl⟩
            go_wp2
            go_roundg (n0 - (k + 1))
            case measure => omega
            case rel => exact ⟨k + 1, D + m, _, hlt, rfl, by go_num, by rw [Int.natCast_add], HDm.out, HPm.out, V6.out, B6.out⟩
          · rw [if_neg h0] at hm
            have h00 : 0 ≤ mo := by omega
            have hmin := fun (w : World) => run_min2 (P := Try.prog) w #[3, 3] 3 n mo m (by omega)
            clear hm h0
            by_cases hlt2 : m < n
            · obtain rfl : gone = true := by simpa [hlt2] using hgone
              clear hgone
              go_wp2_with fail
              refine (used_any g _ _ w6 P6.out).mono ?_
              rintro e w7 ⟨rfl, rfl⟩
              go_wp2
              go_roundg (n0 - (k + 1))
              case measure => omega
              case rel => exact ⟨k + 1, D + m, _, hlt, rfl, by go_num, by rw [Int.natCast_add], HDm.out, HPm.out, V6.out, B6.out⟩
            · obtain rfl : gone = false := by simpa [hlt2] using hgone
              clear hgone
              go_wp2_with fail
              refine (used_any g _ _ w6 P6.out).mono ?_
              rintro e w7 ⟨rfl, rfl⟩
              go_wp2
              go_roundg (n0 - (k + 1))
              case measure => omega
              case rel => exact ⟨k + 1, D + m, _, hlt, rfl, by go_num, by rw [Int.natCast_add], HDm.out, HPm.out, V6.out, B6.out⟩
      · go_wp2
        go_ret
        exact ⟨rfl, HB.out⟩
  · go_enter Try.func4, Try.ntmps4
    go_wp2_with fail
    refine (awake_any _).mono ?_
    rintro e w1 ⟨rfl, hb1⟩
    have B1 := Lib.hid hb1
    clear hb1
    go_wp2
    go_ret
    exact ⟨rfl, B1.out⟩

end Go.Proofs.Ytonfcbmncefagaa
