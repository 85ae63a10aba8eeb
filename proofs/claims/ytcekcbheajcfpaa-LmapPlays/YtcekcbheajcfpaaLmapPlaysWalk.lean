/-
  THE WALK OF LmapPlays.
-/
import Derived.Test.YtcekcbheajcfpaaSys
import Derived.Test.YtcekcbheajcfpaaMapM
import Derived.Test.YtcekcbheajcfpaaRep
import Derived.Deep.CutRange
import Derived.Deep.CutBlock
import Derived.Deep.DeepCutAuto
namespace Go.Proofs.Ytcekcbheajcfpaa
open Go.RowKit
set_option linter.unusedVariables false
set_option maxRecDepth 100000


theorem allV_none (m : Nat) : allV m (fun _ => -1) = List.replicate m (-1) := by
  apply List.ext_getElem
  · simp [allV]
  · intro j h1 h2
    simp [allV]
theorem allV_set {m j : Nat} (V : Nat → Int) (v : Int) (h : j < m) : (ints (allV m V)).set j (.int .i64 v) = ints (allV m (setN V j v)) := by
  unfold ints
  rw [← List.map_set (f := fun p => Value.int .i64 p) (a := v)]
  congr 1
  apply List.ext_getElem
  · simp [allV]
  · intro i h1 h2
    rw [List.getElem_set]
    simp only [List.length_set, allV_len] at h1
    rw [allV_get (setN V j v) h1]
    unfold setN
    by_cases e : j = i
    · rw [if_pos e, if_pos e.symm]
    · rw [if_neg e, if_neg (fun x => e x.symm), allV_get V h1]
theorem all_cell {w : World} {a n k : Nat} {V : Nat → Int} (h : At w a (ints (allV n V)).toArray 3) (hk : k < n) : w.cell? ⟨a, k, none⟩ = some (.int .i64 (V k)) := by
  rw [h.cell, List.getElem?_toArray, ints_get (by rw [allV_len]; exact hk), allV_get V hk]
set_option maxHeartbeats 400000 in
theorem at_any {w : World} {q m : Nat} {V : Nat → Int} (hm : m ≤ 1000000) (h : At w q (ints (allV m V)).toArray 3) (i : Int) : Calls Try.prog 13 #[.slice (some ⟨q, 0, none⟩) m m, .int .i64 i] w fun e w' => e = .returned (.int .i64 (lies m V i)) ∧ w' = w := by
  by_cases hi : Has_ m i
  · obtain ⟨k, rfl⟩ : ∃ k : Nat, i = (k : Int) := ⟨i.toNat, by have := hi.1; omega⟩
    have hk : k < m := by have := hi.2; omega
    have d := all_cell h hk
    have L := Lib.hid (lies_in V hk)
    clear hi
    generalize V k = v at d L
    go_enter Try.func13, Try.ntmps13
    go_wp2
    go_ret
    exact ⟨by rw [L.out]; rfl, rfl⟩
  · have L := Lib.hid (lies_off V hi)
    by_cases h0 : i < 0
    · go_enter Try.func13, Try.ntmps13
      go_wp2
      go_ret
      exact ⟨by rw [L.out]; rfl, rfl⟩
    · have h1 : (m : Int) ≤ i := by unfold Has_ at hi; omega
      have h0 : 0 ≤ i := by omega
      go_enter Try.func13, Try.ntmps13
      go_wp2
      go_ret
      exact ⟨by rw [L.out]; rfl, rfl⟩
theorem setP_yes {n k : Nat} (A : Nat → Bool) (v : Int) (hk : k < n) (hv : 0 ≤ v) : setP n A (k : Int) v = fun j => A j || decide (j = k / 16) := by
  funext j
  unfold setP
  congr 1
  by_cases e : j = k / 16
  · rw [decide_eq_true ⟨⟨by omega, by omega⟩, hv, by simpa using e⟩, decide_eq_true e]
  · rw [decide_eq_false (fun ⟨_, _, c⟩ => e (by simpa using c)), decide_eq_false e]
theorem setP_below {n : Nat} {A : Nat → Bool} {i v : Int} (h : ∀ j, A j = true → j < (n + 15) / 16) : ∀ j, setP n A i v j = true → j < (n + 15) / 16 := by
  intro j hj
  unfold setP at hj
  rw [Bool.or_eq_true] at hj
  rcases hj with hj | hj
  · exact h j hj
  · have := of_decide_eq_true hj
    unfold Has_ at this
    omega
theorem Sy.less {w0 w : World} {U U' : Nat → Prop} {g n : Nat} {V : Nat → Int} {A : Nat → Bool} (h : Sy w0 w U g n V A) (hu : ∀ k, U' k → U k) : Sy w0 w U' g n V A := by
  obtain ⟨T, hl, ht, hw, hb⟩ := h
  exact ⟨T, hl, fun k hk => ⟨(ht k hk).1, fun h => (ht k hk).2 (hu k h)⟩, hw, fun k hk => hb k (hu k hk)⟩
/-- The blocks beside the map. -/
abbrev Two_ (q b : Nat) (k : Nat) : Prop := k = q ∨ k = b

set_option maxHeartbeats 3200000 in
theorem lmapPlays_walk (x : Int) (A : Option Addr) (n c : Nat) (M : List Ac) (w : World) (hx : 0 ≤ x ∧ x ≤ 255) (h : Acts w A n c M) : Calls Try.prog 3 #[.int .u8 x, .slice A n c] w fun e w' => e = .returned (.bool true) ∧ Below w.heap.size w w' := by
  have H := Lib.hid h
  obtain ⟨m, hm, hm8⟩ : ∃ m : Nat, x % 70 = (m : Int) ∧ m ≤ 69 := ⟨(x % 70).toNat, by omega, by omega⟩
  have HM := Lib.hid hm
  have hmm := @run_makeMap Try.prog
  clear h
  go_enter Try.func3, Try.ntmps3
  go_wp2_with fail
  refine (awake_any w).mono ?_
  rintro e w0 ⟨rfl, hb0⟩
  have B0 := Lib.hid hb0
  clear hb0
  by_cases hbig : 80 < n
  · have hbi : (80 : Int) < (n : Int) := by omega
    go_wp2
    go_ret
    exact ⟨rfl, B0.out⟩
  have hbi : ¬ (80 : Int) < (n : Int) := by omega
  go_wp2_with fail
  refine (made_sy (w0 := w) (n := m) (by omega) B0.out).mono ?_
  rintro e w1 ⟨g, rfl, hS, _⟩
  have S1 := Lib.hid (hS.alloc (.cells #[.int .i64 (-1)] 3))
  clear hS
  go_wp2_with fail
  refine (repeat_any (-1) m w1.heap.size _ (by omega) (At.new _ 3 rfl)).mono ?_
  rintro e w2 ⟨q, rfl, hq, hat, hb⟩
  rw [← allV_none] at hat
  have S2 := Lib.hid (S1.out.new hb hq hat.lt)
  have Q2 := Lib.hid hat
  have QL := Lib.hid (show w.heap.size ≤ q by have := S1.out.bel.size; omega)
  clear hat hb hq
  have M3 := Lib.hid (show Mp (w2.alloc (.map #[] 0)) w2.heap.size (Ones fun _ => false) by rw [Ones.none_]; exact Mp.made w2)
  have S3 := Lib.hid ((S2.out.new (Below.alloc (Below.refl _ _) (Nat.le_refl _) (.map #[] 0)) (Nat.le_refl _) (by simp)).less (U' := Two_ q w2.heap.size) (fun k h => h.imp .inr id))
  have Q3 := Lib.hid (Q2.out.alloc (.map #[] 0))
  have QB := Lib.hid (show w.heap.size ≤ q ∧ q < w2.heap.size ∧ w.heap.size ≤ w2.heap.size by have := QL.out; have := S2.out.bel.size; have := Q2.out.lt; omega)
  go_wp2_with fail
  generalize w2.alloc (.map #[] 0) = w3 at *
  generalize w2.heap.size = b at *
  go_loopg [10, 11, 12, 13, 15, 32, 93, 94, 95] n (fun gg _ _ _ _ _ s32 _ _ _ wr => ∃ (k : Nat) (V : Nat → Int) (P : Nat → Bool), k ≤ n ∧ n - k ≤ gg ∧ s32 = .int .i64 (k : Int) ∧ Sy w wr (Two_ q b) g m V P ∧ At wr q (ints (allV m V)).toArray 3 ∧ Mp wr b (Ones P) ∧ ∀ j, P j = true → j < (m + 15) / 16)
  case atStart => exact ⟨0, _, _, Nat.zero_le _, by omega, rfl, S3.out, Q3.out, M3.out, fun j h => by cases h⟩
  case round =>
    obtain ⟨k, V, P, hk0, hgg, rfl, hS, hQ, hM, hP⟩ := hrel
    have SS := Lib.hid hS
    have QQ := Lib.hid hQ
    have MM := Lib.hid hM
    have PP := Lib.hid hP
    clear hS hQ hM hP
    by_cases hlt : k < n
    · have hk80 : k < 80 := by omega
      obtain ⟨ba, off, rfl, hacts⟩ := H.out.2.2.2 (by omega)
      have hkl : k < M.length := by rw [H.out.1]; exact hlt
      have hact := (hacts k hkl).below SS.out.bel
      generalize M[k] = X at hact
      obtain ⟨xl, xp⟩ := X
      obtain ⟨c0, c1, hdl, hdp, _⟩ := hact
      simp only at c0 c1 hdl hdp
      clear hacts
      have X4 := Lib.hid (At.new (w := wr) #[.int .i8 xl, .int .i16 xp] 32 rfl)
      have S4 := Lib.hid (SS.out.alloc (.cells #[.int .i8 xl, .int .i16 xp] 32))
      have Q4 := Lib.hid (QQ.out.alloc (.cells #[.int .i8 xl, .int .i16 xp] 32))
      have M4 := Lib.hid (MM.out.but (S := fun _ => False) ((But.refl _ _).alloc (.cells #[.int .i8 xl, .int .i16 xp] 32)) (fun h => h))
      have XL := Lib.hid (show w.heap.size ≤ wr.heap.size from SS.out.bel.size)
      have XN := Lib.hid (show ¬ wr.heap.size = q ∧ ¬ wr.heap.size = b by have := QQ.out.lt; have := MM.out.lt; omega)
      go_upto_region 11 with (fail)
      clear c0 c1
      generalize hw4 : wr.alloc (.cells #[.int .i8 xl, .int .i16 xp] 32) = w4 at *
      generalize hx4 : wr.heap.size = X at *
      clear hw4 hx4 SS QQ MM
      obtain ⟨hh, hhe⟩ : ∃ hh, hh = decide (Has_ m xl) := ⟨_, rfl⟩
      have HH := Lib.hid hhe
      clear hhe
      go_cut [45] (fun s45 wx => s45 = .bool hh ∧ wx = w4)
      case first =>
        by_cases h0 : 0 ≤ xl
        · by_cases h1 : xl < (m : Int)
          · have e : decide (Has_ m xl) = true := by simpa using ⟨h0, h1⟩
            go_wp2_with fail
            go_meet
            exact ⟨by rw [HH.out, e], rfl⟩
          · have e : decide (Has_ m xl) = false := by simp; omega
            go_wp2_with fail
            go_meet
            exact ⟨by rw [HH.out, e], rfl⟩
        · have e : decide (Has_ m xl) = false := by simp; omega
          go_wp2_with fail
          go_meet
          exact ⟨by rw [HH.out, e], rfl⟩
      case rest =>
        obtain ⟨rfl, hw5⟩ := hcut
        subst hw5
        go_upto_if 45 with (fail)
        go_cut [12] (fun s12 wx => s12 = .int .i64 (lies m V xl) ∧ Sy w wx (Two_ q b) g m V P ∧ At wx q (ints (allV m (setI m V xl xp))).toArray 3 ∧ Mp wx b (Ones (setP m P xl xp)) ∧ (∀ j, setP m P xl xp j = true → j < (m + 15) / 16) ∧ At wx X #[.int .i8 xl, .int .i16 xp] 32)
        case first =>
          by_cases hi : Has_ m xl
          · have he : hh = true := by rw [HH.out]; simpa using hi
            obtain ⟨j, rfl⟩ : ∃ j : Nat, xl = (j : Int) := ⟨xl.toNat, by have := hi.1; omega⟩
            have hj : j < m := by have := hi.2; omega
            have LI := Lib.hid (lies_in V hj)
            have SI := Lib.hid (setI_in V xp hj)
            have HI := Lib.hid hi
            obtain ⟨M2, hM2⟩ : ∃ M2, M2 = max xp (-1) := ⟨_, rfl⟩
            have hmax := fun (w : World) => run_max2 (P := Try.prog) w #[3, 3] 3 xp (-1) M2 hM2
            rw [← hM2] at SI
            clear hM2 hi HH
            subst he
            have d1 := all_cell Q4.out hj
            have f1 := Q4.out.frozen j
            have x1 : wc.cell? ⟨X, 1, none⟩ = some (.int .i16 xp) := X4.out.cell 1
            have N1 := Q4.out.set j (.int .i64 M2)
            rw [List.setIfInBounds_toArray, allV_set V M2 hj, ← SI.out] at N1
            have bq := (But.refl (fun k => k = q) wc).setCell (p := ⟨q, j, none⟩) (fun _ => rfl) (.int .i64 M2)
            have S5 := Lib.hid (S4.out.but (bq.mono (fun k e _ => ⟨.inl e, by rw [e]; exact QB.out.1⟩)))
            have X5 := Lib.hid (X4.out.but bq XN.out.1)
            have M5 := Lib.hid (M4.out.but bq (fun e => by have := QB.out; omega))
            have x2 : (wc.setCell ⟨q, j, none⟩ (.int .i64 M2)).cell? ⟨X, 1, none⟩ = some (.int .i16 xp) := X5.out.cell 1
            have Q5 := Lib.hid N1
            clear N1 bq
            by_cases hp0 : 0 ≤ xp
            · obtain ⟨w6, hst, hM6, hB6⟩ := M5.out.mark PP.out (by omega) (k := j / 16) (by omega)
              have K16 : ((j / 16 : Nat) : Int) = (j : Int) / 16 := by omega
              rw [K16] at hst
              have SP := Lib.hid (setP_yes P xp hj hp0)
              have M6 := Lib.hid hM6
              have S6 := Lib.hid (S5.out.but (hB6.mono (fun k e _ => ⟨.inr e, by rw [e]; exact QB.out.2.2⟩)))
              have Q6 := Lib.hid (Q5.out.but hB6 (fun e => by have := QB.out; omega))
              have X6 := Lib.hid (X5.out.but hB6 XN.out.2)
              clear hM6 hB6 K16
              go_wp2_with fail
              go_meet
              exact ⟨by rw [LI.out], S6.out, Q6.out, by rw [SP.out]; exact M6.out, setP_below PP.out, X6.out⟩
            · have SP := Lib.hid (setP_none (n := m) P (i := (j : Int)) (v := xp) (fun c => hp0 c.2))
              go_wp2_with fail
              go_meet
              exact ⟨by rw [LI.out], S5.out, Q5.out, by rw [SP.out]; exact M5.out, setP_below PP.out, X5.out⟩
          · have he : hh = false := by rw [HH.out]; simpa using hi
            have LI := Lib.hid (lies_off V hi)
            have SI := Lib.hid (setI_off V xp hi)
            have SP := Lib.hid (setP_none (n := m) P (i := xl) (v := xp) (fun c => hi c.1))
            clear hi HH
            subst he
            go_wp2_with fail
            go_meet
            exact ⟨by rw [LI.out], S4.out, by rw [SI.out]; exact Q4.out, by rw [SP.out]; exact M4.out, setP_below PP.out, X4.out⟩
        case rest =>
          obtain ⟨rfl, hS, hQ, hM, hP, hX⟩ := hcut
          have S5 := Lib.hid hS
          have Q5 := Lib.hid hQ
          have M5 := Lib.hid hM
          have P5 := Lib.hid hP
          have x0 : wc.cell? ⟨X, 1, none⟩ = some (.int .i16 xp) := hX.cell 1
          clear hS hQ hM hP hX S4 Q4 M4 X4
          obtain ⟨L, hL⟩ : ∃ L, lies m V xl = L := ⟨_, rfl⟩
          have LL := Lib.hid hL
          rw [hL]
          clear hL
          go_wp2_with fail
          refine (set_sy xl xp (by omega) S5.out).mono ?_
          rw [LL.out]
          rintro e w6 ⟨rfl, hS, hb⟩
          obtain ⟨V6, hV6⟩ : ∃ V6, V6 = setI m V xl xp := ⟨_, rfl⟩
          obtain ⟨P6, hP6⟩ : ∃ P6, P6 = setP m P xl xp := ⟨_, rfl⟩
          rw [← hV6] at hS Q5
          rw [← hP6] at hS M5 P5
          have S6 := Lib.hid hS
          have Q6 := Lib.hid (Q5.out.but hb (fun h => h.2 (.inl rfl)))
          have M6 := Lib.hid (M5.out.but hb (fun h => h.2 (.inr rfl)))
          have hlen := fun (ty : TypeId) => M6.out.len P5.out (by omega) ty
          have G6 := Lib.hid (show lies m V6 xl = lies m V6 xl from rfl)
          clear hS hb Q5 M5 S5 hV6 hP6 x0
          obtain ⟨PN, hPN⟩ : ∃ PN, pages P6 ((m + 15) / 16) = PN := ⟨_, rfl⟩
          have PNH := Lib.hid hPN
          rw [hPN] at hlen
          clear hPN
          go_wp2_with fail
          refine (pages_sy S6.out).mono ?_
          rw [PNH.out]
          rintro e w7 ⟨rfl, hw⟩
          subst hw
          go_wp2_with fail
          refine (get_sy xl S6.out).mono ?_
          obtain ⟨L6, hL6⟩ : ∃ L6, lies m V6 xl = L6 := ⟨_, rfl⟩
          have LL6 := Lib.hid hL6
          rw [hL6]
          clear hL6
          rintro e w8 ⟨rfl, hw⟩
          subst hw
          go_wp2_with fail
          refine (at_any (by omega) Q6.out xl).mono ?_
          rw [LL6.out]
          rintro e w9 ⟨rfl, hw⟩
          subst hw
          go_wp2_with fail
          refine (len_sy S6.out).mono ?_
          rintro e w10 ⟨rfl, hw⟩
          subst hw
          go_wp2_with fail
          go_loopg [13, 15, 95] m (fun gg s13 _ s95 wq => ∃ j : Nat, j ≤ m ∧ m - j ≤ gg ∧ s95 = .int .i64 (j : Int) ∧ s13 = .int .i64 (many V6 j : Nat) ∧ wq = w10)
          case atStart => exact ⟨0, by omega, by omega, rfl, rfl, rfl⟩
          case round =>
            obtain ⟨j, hj0, hgj, rfl, rfl, hw2⟩ := hrel
            subst hw2
            have hml := many_le V6 j
            by_cases hj : j < m
            · have e2 := all_cell Q6.out hj
              have VL := S6.out.low j
              by_cases hv : V6 j = -1
              · have N := Lib.hid (many_no hv)
                rw [hv] at e2
                clear hv VL
                generalize hMV : many V6 j = MV at *
                go_wp2_with fail
                go_roundg (m - (j + 1))
                case measure => omega
                case rel => exact ⟨j + 1, by omega, Nat.le_refl _, by go_num, by rw [N.out], rfl⟩
              · have N := Lib.hid (many_yes hv)
                have hd : decide (0 ≤ V6 j) = true := by simp; omega
                clear hv VL
                generalize V6 j = v at e2 hd
                generalize hMV : many V6 j = MV at *
                go_wp2_with fail
                go_roundg (m - (j + 1))
                case measure => omega
                case rel => exact ⟨j + 1, by omega, Nat.le_refl _, by go_num, by rw [N.out]; go_num, rfl⟩
            · obtain rfl : j = m := by omega
              go_wp2_with fail
              refine (many_sy S6.out).mono ?_
              rintro e w11 ⟨rfl, hw⟩
              rw [hw]
              clear hw hlen
              go_wp2_with fail
              go_roundg (n - (k + 1))
              case measure => omega
              case rel => exact ⟨k + 1, V6, P6, by omega, Nat.le_refl _, by go_num, S6.out, Q6.out, M6.out, P5.out⟩
    · obtain rfl : k = n := by omega
      clear hlt hgg hk0
      go_wp2_with fail
      refine (all_sy SS.out).mono ?_
      rintro e w11 ⟨a1, rfl, ha1, hat1, hb⟩
      have hI := HasI.of_at hat1
      have hJ := (HasI.of_at QQ.out).below hb
      rw [allV_len] at hI hJ
      have B3 := Lib.hid (SS.out.below hb).bel
      clear hb hat1
      go_wp2_with fail
      refine (equalI_yes (some ⟨a1, 0, none⟩) (some ⟨q, 0, none⟩) m m m (allV m V) _ (by omega) hI hJ).mono ?_
      rintro e w5 ⟨rfl, d, rfl⟩
      clear hI hJ
      go_wp2
      go_ret
      exact ⟨rfl, below_drewN B3.out d⟩
end Go.Proofs.Ytcekcbheajcfpaa
