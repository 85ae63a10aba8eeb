/-
  THE WALK OF THE BOOK'S settle.
-/
import Derived.Test.YtlcnpjkifokhdaaBook
import Derived.Lib.SliceRun
namespace Go.Proofs.Ytlcnpjkifokhdaa
open Go.RowKit Go.Maps Go.Shelf
set_option linter.unusedVariables false
set_option maxRecDepth 100000

/-- The sectors below i that wait. -/
def wl (s : DS) : Nat → List Int
  | 0 => []
  | i + 1 => wl s i ++ (if (s.wait i).isSome then [(i : Int)] else [])
theorem wl_mem (s : DS) (x : Int) : ∀ i, x ∈ wl s i ↔ (0 ≤ x ∧ x < (i : Int)) ∧ (s.wait x).isSome = true
  | 0 => by simp [wl]; omega
  | i + 1 => by
    unfold wl
    rw [List.mem_append, wl_mem s x i]
    by_cases h : (s.wait i).isSome = true
    · rw [if_pos h]
      simp only [List.mem_singleton]
      constructor
      · rintro (h1 | rfl)
        · exact ⟨by omega, h1.2⟩
        · exact ⟨by omega, h⟩
      · rintro ⟨h1, h2⟩
        by_cases e : x = (i : Int)
        · exact .inr e
        · exact .inl ⟨by omega, h2⟩
    · rw [if_neg h]
      simp only [List.not_mem_nil, or_false]
      constructor
      · rintro ⟨h1, h2⟩
        exact ⟨by omega, h2⟩
      · rintro ⟨h1, h2⟩
        have e : ¬ x = (i : Int) := fun e => h (e ▸ h2)
        exact ⟨by omega, h2⟩
theorem wl_pw (s : DS) : ∀ i, (wl s i).Pairwise (fun x y => x < y)
  | 0 => List.Pairwise.nil
  | i + 1 => by
    unfold wl
    refine List.pairwise_append.2 ⟨wl_pw s i, by split <;> simp, fun x hx y hy => ?_⟩
    have h1 := ((wl_mem s x i).1 hx).1
    split at hy
    · simp at hy
      omega
    · simp at hy
theorem wl_len (s : DS) : ∀ i, (wl s i).length ≤ i
  | 0 => by simp [wl]
  | i + 1 => by
    have := wl_len s i
    unfold wl
    split <;> simp <;> omega
/-- Only the six sectors wait. -/
def Dom (s : DS) : Prop := ∀ j, s.wait j ≠ none → 0 ≤ j ∧ j < 6
theorem wl_waits {s : DS} (h : Dom s) : Waits s (wl s 6) := by
  refine ⟨wl_pw s 6, fun x => ?_⟩
  rw [wl_mem]
  constructor
  · exact fun h => h.2
  · intro h2
    refine ⟨?_, h2⟩
    have := h x (by intro e; rw [e] at h2; cases h2)
    omega

theorem kept_prefix (keep : Nat) (ss t : List Int) (j : Int) : ∀ k, k ≤ ss.length → kept keep (ss ++ t) j k = kept keep ss j k
  | 0, _ => rfl
  | k + 1, h => by
    unfold kept
    rw [kept_prefix keep ss t j k (by omega)]
    rw [List.getD_eq_getElem?_getD, List.getD_eq_getElem?_getD, List.getElem?_append_left (by omega)]

/-- The disk when the sectors below i were settled. -/
def mid (s : DS) (keep i : Nat) : DS := { s with on := mix keep (wl s i) (wl s i).length s.on s.wait, wait := fun j => if j < (i : Int) then none else s.wait j }
theorem mid_zero {s : DS} (h : Dom s) (keep : Nat) : mid s keep 0 = s := by
  have e : (fun j : Int => if j < (0 : Nat) then none else s.wait j) = s.wait := by
    funext j
    by_cases hj : j < ((0 : Nat) : Int)
    · rw [if_pos hj]
      cases hc : s.wait j with
      | none => rfl
      | some l => have := h j (by rw [hc]; simp); omega
    · rw [if_neg hj]
  unfold mid
  rw [e]
  rfl
theorem mid_six {s : DS} (h : Dom s) (keep : Nat) : mid s keep 6 = s.cycle keep (wl s 6) := by
  have e : (fun j : Int => if j < (6 : Nat) then none else s.wait j) = fun _ => none := by
    funext j
    by_cases hj : j < ((6 : Nat) : Int)
    · rw [if_pos hj]
    · rw [if_neg hj]
      cases hc : s.wait j with
      | none => rfl
      | some l => have := h j (by rw [hc]; simp); omega
  unfold mid DS.cycle
  rw [e]
theorem mid_none {s : DS} {keep i : Nat} (h : s.wait i = none) : mid s keep (i + 1) = mid s keep i := by
  have e1 : wl s (i + 1) = wl s i := by
    show wl s i ++ _ = _
    rw [h]
    simp
  have e2 : (fun j : Int => if j < ((i + 1 : Nat) : Int) then none else s.wait j) = (fun j : Int => if j < (i : Int) then none else s.wait j) := by
    funext j
    by_cases hj : j < (i : Int)
    · rw [if_pos hj, if_pos (by omega)]
    · rw [if_neg hj]
      by_cases e : j = (i : Int)
      · subst e
        rw [if_pos (by omega), h]
      · rw [if_neg (by omega)]
  unfold mid
  rw [e1, e2]
theorem mid_wait {s : DS} {keep i : Nat} : (mid s keep i).wait i = s.wait i := by
  unfold mid
  simp only
  rw [if_neg (by omega)]
theorem mid_some {s : DS} {keep i : Nat} {l : Bytes} (h : s.wait i = some l) :
    mid s keep (i + 1) = { mid s keep i with on := (fun j => if keep.testBit ((wl s i).length % 64) = true ∧ j = (i : Int) then some l else (mid s keep i).on j), wait := fun j => if j = (i : Int) then none else (mid s keep i).wait j } := by
  have e1 : wl s (i + 1) = wl s i ++ [(i : Int)] := by
    show wl s i ++ _ = _
    rw [h]
    rfl
  have e2 : (fun j : Int => if j < ((i + 1 : Nat) : Int) then none else s.wait j) = (fun j : Int => if j = (i : Int) then none else if j < (i : Int) then none else s.wait j) := by
    funext j
    by_cases hj : j < (i : Int)
    · rw [if_pos (by omega), if_neg (by omega), if_pos hj]
    · by_cases e : j = (i : Int)
      · rw [if_pos (by omega), if_pos e]
      · rw [if_neg (by omega), if_neg e, if_neg hj]
  have e3 : mix keep (wl s i ++ [(i : Int)]) ((wl s i).length + 1) s.on s.wait = fun j => if keep.testBit ((wl s i).length % 64) = true ∧ j = (i : Int) then some l else mix keep (wl s i) (wl s i).length s.on s.wait j := by
    funext j
    have e4 : kept keep (wl s i ++ [(i : Int)]) j ((wl s i).length + 1) = (kept keep (wl s i) j (wl s i).length || (decide ((i : Int) = j) && keep.testBit ((wl s i).length % 64))) := by
      show (kept keep (wl s i ++ [(i : Int)]) j (wl s i).length || _) = _
      rw [kept_prefix keep _ _ j _ (Nat.le_refl _)]
      congr 2
      rw [List.getD_eq_getElem?_getD]
      simp
    unfold mix
    rw [e4]
    by_cases e : j = (i : Int)
    · subst e
      cases keep.testBit ((wl s i).length % 64)
      · simp
      · simp [h]
    · have e' : ¬ (i : Int) = j := fun h => e h.symm
      simp [e, e']
  unfold mid
  rw [e1, e2, List.length_append, List.length_singleton, e3]

theorem mid_yes {s : DS} {keep i : Nat} {l : Bytes} (h : s.wait i = some l) (hb : keep.testBit ((wl s i).length % 64) = true) :
    mid s keep (i + 1) = { mid s keep i with on := (fun j => if j = (i : Int) then some l else (mid s keep i).on j), wait := fun j => if j = (i : Int) then none else (mid s keep i).wait j } := by
  rw [mid_some h, hb]
  simp
theorem mid_no {s : DS} {keep i : Nat} {l : Bytes} (h : s.wait i = some l) (hb : keep.testBit ((wl s i).length % 64) = false) :
    mid s keep (i + 1) = { mid s keep i with wait := fun j => if j = (i : Int) then none else (mid s keep i).wait j } := by
  rw [mid_some h, hb]
  simp
theorem wl_some {s : DS} {i : Nat} {l : Bytes} (h : s.wait i = some l) : (wl s (i + 1)).length = (wl s i).length + 1 := by
  show (wl s i ++ _).length = _
  rw [h]
  simp
theorem wl_none {s : DS} {i : Nat} (h : s.wait i = none) : wl s (i + 1) = wl s i := by
  show wl s i ++ _ = _
  rw [h]
  simp
theorem on_set {w : World} {U : Nat → Prop} {b : Nat} {c : Int → Option Bytes} {on : Nat → Value} (h : OnOK w U b c on) (i : Nat) {x : Addr} {cap : Nat} {l : Bytes} (hh : Has w (some x) 3 l) (hu : U x.block) (hb : ¬ x.block = b) :
    OnOK w U b (fun j => if j = (i : Int) then some l else c j) (setN on i (.slice (some x) 3 cap)) := by
  intro j hj
  by_cases e : j = i
  · subst e
    exact ⟨x, cap, by simp [setN], by simpa using hh, hu, hb⟩
  · obtain ⟨y, c', h1, h2, h3⟩ := h j hj
    refine ⟨y, c', by simp [setN, e, h1], ?_, h3⟩
    show Has w (some y) 3 ((if (j : Int) = (i : Int) then some l else c j).getD zeros)
    rw [if_neg (by omega)]
    exact h2
theorem wt_nil {w : World} {U : Nat → Prop} {b : Nat} {c : Int → Option Bytes} {wt : Nat → Value} (h : WtOK w U b c wt) (i : Nat) : WtOK w U b (fun j => if j = (i : Int) then none else c j) (setN wt i (.slice none 0 0)) := by
  intro j hj
  by_cases e : j = i
  · subst e
    exact .inl ⟨by simp [setN], by simp⟩
  · have := h j hj
    have e' : ¬ (j : Int) = (i : Int) := by omega
    simpa [setN, e, e'] using this
theorem bit_two (keep j : Nat) : (((keep : Int) / 2 ^ j).tmod 2 == 1) = keep.testBit j := by
  have e : (keep : Int) / 2 ^ j = ((keep / 2 ^ j : Nat) : Int) := by
    rw [Int.natCast_ediv, Int.natCast_pow]
    rfl
  rw [e, Nat.testBit_eq_decide_div_mod_eq, Int.tmod_eq_emod_of_nonneg (Int.natCast_nonneg _)]
  generalize keep / 2 ^ j = m
  by_cases hm : m % 2 = 1
  · have : (m : Int) % 2 = 1 := by omega
    simp [hm, this]
  · have : ¬ (m : Int) % 2 = 1 := by omega
    simp [hm, this]

theorem neq_nil (w : World) (A : Option Addr) (n c : Nat) : (binOp BinOp.neq 28 (.slice A n c) (.slice none 0 0)).run Try.prog w = .ok (.bool A.isSome) w := by
  cases A <;> rfl

section
variable {w : World} {b : Nat} {U : Nat → Prop} {s : DS} {u : Int}

set_option maxHeartbeats 3200000 in
theorem settle_any (keep : Nat) (hkeep : keep < 18446744073709551616) (hdom : Dom s) (h : Bk w b U s u) : Calls Try.prog 33 #[.pointer (some ⟨b, 0, none⟩), .int .u64 (keep : Int)] w fun e w' => e = .returned (.tuple #[]) ∧ Bk w' b U (s.cycle keep (wl s 6)) u ∧ But (fun k => k = b) w w' := by
  have H := Lib.hid h
  have HD := Lib.hid hdom
  clear h hdom
  go_enter Try.func33, Try.ntmps33
  go_wp2
  go_loopw [4, 6] (fun c i wr => ∃ j : Nat, j ≤ 6 ∧ i = .int .i64 j ∧ c = .int .i64 ((wl s j).length : Int) ∧ Bk wr b U (mid s keep j) u ∧ But (fun k => k = b) w wr) (fun _ i _ => 6 - (intOf i).toNat)
  case atStart => exact ⟨0, by omega, rfl, rfl, by rw [mid_zero HD.out]; exact H.out, But.refl _ _⟩
  case round =>
    obtain ⟨i, hi, rfl, rfl, hB, hbut⟩ := hrel
    have HB := Lib.hid hB
    have HU := Lib.hid hbut
    obtain ⟨on, wt, fb, hK⟩ := hB
    have K := Lib.hid hK
    clear hbut
    by_cases h6 : i < 6
    · have hwc : wr.cell? ⟨b, 6 + i, none⟩ = some (wt i) := (hK.at_.cell (6 + i)).trans (bc_wt h6)
      have hoc : wr.cell? ⟨b, i, none⟩ = some (on i) := (hK.at_.cell i).trans (bc_on h6)
      have hwf := hK.at_.frozen (6 + i)
      have hof := hK.at_.frozen i
      rcases hK.wtOK i h6 with ⟨e1, e2⟩ | ⟨x, cap, l, e1, e2, e3, e4, e5⟩
      · rw [e1] at hwc
        rw [mid_wait] at e2
        have hnn := fun (w : World) => neq_nil w none 0 0
        have E2 := Lib.hid e2
        clear hK e1 e2
        go_wp2
        go_roundw
        case rel => exact ⟨i + 1, by omega, by go_num, by rw [wl_none E2.out], by rw [mid_none E2.out]; exact HB.out, HU.out⟩
        case measure => simp [intOf]; omega
      · rw [e1] at hwc
        rw [mid_wait] at e2
        have hnn := fun (w : World) => neq_nil w (some x) 3 cap
        have hlen := wl_len s i
        have hbt := bit_two keep (wl s i).length
        have hmod : (wl s i).length % 64 = (wl s i).length := Nat.mod_eq_of_lt (by omega)
        have E2 := Lib.hid e2
        have HM := Lib.hid hmod
        have hls := wl_some e2
        have HLS := Lib.hid hls
        generalize hc : (wl s i).length = c at *
        have HC := Lib.hid hc
        clear hc hmod hls e2
        cases ht : keep.testBit c
        · rw [ht] at hbt
          have k2 : Book (wr.setCell ⟨b, 6 + i, none⟩ (.slice none 0 0)) b U (mid s keep (i + 1)) u on (setN wt i (.slice none 0 0)) fb := by
            rw [mid_no E2.out (by rw [HC.out, HM.out]; exact ht)]
            exact hK.put (bs_wt h6 _) hK.onOK (wt_nil hK.wtOK i) hK.fail
          have K2 := Lib.hid k2
          clear hK k2 e1 e3 e4 e5 ht
          go_wp2
          go_roundw
          case rel => exact ⟨i + 1, by omega, by go_num, by rw [HLS.out]; go_num, ⟨_, _, _, K2.out⟩, HU.out.trans (But.own _ _ _ _) (fun _ h _ => h)⟩
          case measure => simp [intOf]; omega
        · rw [ht] at hbt
          have k1 : Book (wr.setCell ⟨b, i, none⟩ (.slice (some x) 3 cap)).drew b U { mid s keep i with on := (fun j => if j = (i : Int) then some l else (mid s keep i).on j) } u (setN on i (.slice (some x) 3 cap)) wt fb :=
            (hK.put (s' := { mid s keep i with on := (fun j => if j = (i : Int) then some l else (mid s keep i).on j) }) (bs_on h6 _) (on_set hK.onOK i e3 e4 e5) hK.wtOK hK.fail).but (S := fun _ => False) (But.refl _ _).drew (fun _ _ h => h)
          have hwc1 : (wr.setCell ⟨b, i, none⟩ (.slice (some x) 3 cap)).drew.cell? ⟨b, 6 + i, none⟩ = some (wt i) := (k1.at_.cell (6 + i)).trans (bc_wt h6)
          have hwf1 := k1.at_.frozen (6 + i)
          have k2 : Book ((wr.setCell ⟨b, i, none⟩ (.slice (some x) 3 cap)).drew.setCell ⟨b, 6 + i, none⟩ (.slice none 0 0)) b U (mid s keep (i + 1)) u (setN on i (.slice (some x) 3 cap)) (setN wt i (.slice none 0 0)) fb := by
            rw [mid_yes E2.out (by rw [HC.out, HM.out]; exact ht)]
            exact k1.put (bs_wt h6 _) k1.onOK (wt_nil k1.wtOK i) k1.fail
          have K2 := Lib.hid k2
          obtain ⟨W, hW⟩ : ∃ W, W = (wr.setCell ⟨b, i, none⟩ (.slice (some x) 3 cap)).drew := ⟨_, rfl⟩
          rw [← hW] at hwc1 hwf1 K2
          have BW := Lib.hid (show But (fun k => k = b) wr W by rw [hW]; exact (But.own _ _ _ _).drew)
          have HW := Lib.hid hW
          clear hK k1 k2 e1 e3 e4 e5 ht hW
          go_wp2
          go_region
          rw [← HW.out]
          go_wp2
          go_roundw
          case rel => exact ⟨i + 1, by omega, by go_num, by rw [HLS.out]; go_num, ⟨_, _, _, K2.out⟩, (HU.out.trans BW.out (fun _ h _ => h)).trans (But.own _ _ _ _) (fun _ h _ => h)⟩
          case measure => simp [intOf]; omega
    · have e0 : i = 6 := by omega
      subst e0
      clear hK
      go_wp2
      go_end0
      exact ⟨rfl, by rw [← mid_six HD.out]; exact HB.out, HU.out⟩
end

end Go.Proofs.Ytlcnpjkifokhdaa
