/-
  THE WALKS OF THE CLOSURES: so many calls of Tick, one behind the other.
-/
import Derived.Test.YtonfcbmncefagaaRun
import Derived.Deep.LoopGhost
namespace Go.Proofs.Ytonfcbmncefagaa
open Go.RowKit
set_option linter.unusedVariables false

/-- Of n that are tried so many are done, where l more may be. -/
def can (l : Int) (n : Nat) : Nat := if l < 0 then n else min n l.toNat
/-- How many more may be done, behind j. -/
def left (l : Int) (j : Nat) : Int := if l < 0 then l else l - j
theorem left_zero (l : Int) : left l 0 = l := by unfold left; split <;> omega
theorem left_out {l : Int} {n j : Nat} (h : left l j = 0) (hj : j < n) (hl : j ≤ can l n) : can l n = j ∧ j < n := by
  unfold left at h
  unfold can at hl ⊢
  split at h <;> split at hl <;> rename_i h1 h2 <;> simp only [h1, if_true, if_false] <;> omega
theorem left_go {l : Int} {n j : Nat} (h : ¬ left l j = 0) (hj : j < n) (hl : j ≤ can l n) : less (left l j) = left l (j + 1) ∧ j + 1 ≤ can l n := by
  unfold left at h ⊢
  unfold can at hl ⊢
  unfold less
  by_cases h1 : l < 0
  · simp only [if_pos h1] at h hl ⊢
    rw [if_neg (by omega)]
    omega
  · simp only [if_neg h1] at h hl ⊢
    rw [if_pos (by omega)]
    omega
theorem left_le {l : Int} (j : Nat) (h : l ≤ 9223372036854775807) : left l j ≤ 9223372036854775807 := by unfold left; split <;> omega
theorem can_le (l : Int) (n : Nat) : can l n ≤ n := by unfold can; split <;> omega

/-- n ticks were tried, from a counter of u with l more that may be. -/
def Ticked (g : Nat) (u l : Int) (n : Nat) (w : World) (gone : Bool) (w' : World) : Prop :=
  gone = decide (can l n < n) ∧ Pw w' g (u + can l n) (left l (can l n)) ∧ But (fun k => k = g) w w'
def Ends (gone : Bool) (e : Ending) : Prop := e = (if gone then .panicked out else .returned (.tuple #[]))

set_option maxHeartbeats 800000 in
theorem loop15 (a b g n : Nat) (u l : Int) (w : World) (ha : At w a #[.int .i64 n] 3) (hn : n ≤ 255) (hb : Pv w b g) (hp : Pw w g u l) (hbg : ¬ b = g) (hu : 0 ≤ u ∧ u ≤ 100000) (hl : l ≤ 9223372036854775807) :
    Calls Try.prog 15 #[.pointer (some ⟨a, 0, none⟩), .pointer (some ⟨b, 0, none⟩)] w fun e w' => ∃ gone, Ends gone e ∧ Ticked g u l n w gone w' := by
  have HB := Lib.hid hb
  have HP := Lib.hid hp
  have HU := Lib.hid hu
  have HL := Lib.hid hl
  have hca : w.cell? ⟨a, 0, none⟩ = some (.int .i64 n) := ha.cell 0
  clear ha hb hp hu hl
  go_enter Try.func15, Try.ntmps15
  go_wp2
  go_loopg [3] n (fun gk s3 wr => ∃ j : Nat, j ≤ n ∧ gk = n - j ∧ s3 = .int .i64 j ∧ j ≤ can l n ∧ Pw wr g (u + j) (left l j) ∧ But (fun k => k = g) w wr)
  case atStart => exact ⟨0, Nat.zero_le _, rfl, rfl, Nat.zero_le _, by simpa [left_zero] using HP.out, But.refl _ _⟩
  case round =>
    obtain ⟨j, hj, rfl, rfl, hjc, hpj, hbj⟩ := hrel
    have HP' := Lib.hid hpj
    have HC' := Lib.hid hjc
    have HB' := Lib.hid hbj
    have hcb : wr.cell? ⟨b, 0, none⟩ = some (.pointer (some ⟨g, 0, none⟩)) := (At.but HB.out hbj hbg).cell 0
    clear hpj hjc hbj
    by_cases hlt : j < n
    · go_wp2_with fail
      by_cases h0 : left l j = 0
      · have hpj := HP'.out
        rw [h0] at hpj
        refine (tick_out g _ wr hpj).mono ?_
        rintro e w' ⟨rfl, rfl⟩
        obtain ⟨hc, hcn⟩ := left_out h0 hlt HC'.out
        have F0 : Ticked g u l n w true w' := ⟨by simp [hc, hcn], by rw [hc]; exact HP'.out, HB'.out⟩
        have HF := Lib.hid F0
        clear F0 hc hcn hpj h0
        unfold out
        go_wp2
        exact ⟨rfl, ⟨true, rfl, HF.out⟩⟩
      · refine (tick_go g _ _ wr HP'.out (by have := HU.out; omega) h0 (left_le _ HL.out)).mono ?_
        rintro e w' ⟨rfl, hp', hb'⟩
        obtain ⟨hc, hcn⟩ := left_go h0 hlt HC'.out
        rw [hc] at hp'
        have X := Lib.hid (show Pw w' g (u + (j + 1 : Nat)) (left l (j + 1)) by rw [show u + ((j + 1 : Nat) : Int) = u + (j : Int) + 1 by omega]; exact hp')
        have Y := Lib.hid (HB'.out.trans hb' (fun _ h _ => h))
        have Z := Lib.hid hcn
        clear hp' hb' hc hcn h0
        go_wp2
        go_roundg (n - (j + 1))
        case measure => omega
        case rel => exact ⟨j + 1, hlt, rfl, by go_num, Z.out, X.out, Y.out⟩
    · have e : j = n := by omega
      have F0 : Ticked g u l n w false wr := by
        have hc : can l n = n := by have := can_le l n; have := HC'.out; omega
        exact ⟨by simp [hc], by rw [hc, ← e]; exact HP'.out, HB'.out⟩
      have HF := Lib.hid F0
      clear F0
      go_wp2
      go_end0
      exact ⟨false, rfl, HF.out⟩

set_option maxHeartbeats 800000 in
theorem loop20 (a b g x n : Nat) (u l : Int) (w : World) (ha : At w a #[.int .u8 x] 5) (hx : x ≤ 255) (hxn : x % 40 = n) (hb : Pv w b g) (hp : Pw w g u l) (hbg : ¬ b = g) (hu : 0 ≤ u ∧ u ≤ 100000) (hl : l ≤ 9223372036854775807) :
    Calls Try.prog 20 #[.pointer (some ⟨a, 0, none⟩), .pointer (some ⟨b, 0, none⟩)] w fun e w' => ∃ gone, Ends gone e ∧ Ticked g u l n w gone w' := by
  have HB := Lib.hid hb
  have HP := Lib.hid hp
  have HU := Lib.hid hu
  have HL := Lib.hid hl
  have hca : w.cell? ⟨a, 0, none⟩ = some (.int .u8 x) := ha.cell 0
  have e0 : (x : Int) % 40 = (n : Int) := by omega
  have hn : n ≤ 255 := by omega
  clear hxn ha hb hp hu hl
  go_enter Try.func20, Try.ntmps20
  go_wp2
  rw [e0]
  clear e0 hca
  go_loopg [4] n (fun gk s3 wr => ∃ j : Nat, j ≤ n ∧ gk = n - j ∧ s3 = .int .u8 j ∧ j ≤ can l n ∧ Pw wr g (u + j) (left l j) ∧ But (fun k => k = g) w wr)
  case atStart => exact ⟨0, Nat.zero_le _, rfl, rfl, Nat.zero_le _, by simpa [left_zero] using HP.out, But.refl _ _⟩
  case round =>
    obtain ⟨j, hj, rfl, rfl, hjc, hpj, hbj⟩ := hrel
    have HP' := Lib.hid hpj
    have HC' := Lib.hid hjc
    have HB' := Lib.hid hbj
    have hcb : wr.cell? ⟨b, 0, none⟩ = some (.pointer (some ⟨g, 0, none⟩)) := (At.but HB.out hbj hbg).cell 0
    clear hpj hjc hbj
    by_cases hlt : j < n
    · go_wp2_with fail
      by_cases h0 : left l j = 0
      · have hpj := HP'.out
        rw [h0] at hpj
        refine (tick_out g _ wr hpj).mono ?_
        rintro e w' ⟨rfl, rfl⟩
        obtain ⟨hc, hcn⟩ := left_out h0 hlt HC'.out
        have F0 : Ticked g u l n w true w' := ⟨by simp [hc, hcn], by rw [hc]; exact HP'.out, HB'.out⟩
        have HF := Lib.hid F0
        clear F0 hc hcn hpj h0
        unfold out
        go_wp2
        exact ⟨rfl, ⟨true, rfl, HF.out⟩⟩
      · refine (tick_go g _ _ wr HP'.out (by have := HU.out; omega) h0 (left_le _ HL.out)).mono ?_
        rintro e w' ⟨rfl, hp', hb'⟩
        obtain ⟨hc, hcn⟩ := left_go h0 hlt HC'.out
        rw [hc] at hp'
        have X := Lib.hid (show Pw w' g (u + (j + 1 : Nat)) (left l (j + 1)) by rw [show u + ((j + 1 : Nat) : Int) = u + (j : Int) + 1 by omega]; exact hp')
        have Y := Lib.hid (HB'.out.trans hb' (fun _ h _ => h))
        have Z := Lib.hid hcn
        clear hp' hb' hc hcn h0
        go_wp2
        go_roundg (n - (j + 1))
        case measure => omega
        case rel => exact ⟨j + 1, hlt, rfl, by go_num, Z.out, X.out, Y.out⟩
    · have e : j = n := by omega
      have F0 : Ticked g u l n w false wr := by
        have hc : can l n = n := by have := can_le l n; have := HC'.out; omega
        exact ⟨by simp [hc], by rw [hc, ← e]; exact HP'.out, HB'.out⟩
      have HF := Lib.hid F0
      clear F0
      go_wp2
      go_end0
      exact ⟨false, rfl, HF.out⟩

set_option maxHeartbeats 800000 in
theorem loop22 (a b g x n : Nat) (u l : Int) (w : World) (ha : At w a #[.int .u8 x] 5) (hx : x ≤ 255) (hxn : x % 60 = n) (hb : Pv w b g) (hp : Pw w g u l) (hbg : ¬ b = g) (hu : 0 ≤ u ∧ u ≤ 100000) (hl : l ≤ 9223372036854775807) :
    Calls Try.prog 22 #[.pointer (some ⟨a, 0, none⟩), .pointer (some ⟨b, 0, none⟩)] w fun e w' => ∃ gone, Ends gone e ∧ Ticked g u l n w gone w' := by
  have HB := Lib.hid hb
  have HP := Lib.hid hp
  have HU := Lib.hid hu
  have HL := Lib.hid hl
  have hca : w.cell? ⟨a, 0, none⟩ = some (.int .u8 x) := ha.cell 0
  have e0 : (x : Int) % 60 = (n : Int) := by omega
  have hn : n ≤ 255 := by omega
  clear hxn ha hb hp hu hl
  go_enter Try.func22, Try.ntmps22
  go_wp2
  rw [e0]
  clear e0 hca
  go_loopg [4] n (fun gk s3 wr => ∃ j : Nat, j ≤ n ∧ gk = n - j ∧ s3 = .int .u8 j ∧ j ≤ can l n ∧ Pw wr g (u + j) (left l j) ∧ But (fun k => k = g) w wr)
  case atStart => exact ⟨0, Nat.zero_le _, rfl, rfl, Nat.zero_le _, by simpa [left_zero] using HP.out, But.refl _ _⟩
  case round =>
    obtain ⟨j, hj, rfl, rfl, hjc, hpj, hbj⟩ := hrel
    have HP' := Lib.hid hpj
    have HC' := Lib.hid hjc
    have HB' := Lib.hid hbj
    have hcb : wr.cell? ⟨b, 0, none⟩ = some (.pointer (some ⟨g, 0, none⟩)) := (At.but HB.out hbj hbg).cell 0
    clear hpj hjc hbj
    by_cases hlt : j < n
    · go_wp2_with fail
      by_cases h0 : left l j = 0
      · have hpj := HP'.out
        rw [h0] at hpj
        refine (tick_out g _ wr hpj).mono ?_
        rintro e w' ⟨rfl, rfl⟩
        obtain ⟨hc, hcn⟩ := left_out h0 hlt HC'.out
        have F0 : Ticked g u l n w true w' := ⟨by simp [hc, hcn], by rw [hc]; exact HP'.out, HB'.out⟩
        have HF := Lib.hid F0
        clear F0 hc hcn hpj h0
        unfold out
        go_wp2
        exact ⟨rfl, ⟨true, rfl, HF.out⟩⟩
      · refine (tick_go g _ _ wr HP'.out (by have := HU.out; omega) h0 (left_le _ HL.out)).mono ?_
        rintro e w' ⟨rfl, hp', hb'⟩
        obtain ⟨hc, hcn⟩ := left_go h0 hlt HC'.out
        rw [hc] at hp'
        have X := Lib.hid (show Pw w' g (u + (j + 1 : Nat)) (left l (j + 1)) by rw [show u + ((j + 1 : Nat) : Int) = u + (j : Int) + 1 by omega]; exact hp')
        have Y := Lib.hid (HB'.out.trans hb' (fun _ h _ => h))
        have Z := Lib.hid hcn
        clear hp' hb' hc hcn h0
        go_wp2
        go_roundg (n - (j + 1))
        case measure => omega
        case rel => exact ⟨j + 1, hlt, rfl, by go_num, Z.out, X.out, Y.out⟩
    · have e : j = n := by omega
      have F0 : Ticked g u l n w false wr := by
        have hc : can l n = n := by have := can_le l n; have := HC'.out; omega
        exact ⟨by simp [hc], by rw [hc, ← e]; exact HP'.out, HB'.out⟩
      have HF := Lib.hid F0
      clear F0
      go_wp2
      go_end0
      exact ⟨false, rfl, HF.out⟩

set_option maxHeartbeats 800000 in
theorem loop21 (b g : Nat) (u l : Int) (w : World)  (hb : Pv w b g) (hp : Pw w g u l) (hbg : ¬ b = g) (hu : 0 ≤ u ∧ u ≤ 100000) (hl : l ≤ 9223372036854775807) :
    Calls Try.prog 21 #[.pointer (some ⟨b, 0, none⟩)] w fun e w' => ∃ gone, Ends gone e ∧ Ticked g u l 60 w gone w' := by
  have HB := Lib.hid hb
  have HP := Lib.hid hp
  have HU := Lib.hid hu
  have HL := Lib.hid hl
  clear hb hp hu hl
  go_enter Try.func21, Try.ntmps21
  go_wp2
  go_loopg [1] 60 (fun gk s3 wr => ∃ j : Nat, j ≤ 60 ∧ gk = 60 - j ∧ s3 = .int .i64 j ∧ j ≤ can l 60 ∧ Pw wr g (u + j) (left l j) ∧ But (fun k => k = g) w wr)
  case atStart => exact ⟨0, Nat.zero_le _, rfl, rfl, Nat.zero_le _, by simpa [left_zero] using HP.out, But.refl _ _⟩
  case round =>
    obtain ⟨j, hj, rfl, rfl, hjc, hpj, hbj⟩ := hrel
    have HP' := Lib.hid hpj
    have HC' := Lib.hid hjc
    have HB' := Lib.hid hbj
    have hcb : wr.cell? ⟨b, 0, none⟩ = some (.pointer (some ⟨g, 0, none⟩)) := (At.but HB.out hbj hbg).cell 0
    clear hpj hjc hbj
    by_cases hlt : j < 60
    · go_wp2_with fail
      by_cases h0 : left l j = 0
      · have hpj := HP'.out
        rw [h0] at hpj
        refine (tick_out g _ wr hpj).mono ?_
        rintro e w' ⟨rfl, rfl⟩
        obtain ⟨hc, hcn⟩ := left_out h0 hlt HC'.out
        have F0 : Ticked g u l 60 w true w' := ⟨by simp [hc, hcn], by rw [hc]; exact HP'.out, HB'.out⟩
        have HF := Lib.hid F0
        clear F0 hc hcn hpj h0
        unfold out
        go_wp2
        exact ⟨rfl, ⟨true, rfl, HF.out⟩⟩
      · refine (tick_go g _ _ wr HP'.out (by have := HU.out; omega) h0 (left_le _ HL.out)).mono ?_
        rintro e w' ⟨rfl, hp', hb'⟩
        obtain ⟨hc, hcn⟩ := left_go h0 hlt HC'.out
        rw [hc] at hp'
        have X := Lib.hid (show Pw w' g (u + (j + 1 : Nat)) (left l (j + 1)) by rw [show u + ((j + 1 : Nat) : Int) = u + (j : Int) + 1 by omega]; exact hp')
        have Y := Lib.hid (HB'.out.trans hb' (fun _ h _ => h))
        have Z := Lib.hid hcn
        clear hp' hb' hc hcn h0
        go_wp2
        go_roundg (60 - (j + 1))
        case measure => omega
        case rel => exact ⟨j + 1, hlt, rfl, by go_num, Z.out, X.out, Y.out⟩
    · have e : j = 60 := by omega
      have F0 : Ticked g u l 60 w false wr := by
        have hc : can l 60 = 60 := by have := can_le l 60; have := HC'.out; omega
        exact ⟨by simp [hc], by rw [hc, ← e]; exact HP'.out, HB'.out⟩
      have HF := Lib.hid F0
      clear F0
      go_wp2
      go_end0
      exact ⟨false, rfl, HF.out⟩

/-- What PowerCounts' own call makes: n ticks are tried, and behind them, unless the power went, a variable is turned. -/
def Counted (g c : Nat) (u l : Int) (n : Nat) (w : World) (gone : Bool) (w' : World) : Prop :=
  gone = decide (can l n < n) ∧ Pw w' g (u + can l n) (left l (can l n)) ∧ At w' c #[.bool (!gone)] 4 ∧ But (fun k => k = g ∨ k = c) w w'
set_option maxHeartbeats 800000 in
theorem loop11 (a b c g n : Nat) (u l : Int) (w : World) (ha : At w a #[.int .u8 n] 5) (hn : n ≤ 255) (hcc : At w c #[.bool false] 4) (hcg : ¬ c = g) (hb : Pv w b g) (hp : Pw w g u l) (hbg : ¬ b = g) (hu : 0 ≤ u ∧ u ≤ 100000) (hl : l ≤ 9223372036854775807) :
    Calls Try.prog 11 #[.pointer (some ⟨a, 0, none⟩), .pointer (some ⟨b, 0, none⟩), .pointer (some ⟨c, 0, none⟩)] w fun e w' => ∃ gone, Ends gone e ∧ Counted g c u l n w gone w' := by
  have HB := Lib.hid hb
  have HP := Lib.hid hp
  have HU := Lib.hid hu
  have HL := Lib.hid hl
  have HC := Lib.hid hcc
  have hca : w.cell? ⟨a, 0, none⟩ = some (.int .u8 n) := ha.cell 0
  clear ha hb hp hu hl hcc
  go_enter Try.func11, Try.ntmps11
  go_wp2
  go_loopg [4] n (fun gk s3 wr => ∃ j : Nat, j ≤ n ∧ gk = n - j ∧ s3 = .int .u8 j ∧ j ≤ can l n ∧ Pw wr g (u + j) (left l j) ∧ But (fun k => k = g) w wr)
  case atStart => exact ⟨0, Nat.zero_le _, rfl, rfl, Nat.zero_le _, by simpa [left_zero] using HP.out, But.refl _ _⟩
  case round =>
    obtain ⟨j, hj, rfl, rfl, hjc, hpj, hbj⟩ := hrel
    have HP' := Lib.hid hpj
    have HC' := Lib.hid hjc
    have HB' := Lib.hid hbj
    have hcb : wr.cell? ⟨b, 0, none⟩ = some (.pointer (some ⟨g, 0, none⟩)) := (At.but HB.out hbj hbg).cell 0
    clear hpj hjc hbj
    by_cases hlt : j < n
    · go_wp2_with fail
      by_cases h0 : left l j = 0
      · have hpj := HP'.out
        rw [h0] at hpj
        refine (tick_out g _ wr hpj).mono ?_
        rintro e w' ⟨rfl, rfl⟩
        obtain ⟨hc, hcn⟩ := left_out h0 hlt HC'.out
        have F0 : Ticked g u l n w true w' := ⟨by simp [hc, hcn], by rw [hc]; exact HP'.out, HB'.out⟩
        have HF := Lib.hid F0
        clear F0 hc hcn hpj h0
        unfold out
        go_wp2
        exact ⟨rfl, ⟨true, rfl, HF.out.1, HF.out.2.1, HC.out.but HF.out.2.2 hcg, HF.out.2.2.mono (fun _ h _ => .inl h)⟩⟩
      · refine (tick_go g _ _ wr HP'.out (by have := HU.out; omega) h0 (left_le _ HL.out)).mono ?_
        rintro e w' ⟨rfl, hp', hb'⟩
        obtain ⟨hc, hcn⟩ := left_go h0 hlt HC'.out
        rw [hc] at hp'
        have X := Lib.hid (show Pw w' g (u + (j + 1 : Nat)) (left l (j + 1)) by rw [show u + ((j + 1 : Nat) : Int) = u + (j : Int) + 1 by omega]; exact hp')
        have Y := Lib.hid (HB'.out.trans hb' (fun _ h _ => h))
        have Z := Lib.hid hcn
        clear hp' hb' hc hcn h0
        go_wp2
        go_roundg (n - (j + 1))
        case measure => omega
        case rel => exact ⟨j + 1, hlt, rfl, by go_num, Z.out, X.out, Y.out⟩
    · have e : j = n := by omega
      have F0 : Ticked g u l n w false wr := by
        have hc : can l n = n := by have := can_le l n; have := HC'.out; omega
        exact ⟨by simp [hc], by rw [hc, ← e]; exact HP'.out, HB'.out⟩
      have HF := Lib.hid F0
      clear F0
      have hcx := HC.out.but HF.out.2.2 hcg
      have hc1 : wr.cell? ⟨c, 0, none⟩ = some (.bool false) := hcx.cell 0
      have hc2 := hcx.frozen 0
      have HX := Lib.hid hcx
      clear hcx
      go_wp2
      go_end0
      exact ⟨false, rfl, HF.out.1, At.other HF.out.2.1 hcg _, HX.out.set 0 _, (HF.out.2.2.mono (fun _ h _ => .inl h)).trans (But.own _ _ _ _) (fun _ h _ => .inr h)⟩

theorem enters (K : Nat) (cap : Array Value) (hK : K = 11 ∨ K = 15 ∨ K = 19 ∨ K = 20 ∨ K = 21 ∨ K = 22 ∨ K = 23 ∨ K = 17 ∨ K = 18) (w : World) : (callFunc K cap).run Try.prog w = .ok (.enter K cap) w := by
  rcases hK with rfl | rfl | rfl | rfl | rfl | rfl | rfl | rfl | rfl <;> simp [go_sem]

end Go.Proofs.Ytonfcbmncefagaa
