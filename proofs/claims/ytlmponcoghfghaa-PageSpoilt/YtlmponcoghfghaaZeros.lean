/-
  THE WALKS OF zeros, AND OF WHAT IT CALLS.
-/
import Derived.Test.YtlmponcoghfghaaLawA
namespace Go.Proofs.Ytlmponcoghfghaa
open Go.RowKit
set_option linter.unusedVariables false
set_option maxRecDepth 100000

/-- All are noughts. -/
def None0 (l : List (BitVec 8)) : Prop := ∀ x ∈ l, x = 0#8
def First (l : List (BitVec 8)) (i : Int) : Prop := (i = -1 ∧ None0 l) ∨ (0 ≤ i ∧ i ≤ 1000000 ∧ ¬ None0 l)

theorem pred_yes (x : BitVec 8) (hx : ¬ (x.toNat : Int) = 0) (w : World) : Calls Try.prog 59 #[.int .u8 (x.toNat : Int)] w fun e w' => e = .returned (.bool true) ∧ w = w' := by
  have hd : ((x.toNat : Int) != 0) = true := by simpa using hx
  go_enter Try.func59, Try.ntmps59
  go_wp2
  go_ret
  exact ⟨by simp_all, rfl⟩
theorem pred_no (x : BitVec 8) (hx : (x.toNat : Int) = 0) (w : World) : Calls Try.prog 59 #[.int .u8 (x.toNat : Int)] w fun e w' => e = .returned (.bool false) ∧ w = w' := by
  have hd : ((x.toNat : Int) != 0) = false := by simpa using hx
  go_enter Try.func59, Try.ntmps59
  go_wp2
  go_ret
  exact ⟨by simp_all, rfl⟩

theorem index_any (A : Option Addr) (n c : Nat) (l : List (BitVec 8)) (w : World) (hn : n ≤ 1000000) (h : Has w A n l) :
    Calls Try.prog 65 #[.slice A n c, .func (.func 59) #[] #[]] w fun e w' => ∃ i, e = .returned (.int .i64 i) ∧ First l i ∧ w = w' := by
  have H := Lib.hid h
  clear h
  go_enter Try.func65, Try.ntmps65
  go_wp2
  go_loop [8] (fun i => ∃ k : Nat, k ≤ n ∧ i = .int .i64 k ∧ None0 (l.take k)) (fun i => n - (intOf i).toNat)
  case atStart => exact ⟨0, Nat.zero_le _, rfl, fun x hx => (by simp at hx)⟩
  case round =>
    obtain ⟨k, hk, rfl, hall⟩ := hrel
    have AL := Lib.hid hall
    have HL := Lib.hid H.out.1
    clear hall
    by_cases hlt : k < n
    · obtain ⟨b, off, rfl⟩ := H.out.some_ (by omega)
      have hkl : k < l.length := by rw [HL.out]; exact hlt
      have hc : w.cell? ⟨b, off + k, none⟩ = some (.int .u8 (l[k].toNat : Int)) := H.out.cell k hlt
      obtain ⟨x, hx⟩ : ∃ x, l[k] = x := ⟨_, rfl⟩
      rw [hx] at hc
      have HX := Lib.hid hx
      clear hx
      by_cases hs : (x.toNat : Int) = 0
      · have HS := Lib.hid hs
        clear hs
        go_wp2_with fail
        refine (pred_no x HS.out w).mono ?_
        rintro e w2 ⟨rfl, rfl⟩
        go_wp2
        go_round
        case rel =>
          refine ⟨k + 1, by omega, by go_num, fun y hy => ?_⟩
          rw [List.take_succ_eq_append_getElem hkl, HX.out] at hy
          rcases List.mem_append.1 hy with hy | hy
          · exact AL.out y hy
          · simp at hy
            subst hy
            apply BitVec.eq_of_toNat_eq
            have := HS.out
            show y.toNat = 0
            omega
        case measure => simp [intOf]; omega
      · have HS := Lib.hid hs
        clear hs
        go_wp2_with fail
        refine (pred_yes x HS.out w).mono ?_
        rintro e w2 ⟨rfl, rfl⟩
        go_wp2
        go_ret
        refine ⟨_, rfl, .inr ⟨by omega, by omega, fun ha => HS.out ?_⟩, rfl⟩
        have := ha x (HX.out ▸ List.getElem_mem hkl)
        subst this
        rfl
    · obtain rfl : k = n := by omega
      go_wp2
      go_ret
      exact ⟨_, rfl, .inl ⟨rfl, fun x hx => AL.out x (by rw [List.take_of_length_le (by rw [HL.out]; omega)]; exact hx)⟩, rfl⟩

theorem contains_yes (A : Option Addr) (n c : Nat) (l : List (BitVec 8)) (w : World) (hn : n ≤ 1000000) (h : Has w A n l) (hz : ¬ None0 l) :
    Calls Try.prog 58 #[.slice A n c, .func (.func 59) #[] #[]] w fun e w' => e = .returned (.bool true) ∧ w = w' := by
  have HZ := Lib.hid hz
  clear hz
  go_enter Try.func58, Try.ntmps58
  go_wp2_with fail
  refine (index_any A n c l w hn h).mono ?_
  rintro e w2 ⟨i, rfl, hi, rfl⟩
  have hi0 : 0 ≤ i := by
    rcases hi with ⟨_, h0⟩ | h0
    · exact (HZ.out h0).elim
    · exact h0.1
  have hd : decide (0 ≤ i) = true := decide_eq_true hi0
  clear h hi
  go_wp2
  go_ret
  exact ⟨by simp_all, rfl⟩
theorem contains_no (A : Option Addr) (n c : Nat) (l : List (BitVec 8)) (w : World) (hn : n ≤ 1000000) (h : Has w A n l) (hz : None0 l) :
    Calls Try.prog 58 #[.slice A n c, .func (.func 59) #[] #[]] w fun e w' => e = .returned (.bool false) ∧ w = w' := by
  have HZ := Lib.hid hz
  clear hz
  go_enter Try.func58, Try.ntmps58
  go_wp2_with fail
  refine (index_any A n c l w hn h).mono ?_
  rintro e w2 ⟨i, rfl, hi, rfl⟩
  obtain rfl : i = -1 := by
    rcases hi with h0 | h0
    · exact h0.1
    · exact (h0.2.2 HZ.out).elim
  clear h hi
  go_wp2
  go_ret
  exact ⟨rfl, rfl⟩
theorem zeros_yes (A : Option Addr) (n c : Nat) (l : List (BitVec 8)) (w : World) (hn : n ≤ 1000000) (h : Has w A n l) (hz : None0 l) :
    Calls Try.prog 36 #[.slice A n c] w fun e w' => e = .returned (.bool true) ∧ w = w' := by
  go_enter Try.func36, Try.ntmps36
  go_wp2_with fail
  refine (contains_no A n c l w hn h hz).mono ?_
  rintro e w2 ⟨rfl, rfl⟩
  clear h hz
  go_wp2
  go_ret
  exact ⟨rfl, rfl⟩
theorem zeros_no (A : Option Addr) (n c : Nat) (l : List (BitVec 8)) (w : World) (hn : n ≤ 1000000) (h : Has w A n l) (hz : ¬ None0 l) :
    Calls Try.prog 36 #[.slice A n c] w fun e w' => e = .returned (.bool false) ∧ w = w' := by
  go_enter Try.func36, Try.ntmps36
  go_wp2_with fail
  refine (contains_yes A n c l w hn h hz).mono ?_
  rintro e w2 ⟨rfl, rfl⟩
  clear h hz
  go_wp2
  go_ret
  exact ⟨rfl, rfl⟩
end Go.Proofs.Ytlmponcoghfghaa
