/-
  THE WALKS OF slices.Clone, bytes.Clone AND slices.Equal OF BYTES.
-/
import Derived.Test.YtclbiidgggdniaaFoot
namespace Go.Proofs.Ytclbiidgggdniaa
open Go.RowKit
set_option linter.unusedVariables false

set_option maxHeartbeats 400000 in
theorem bclone_any (A : Option Addr) (n cap : Nat) (l : List (BitVec 8)) (w : World) (hn : n ≤ 1000000) (h : Has w A n l) :
    Calls Try.prog 21 #[.slice A n cap] w (Cloned w n l) := by
  have hnil := fun (w : World) (a : Option Addr) (n c : Nat) => Lib.run_eql_slice_nil (P := Try.prog) w 33 5 a n c 0 0 Try.underlying33
  obtain ⟨i0, hi, hz0, hz1, hz2⟩ := info_parts byte_info
  rcases A with _ | x
  · have h0 : n = 0 := by
      rcases Nat.eq_zero_or_pos n with h0 | h0
      · exact h0
      · obtain ⟨b, off, e⟩ := h.some_ h0
        cases e
    subst h0
    have hl : l = [] := List.eq_nil_of_length_eq_zero h.1
    subst hl
    clear h
    go_enter Try.func21, Try.ntmps21
    go_wp2
    go_ret
    exact ⟨_, rfl, World.ownsRow_nil _ _ _ _, Below.refl _ _⟩
  · have H := Lib.hid h
    clear h
    go_enter Try.func21, Try.ntmps21
    go_wp2_with (at_builtin; refine wpList_append_own _ rfl (.tmp 5) (.tmp 6) 33 rfl w.heap.size 5 i0 (.int .u8 0) 1 1 Try.underlying33 hi hz0 hz1 hz2 rfl (by decide) (.slice (some ⟨w.heap.size, 0, none⟩) 0 0) 0 [] rfl (World.ownsRow_made w #[] 0 (Nat.le_refl _) (by unfold maxLen; omega) rfl) x n cap (l.map val) rfl (by simp [H.out.1]) (H.out.below ((Below.refl _ _).alloc (Nat.le_refl _) _)).cells (val_one l) (by unfold maxLen; omega) (by omega) (by simp) ?_; intro v' w1 hown hg hx)
    go_ret
    refine ⟨_, rfl, by simpa using hown, ((Below.refl w.heap.size w).alloc (Nat.le_refl _) _).grown hg (by simp) (fun k hk => ?_)⟩
    simp [Value.ownBlock] at hk
    omega

theorem ret_no {p : Prop} [Decidable p] (h : ¬ p) : Ending.returned (.bool false) = .returned (.bool (decide p)) := by rw [decide_eq_false h]
theorem ret_yes {p : Prop} [Decidable p] (h : p) : Ending.returned (.bool true) = .returned (.bool (decide p)) := by rw [decide_eq_true h]
theorem differ_at {l k : List (BitVec 8)} {j : Nat} (hl : j < l.length) (hk : j < k.length) (h : ((l[j].toNat : Int) != (k[j].toNat : Int)) = true) : ¬ l = k := by
  rintro rfl
  simp at h
theorem alike_next {l k : List (BitVec 8)} {j : Nat} (hl : j < l.length) (hk : j < k.length) (h : ((l[j].toNat : Int) != (k[j].toNat : Int)) = false) (e : l.take j = k.take j) : l.take (j + 1) = k.take (j + 1) := by
  have h1 : l[j] = k[j] := by
    apply BitVec.eq_of_toNat_eq
    have : (l[j].toNat : Int) = (k[j].toNat : Int) := by simpa using h
    omega
  rw [List.take_succ_eq_append_getElem hl, List.take_succ_eq_append_getElem hk, e, h1]
theorem alike_all {l k : List (BitVec 8)} {j : Nat} (hl : l.length = j) (hk : k.length = j) (e : l.take j = k.take j) : l = k := by
  rwa [List.take_of_length_le (by omega), List.take_of_length_le (by omega)] at e
theorem differ_len {w : World} {A B : Option Addr} {n m : Nat} {l k : List (BitVec 8)} (h : Has w A n l) (g : Has w B m k) (hne : ¬ n = m) : ¬ l = k := by
  rintro rfl
  exact hne (h.1.symm.trans g.1)

set_option maxHeartbeats 400000 in
theorem equal_any (A B : Option Addr) (n m c d : Nat) (l k : List (BitVec 8)) (w : World) (hn : n ≤ 1000000) (hm : m ≤ 1000000) (h : Has w A n l) (g : Has w B m k) :
    Calls Try.prog 17 #[.slice A n c, .slice B m d] w (Quiet (.bool (decide (l = k))) w) := by
  by_cases hnm : n = m
  · subst hnm
    have H := Lib.hid h
    have G := Lib.hid g
    clear h g
    go_enter Try.func17, Try.ntmps17
    go_wp2
    go_loopw [13] (fun i wr => ∃ j q : Nat, j ≤ n ∧ i = .int .i64 j ∧ wr = w.drewN q ∧ l.take j = k.take j) (fun i _ => n - (intOf i).toNat)
    case atStart => exact ⟨0, 0, Nat.zero_le _, rfl, rfl, rfl⟩
    case round =>
      obtain ⟨j, q, hj, rfl, rfl, hlk⟩ := hrel
      have HK := Lib.hid hlk
      clear hlk
      by_cases hlt : j < n
      · obtain ⟨b, off, rfl⟩ := H.out.some_ (by omega)
        obtain ⟨b2, off2, rfl⟩ := G.out.some_ (by omega)
        have hjl : j < l.length := by rw [H.out.1]; omega
        have hjk : j < k.length := by rw [G.out.1]; omega
        have hc : w.cell? ⟨b, off + j, none⟩ = some (.int .u8 (l[j].toNat : Int)) := H.out.cell j (by omega)
        have hc2 : w.cell? ⟨b2, off2 + j, none⟩ = some (.int .u8 (k[j].toNat : Int)) := G.out.cell j (by omega)
        go_wp2
        go_quiet (fail)
        go_wp2
        · have hne : ((l[j].toNat : Int) != (k[j].toNat : Int)) = true := by assumption
          go_ret
          exact ⟨ret_no (differ_at hjl hjk hne), _, World.drewN_drewN _ _ _⟩
        · have he : ((l[j].toNat : Int) != (k[j].toNat : Int)) = false := by assumption
          go_roundw
          case rel => exact ⟨j + 1, _, by omega, by go_num, rfl, alike_next hjl hjk he HK.out⟩
          case measure => simp [intOf]; omega
      · have e : j = n := by omega
        subst e
        go_wp2
        go_ret
        exact ⟨ret_yes (alike_all H.out.1 G.out.1 HK.out), _, rfl⟩
  · have hd := differ_len h g hnm
    have HD := Lib.hid hd
    clear hd h g
    go_enter Try.func17, Try.ntmps17
    go_wp2
    go_ret
    exact ⟨ret_no HD.out, 0, rfl⟩
end Go.Proofs.Ytclbiidgggdniaa
