/-
  THE WALK OF PackApart.
-/
import Derived.Test.YtgekfhffppfnlaaAwake
namespace Go.Proofs.Ytgekfhffppfnlaa
open Go.RowKit
set_option linter.unusedVariables false

theorem wr_new_at {w : World} {g : Nat} (hg : w.heap.size = g) : Wr (w.alloc (.cells #[.slice none 0 0] 26)) g (.slice none 0 0) [] := by
  subst hg
  exact wr_new w
theorem Wrote.below {w w' : World} {g B : Nat} {l : List (BitVec 8)} (h : Wrote w g (.slice none 0 0) l w') (hg : B ≤ g) (hB : B ≤ w.heap.size) : Below B w w' := by
  obtain ⟨v, _, hb, _⟩ := h
  exact hb.below (fun k h => by have := foot_nil (w := w) h; omega) hB
theorem max_len (l : List (BitVec 8)) : ((l.length : Nat) : Int) = max (l.length : Int) 0 := by omega
theorem pad_self (l : List (BitVec 8)) : pad l l.length = l := by simp [pad]

/-- Two numbers, put one behind the other into a new writer. -/
def two (a b : Nat) : List (BitVec 8) := low a 2 ++ low b 4
theorem two_len (a b : Nat) : (two a b).length = 6 := by simp [two, low_len]

theorem two_iff (a b c d : Nat) : pad (two a b) 6 = pad (two c d) 6 ↔ (a % 65536 = c % 65536 ∧ b % 4294967296 = d % 4294967296) := by
  rw [← two_len a b, pad_self, two_len, ← two_len c d, pad_self]
  unfold two
  constructor
  · intro h
    obtain ⟨h1, h2⟩ := List.append_inj h (by simp [low_len])
    exact ⟨(low_eq_iff a c 2).1 h1, (low_eq_iff b d 4).1 h2⟩
  · rintro ⟨h1, h2⟩
    rw [(low_eq_iff a c 2).2 h1, (low_eq_iff b d 4).2 h2]
theorem w16 (a : Nat) : IntKind.u16.wrap (a : Int) = ((a % 65536 : Nat) : Int) := by simp [IntKind.wrap, IntKind.signed, IntKind.bits]
theorem w32 (a : Nat) : IntKind.u32.wrap (a : Int) = ((a % 4294967296 : Nat) : Int) := by simp [IntKind.wrap, IntKind.signed, IntKind.bits]

theorem ret_true {q : Bool} (h : q = true) : Ending.returned (.bool q) = .returned (.bool true) := by rw [h]
theorem apart_yes {a b c d : Nat} {q : Bool} (h : IntKind.u16.wrap (a : Int) = IntKind.u16.wrap (c : Int)) (he : pad (two a b) 6 = pad (two c d) 6 ↔ (a % 65536 = c % 65536 ∧ b % 4294967296 = d % 4294967296))
    (hq : decide (pad (two a b) 6 = pad (two c d) 6) = q) : (q == (IntKind.u32.wrap (b : Int) == IntKind.u32.wrap (d : Int))) = true := by
  rw [w16, w16] at h
  have h' : a % 65536 = c % 65536 := by omega
  subst hq
  rw [w32, w32, decide_eq_decide.2 he]
  by_cases h2 : b % 4294967296 = d % 4294967296
  · simp [h', h2]
  · have h3 : ¬ ((b % 4294967296 : Nat) : Int) = ((d % 4294967296 : Nat) : Int) := by omega
    rw [decide_eq_false (by rintro ⟨_, e⟩; exact h2 e), beq_eq_false_iff_ne.2 h3]
    rfl
theorem apart_no {a b c d : Nat} {q : Bool} (h : ¬ IntKind.u16.wrap (a : Int) = IntKind.u16.wrap (c : Int)) (he : pad (two a b) 6 = pad (two c d) 6 ↔ (a % 65536 = c % 65536 ∧ b % 4294967296 = d % 4294967296))
    (hq : decide (pad (two a b) 6 = pad (two c d) 6) = q) : (!q) = true := by
  rw [w16, w16] at h
  subst hq
  rw [decide_eq_decide.2 he, decide_eq_false (by rintro ⟨e, _⟩; omega)]
  rfl

set_option maxHeartbeats 1000000 in
set_option maxRecDepth 100000 in
theorem apart_walk (a b c d : Nat) (ha : a < 18446744073709551616) (hb : b < 18446744073709551616) (hc : c < 18446744073709551616) (hd : d < 18446744073709551616) (w : World) :
    Calls Try.prog 6 #[.int .u64 a, .int .u64 b, .int .u64 c, .int .u64 d] w fun e w' => e = .returned (.bool true) ∧ Below w.heap.size w w' := by
  have HA := Lib.hid ha
  have HB := Lib.hid hb
  have HC := Lib.hid hc
  have HD := Lib.hid hd
  clear ha hb hc hd
  go_enter Try.func6, Try.ntmps6
  go_wp2_with fail
  refine (awake_any _).mono ?_
  rintro e w1 ⟨rfl, hb1⟩
  have B1 := Lib.hid hb1
  have hs1 := hb1.size
  clear hb1
  go_wp2_with fail
  have W1 := (wr_new w1).alloc (.cells #[.slice none 0 0] 26)
  have W2 := wr_new_at (w := w1.alloc (.cells #[.slice none 0 0] 26)) (g := w1.heap.size + 1) (by simp)
  have B2 := (B1.out.alloc hs1 (.cells #[.slice none 0 0] 26)).alloc (by simp; omega) (.cells #[.slice none 0 0] 26)
  have hs2 : w1.heap.size + 2 ≤ ((w1.alloc (.cells #[.slice none 0 0] 26)).alloc (.cells #[.slice none 0 0] 26)).heap.size := by simp
  generalize ((w1.alloc (.cells #[.slice none 0 0] 26)).alloc (.cells #[.slice none 0 0] 26)) = w2 at *
  have HW1 := Lib.hid W1
  have HW2 := Lib.hid W2
  have HB2 := Lib.hid B2
  clear W1 W2 B2 B1
  generalize w1.heap.size = g at *
  refine (put_some g (.slice none 0 0) [] 2 a w2 (by omega) (by omega) HA.out (by simp) HW1.out).mono ?_
  rintro e w3 ⟨rfl, v3, hw3, hb3, hf3⟩
  rw [List.nil_append] at hw3
  have HW3 := Lib.hid hw3
  have HB3 := Lib.hid hb3
  have HF3 := Lib.hid hf3
  clear hw3 hb3 hf3
  go_wp2_with fail
  refine (put_some g v3 (low a 2) 4 b w3 (by omega) (by omega) HB.out (by simp [low_len]) HW3.out).mono ?_
  rintro e w4 ⟨rfl, hW4⟩
  have HW4 := Lib.hid (Wrote.step HB3.out HF3.out hW4)
  clear hW4 HB3 HF3 HW3
  obtain ⟨v4, hw4, hb4, hf4⟩ := HW4.out
  have HV4 := Lib.hid hw4
  have HB4 := Lib.hid hb4
  clear hw4 hb4 hf4
  go_wp2_with fail
  refine (bytes_any g v4 (two a b) 0 0 6 w4 (by simp [two_len]) (by omega) (by simp [two_len]; decide) HV4.out).mono ?_
  rintro e w5 ⟨v5, rfl, hown5, hb5⟩
  obtain ⟨A5, c5, rfl, _, _, _, hh5, hx5⟩ := own_slice hown5
  have HX := Lib.hid hh5
  have HXb := Lib.hid (fun (x : Addr) (e : A5 = some x) => (hx5 x e).1)
  have HV5 := Lib.hid ((HW2.out.but HB4.out (fun h => by have := foot_nil (w := w) h; omega) (fun k h => by simp [Value.ownBlock] at h)).below hb5)
  have HB5 := Lib.hid ((HB2.out.trans (HW4.out.below (by omega) HB2.out.size)).trans (hb5.mono (by have := HB2.out.size; have := HB4.out.size; omega)))
  have hs4 := HB4.out.size
  clear hown5 hb5 hh5 hx5 HV4 HB4 HW4 HW2 HW1
  go_wp2_with fail
  refine (put_some (g + 1) (.slice none 0 0) [] 2 c w5 (by omega) (by omega) HC.out (by simp) HV5.out).mono ?_
  rintro e w6 ⟨rfl, v6, hw6, hb6, hf6⟩
  rw [List.nil_append] at hw6
  have HW6 := Lib.hid hw6
  have HB6 := Lib.hid hb6
  have HF6 := Lib.hid hf6
  clear hw6 hb6 hf6
  go_wp2_with fail
  refine (put_some (g + 1) v6 (low c 2) 4 d w6 (by omega) (by omega) HD.out (by simp [low_len]) HW6.out).mono ?_
  rintro e w7 ⟨rfl, hW7⟩
  have HW7 := Lib.hid (Wrote.step HB6.out HF6.out hW7)
  clear hW7 HB6 HF6 HW6
  obtain ⟨v7, hw7, hb7, hf7⟩ := HW7.out
  have HV7 := Lib.hid hw7
  have HB7 := Lib.hid hb7
  clear hw7 hb7 hf7
  go_wp2_with fail
  refine (bytes_any (g + 1) v7 (two c d) 0 0 6 w7 (by simp [two_len]) (by omega) (by simp [two_len]; decide) HV7.out).mono ?_
  rintro e w8 ⟨v8, rfl, hown8, hb8⟩
  obtain ⟨A8, c8, rfl, _, _, _, hh8, hx8⟩ := own_slice hown8
  have HY := Lib.hid hh8
  have HX8 := Lib.hid ((HX.out.but HB7.out (fun x e h => by have := foot_nil (w := w) h; have := HXb.out x e; omega)).below hb8)
  have HB8 := Lib.hid ((HB5.out.trans (HW7.out.below (by omega) HB5.out.size)).trans (hb8.mono (by have := HB5.out.size; have := HB7.out.size; omega)))
  clear hown8 hb8 hh8 hx8 HV7 HB7 HW7 HV5 HX HXb HB5 HB2
  go_wp2_with fail
  refine (equal_any _ _ _ _ _ _ _ _ _ (by omega) (by omega) HX8.out HY.out).mono ?_
  rintro e w9 ⟨rfl, m9, rfl⟩
  have HE := Lib.hid (two_iff a b c d)
  have HB9 := Lib.hid (below_drewN HB8.out m9)
  clear HX8 HY HB8
  generalize hq : decide (pad (two a b) 6 = pad (two c d) 6) = q
  have HQ := Lib.hid hq
  clear hq
  go_wp2
  · have h : IntKind.u16.wrap (a : Int) = IntKind.u16.wrap (c : Int) := by assumption
    go_ret
    exact ⟨ret_true (apart_yes h HE.out HQ.out), HB9.out⟩
  · have h : ¬ IntKind.u16.wrap (a : Int) = IntKind.u16.wrap (c : Int) := by assumption
    go_ret
    exact ⟨ret_true (apart_no h HE.out HQ.out), HB9.out⟩

theorem u64_nat {a : Int} (h : (Lit.int .u64 a).wf = true) : ∃ n : Nat, a = (n : Int) ∧ n < 18446744073709551616 := by
  have hb : 0 ≤ a ∧ a ≤ 18446744073709551615 := by simpa [Lit.wf, IntKind.min, IntKind.max, IntKind.signed, IntKind.bits] using h
  exact ⟨a.toNat, by omega, by omega⟩
theorem apart_all (a b c d : Int) (ha : (Lit.int .u64 a).wf = true) (hb : (Lit.int .u64 b).wf = true) (hc : (Lit.int .u64 c).wf = true) (hd : (Lit.int .u64 d).wf = true) (w : World) :
    Calls Try.prog 6 #[.int .u64 a, .int .u64 b, .int .u64 c, .int .u64 d] w fun e w' => e = .returned (.bool true) ∧ Below w.heap.size w w' := by
  obtain ⟨a, rfl, ha'⟩ := u64_nat ha
  obtain ⟨b, rfl, hb'⟩ := u64_nat hb
  obtain ⟨c, rfl, hc'⟩ := u64_nat hc
  obtain ⟨d, rfl, hd'⟩ := u64_nat hd
  exact apart_walk a b c d ha' hb' hc' hd' w

end Go.Proofs.Ytgekfhffppfnlaa
