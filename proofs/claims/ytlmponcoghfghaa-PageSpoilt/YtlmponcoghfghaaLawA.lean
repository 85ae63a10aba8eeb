/-
  THE WALKS OF THE LAW'S OWN SMALL FUNCTIONS: put, sealed.
-/
import Derived.Test.YtlmponcoghfghaaNums
import Derived.Test.YtlmponcoghfghaaPart
namespace Go.Proofs.Ytlmponcoghfghaa
open Go.RowKit
set_option linter.unusedVariables false
set_option maxRecDepth 100000

theorem own_below {w w' : World} {base n : Nat} {e : TypeId} {size : Nat} {v : Value} {xs : List Value} (h : w.ownsRow base e size v n xs) (hb : Below w.heap.size w w') : w'.ownsRow base e size v n xs :=
  own_but h (S := fun _ => False) (But.of_below hb) (fun _ _ h => h)
theorem put_next {B k : Nat} {w3 : World} {v1 : Value} {N : Nat} (h : w3.ownsRow B 5 1 v1 (k + 1) ((low N k).map val ++ [val (byteAt N k)])) : w3.ownsRow B 5 1 v1 (k + 1) ((low N (k + 1)).map val) := by
  rw [low, List.map_append]
  exact h

set_option maxHeartbeats 400000 in
theorem put_any (s N : Nat) (w : World) (hs : s ≤ 8) (hN : N < 18446744073709551616) :
    Calls Try.prog 32 #[.int .i64 s, .int .u64 N] w (Cloned w s (low N s)) := by
  obtain ⟨i0, hi, hz0, hz1, hz2⟩ := info_parts byte_info
  go_enter Try.func32, Try.ntmps32
  go_wp2
  go_loopw [1, 5, 7] (fun q v i wr => ∃ k Q : Nat, k ≤ s ∧ i = .int .i64 k ∧ Q = N / 256 ^ k ∧ q = .int .u64 Q ∧ wr.ownsRow w.heap.size 5 1 v k ((low N k).map val) ∧ Below w.heap.size w wr) (fun _ _ i _ => s - (intOf i).toNat)
  case atStart => exact ⟨0, N, Nat.zero_le _, rfl, by simp, rfl, World.ownsRow_nil _ _ _ _, Below.refl _ _⟩
  case round =>
    obtain ⟨k, Q, hk, rfl, hQ, rfl, hown, hbel⟩ := hrel
    have hQl : Q < 18446744073709551616 := by rw [hQ]; exact Nat.lt_of_le_of_lt (Nat.div_le_self _ _) hN
    have HQ := Lib.hid hQ
    have HO := Lib.hid hown
    have HB := Lib.hid hbel
    have hsz := hbel.size
    clear hown hbel hQ
    by_cases hlt : k < s
    · have hy : (Q : Int) % (256 : Int) = ((byteAt N k).toNat : Int) := by
        rw [HQ.out]
        unfold byteAt
        rw [BitVec.toNat_ofNat, pow8]
        omega
      have HY := Lib.hid hy
      clear hy
      go_wp2_with (at_builtin; refine wpList_append_own _ rfl (.tmp 9) (.tmp 13) 42 rfl w.heap.size 5 i0 (.int .u8 0) 1 1 Try.underlying42 hi hz0 hz1 hz2 rfl (by decide) u5 k _ rfl (HO.out.alloc _) ⟨wr.heap.size, 0, none⟩ 1 1 [val (byteAt N k)] rfl rfl (one_new (heap_alloc_new _ _) HY.out) (val_one [byteAt N k]) (by unfold maxLen; omega) (by omega) (by simp; omega) ?_; intro v1 w3 hown3 hg3 _)
      have R := Lib.hid (put_next hown3)
      have RB := Lib.hid ((HB.out.alloc hsz _).grown hg3 (by simp; omega) (fun g hg => (HO.out.lt g hg).1))
      clear hown3 hg3
      go_roundw
      case rel => exact ⟨k + 1, Q / 256, by omega, by go_num, by rw [HQ.out, Nat.div_div_eq_div_mul, Nat.pow_succ], by go_num, R.out, RB.out⟩
      case measure => simp [intOf]; omega
    · obtain rfl : k = s := by omega
      go_wp2
      go_ret
      exact ⟨_, rfl, HO.out, HB.out⟩

/-- Bytes, cloned, with more bytes behind them. -/
theorem fresh_more {w w1 w2 w3 : World} {v1 v3 : Value} {n m : Nat} {l k : List (BitVec 8)} (h1 : Fresh w n l v1 w1) (h2 : Below w1.heap.size w1 w2) (hown : w3.ownsRow w.heap.size 5 1 v3 (n + m) (l.map val ++ k.map val)) (hg : w2.grownBy w3 v1.ownBlock) :
    Fresh w (n + m) (l ++ k) v3 w3 := by
  refine ⟨by rw [List.map_append]; exact hown, (h1.2.trans (h2.mono h1.2.size)).grown hg (Nat.le_trans h1.2.size h2.size) (fun g hg => (h1.1.lt g hg).1)⟩

set_option maxHeartbeats 400000 in
theorem sealed_any (A : Option Addr) (n cap : Nat) (l : List (BitVec 8)) (w : World) (hn : n ≤ 1000000) (h : Has w A n l) :
    Calls Try.prog 15 #[.slice A n cap] w (Cloned w (n + 4) (sealL l)) := by
  have H := Lib.hid h
  clear h
  go_enter Try.func15, Try.ntmps15
  go_wp2_with fail
  refine (clone_any A n cap l w hn H.out).mono ?_
  rintro e w1 ⟨v1, rfl, hf⟩
  have H1 := Lib.hid (H.out.below hf.2)
  have F := Lib.hid hf
  clear hf
  go_wp2_with fail
  refine (ref_any A n cap l w1 hn H1.out).mono ?_
  rintro e w' ⟨rfl, rfl⟩
  have hc := lt32 (Crc.sum l)
  go_wp2_with fail
  refine (put_any 4 (Crc.sum l).toNat w1 (by omega) (by omega)).mono ?_
  rintro e w2 ⟨v2, rfl, hf2⟩
  obtain ⟨A2, c2, rfl, _, _, hnil2, hh2, _⟩ := own_slice hf2.1
  have HH2 := Lib.hid hh2
  have N2 := Lib.hid hnil2
  have F2 := Lib.hid hf2.2
  have O1 := Lib.hid (own_below F.out.1 hf2.2)
  clear hf2 hh2 hnil2
  go_wp2_with (at_builtin; refine wpList_append_has rfl (.tmp 4) (.tmp 8) rfl w.heap.size v1 n l rfl O1.out A2 4 c2 _ rfl HH2.out N2.out (by omega) (by have := F.out.2.size; have := F2.out.size; omega) ?_; intro A3 cap3 w3 hown3 hg3 hf3; have R := Lib.hid (fresh_more F.out F2.out hown3 hg3); clear hown3 hg3 hf3)
  go_ret
  refine ⟨_, rfl, ?_⟩
  have := R.out
  rw [← crc_low] at this
  exact this

end Go.Proofs.Ytlmponcoghfghaa
