/-
  THE WALKS OF THE WRITER: Put, Raw, Bytes.
-/
import Derived.Test.YtlmponcoghfghaaWalkA
import Derived.Test.YtlmponcoghfghaaNum
import Derived.Deep.RegionLaw
import Derived.IntWalk
namespace Go.Proofs.Ytlmponcoghfghaa
open Go.RowKit
set_option linter.unusedVariables false
set_option maxRecDepth 100000

def ptr (g : Nat) : Value := .pointer (some ⟨g, 0, none⟩)

set_option maxHeartbeats 400000 in
theorem put_none (g : Nat) (s N : Int) (w : World) (hs : s < 1 ∨ 8 < s) :
    Calls Try.prog 27 #[.pointer (some ⟨g, 0, none⟩), .int .i64 s, .int .u64 N] w fun e w' => e = .returned (.pointer (some ⟨g, 0, none⟩)) ∧ w = w' := by
  rcases hs with hs | hs
  · go_enter Try.func27, Try.ntmps27
    go_wp2
    go_ret
    exact ⟨rfl, rfl⟩
  · have h1 : ¬ s < 1 := by omega
    go_enter Try.func27, Try.ntmps27
    go_wp2
    go_ret
    exact ⟨rfl, rfl⟩

theorem one_new {wa : World} {B : Nat} {x : Int} {y : BitVec 8} (h : wa.heap[B]? = some (.cells #[.int .u8 x] 5 (0, 0))) (hx : x = (y.toNat : Int)) : ∀ j u, [val y][j]? = some u → wa.cell? ((⟨B, 0, none⟩ : Addr).add j) = some u := by
  intro j u hj
  match j, hj with
  | 0, hj =>
    simp at hj
    subst hj
    rw [show (⟨B, 0, none⟩ : Addr).add 0 = ⟨B, 0, none⟩ from rfl, cell_of_row wa B 0 _ _ _ h, hx]
    rfl

theorem Wr.after {w wa w2 : World} {g : Nat} {v : Value} {l : List (BitVec 8)} (h : Wr w g v l) (ha : But (fun _ => False) w wa) (hg : wa.grownBy w2 v.ownBlock) :
    w2.cell? ⟨g, 0, none⟩ = some v ∧ w2.frozen? ⟨g, 0, none⟩ = false := by
  have e : w2.heap[g]? = some (.cells #[v] 66 (0, 0)) := by
    rw [hg.block g (Nat.lt_of_lt_of_le h.lt ha.size) (fun e => h.off e.symm), ha.block g h.lt (fun h => h)]
    exact h.at_
  refine ⟨?_, frozen_of_row w2 g 0 _ _ e⟩
  rw [cell_of_row w2 g 0 _ _ _ e]
  rfl

def PutDone (w : World) (g : Nat) (v : Value) (l : List (BitVec 8)) (e : Ending) (w' : World) : Prop := e = .returned (.pointer (some ⟨g, 0, none⟩)) ∧ Wrote w g v l w'

set_option maxHeartbeats 800000 in
theorem put_some (g : Nat) (v : Value) (l : List (BitVec 8)) (s N : Nat) (w : World) (h1 : 1 ≤ s) (h8 : s ≤ 8) (hN : N < 18446744073709551616) (hl : l.length ≤ 1000000) (h : Wr w g v l) :
    Calls Try.prog 27 #[.pointer (some ⟨g, 0, none⟩), .int .i64 s, .int .u64 N] w (PutDone w g v (l ++ low N s)) := by
  obtain ⟨i0, hi, hz0, hz1, hz2⟩ := info_parts byte_info
  have H := Lib.hid h
  clear h
  go_enter Try.func27, Try.ntmps27
  go_wp2
  go_loopw [16] (fun i wr => ∃ k : Nat, k ≤ s ∧ i = .int .i64 k ∧ Wrote w g v (l ++ low N k) wr) (fun i _ => s - (intOf i).toNat)
  case atStart => exact ⟨0, Nat.zero_le _, rfl, by simpa [low] using H.out.wrote⟩
  case round =>
    obtain ⟨k, hk, rfl, hW⟩ := hrel
    have HW := Lib.hid hW
    obtain ⟨v1, h1', b1', f1'⟩ := hW
    have B1 := Lib.hid b1'
    have F1 := Lib.hid f1'
    clear b1' f1'
    by_cases hlt : k < s
    · have hc := h1'.cell
      have hf := h1'.frozen
      have hca : ∀ o, (wr.alloc o).cell? ⟨g, 0, none⟩ = some v1 := fun o => (World.cell?_of_block (Below.heap_alloc wr o g h1'.lt)).trans h1'.cell
      have H1 := Lib.hid h1'
      clear h1'
      go_wp2
      have hw8 : IntKind.i64.wrap (8 * (k : Int)) = 8 * (k : Int) := IntWalk.i64_in _ (by omega)
      have h80 : (0 : Int) ≤ 8 * (k : Int) := by omega
      have h84 : 8 * (k : Int) ≤ 64 := by omega
      have h8n : (8 * (k : Int)).toNat = 8 * k := by omega
      go_region_law (refine step_append_lies _ rfl (.tmp 23) (.tmp 29) 42 rfl 0 5 i0 (.int .u8 0) 1 1 Try.underlying42 hi hz0 hz1 hz2 rfl (by decide) v1 (l ++ low N k).length _ (by simp [Act.eval]) (H1.out.own.alloc _) ⟨wr.heap.size, 0, none⟩ 1 1 [val (byteAt N k)] (by simp [Act.eval]) rfl (one_new (heap_alloc_new _ _) (byteAt_val N k)) (val_one [byteAt N k]) (by decide) (by simp [low_len]; unfold maxLen; omega) (by simp [low_len]; omega) (Nat.zero_le _) (wr.heap.size + 1) (by simp) ?_; intro g2 cap2 w2 hown2 hg2 hf2 hlt2; obtain ⟨hc2, hfr2⟩ := H1.out.after ((But.refl _ _).drew.alloc _) hg2)
      all_goals
        have R := Lib.hid (Wrote.step B1.out F1.out (H1.out.push (k := [byteAt N k]) ((But.refl _ _).alloc _).drew hown2 hg2 (fun j hj => by simp [Value.ownBlock] at hj; subst hj; exact hf2.imp id (fun e => by omega))))
        rw [List.append_assoc, show low N k ++ [byteAt N k] = low N (k + 1) from rfl] at R
        clear hown2 hg2 hf2 hc2 hfr2 hlt2 hca hc hf hw8 h8n h80 h84
        simp only [List.length_append] at R
        go_wp2
        go_roundw
        case rel => exact ⟨k + 1, by omega, by go_num, R.out⟩
        case measure => simp [intOf]; omega
    · obtain rfl : k = s := by omega
      clear h1'
      go_wp2
      go_ret
      exact ⟨rfl, HW.out⟩

set_option maxHeartbeats 400000 in
theorem raw_any (g : Nat) (v : Value) (l : List (BitVec 8)) (A : Option Addr) (m c : Nat) (k : List (BitVec 8)) (w : World) (hl : l.length ≤ 1000000) (hm : m ≤ 1000000) (h : Wr w g v l) (hk : Has w A m k) (hnil : A = none → c = 0) :
    Calls Try.prog 28 #[.pointer (some ⟨g, 0, none⟩), .slice A m c] w (PutDone w g v (l ++ k)) := by
  have hc := h.cell
  have hf := h.frozen
  have H := Lib.hid h
  have K := Lib.hid hk
  have N := Lib.hid hnil
  clear h hk hnil
  go_enter Try.func28, Try.ntmps28
  go_wp2_with (at_builtin; refine wpList_append_has rfl (.tmp 9) (.tmp 10) rfl 0 v l.length l rfl H.out.own A m c k rfl K.out N.out (by omega) (Nat.zero_le _) ?_; intro A2 cap2 w2 hown2 hg2 hf2; obtain ⟨hc2, hfr2⟩ := H.out.after (But.refl _ _) hg2; have R := Lib.hid (H.out.push (But.refl _ _) hown2 hg2 hf2); clear hown2 hg2 hf2)
  go_ret
  exact ⟨rfl, R.out⟩

theorem run_min2 {P : Program} (w : World) (ts : Array TypeId) (t : TypeId) (x y X : Int) (h : X = min x y) : (Builtin.min_ ts t #[.int .i64 x, .int .i64 y]).run P w = .ok (.int .i64 X) w := by
  have e : X = if y < x then y else x := by split <;> omega
  rw [e]
  simp [Builtin.min_, Builtin.min2]
theorem run_max2 {P : Program} (w : World) (ts : Array TypeId) (t : TypeId) (x y X : Int) (h : X = max x y) : (Builtin.max_ ts t #[.int .i64 x, .int .i64 y]).run P w = .ok (.int .i64 X) w := by
  have e : X = if x < y then y else x := by split <;> omega
  rw [e]
  simp [Builtin.max_, Builtin.max2]

def pad (l : List (BitVec 8)) (M : Nat) : List (BitVec 8) := l ++ List.replicate (M - l.length) 0#8
theorem pad_len (l : List (BitVec 8)) (M : Nat) (h : l.length ≤ M) : (pad l M).length = M := by simp [pad]; omega

theorem byte_size : (Try.prog.info? 5).map (·.size) = some 1 := by kernel_rfl
theorem made_row {w w1 : World} {M : Nat} (h : w1.ownsRow w.heap.size 5 1 (.slice (some ⟨w.heap.size, 0, none⟩) M M) M (madeCells (Value.int .u8 0).cells (M * 1)).toList) :
    w1.heap[w.heap.size]? = some (.cells (List.replicate M (Value.int .u8 0)).toArray 5 (0, 0)) := by
  rcases h.2 with ⟨e, _⟩ | ⟨g, cap, cur, e, _, hh, _, _, hs, ht⟩
  · cases e
  · injection e with e1 _ e2
    injection e1 with e1
    injection e1 with e1
    subst e1 e2
    rw [hh]
    congr 2
    apply Array.ext'
    rw [List.take_of_length_le (by simp [hs])] at ht
    rw [ht, show (Value.int .u8 0).cells = #[.int .u8 0] from rfl, toList_madeCells_one]
    simp
theorem spliced (l : List (BitVec 8)) (M : Nat) (h : l.length ≤ M) : splice (List.replicate M (Value.int .u8 0)) 0 (l.map val) = (pad l M).map val := by
  simp [splice, pad, val]

theorem copy_run {w w1 : World} {B g M n c : Nat} {A : Option Addr} {l : List (BitVec 8)} (hg : w1.heap[g]? = some (.cells (List.replicate M (Value.int .u8 0)).toArray 5 (0, 0))) (hh : Has w1 A n l) (hn : n ≤ M)
    (hb : Below B w w1) (hB : B ≤ g) : ∃ w2, (Builtin.copy_ #[42, 42] 3 #[.slice (some ⟨g, 0, none⟩) M M, .slice A n c]).run Try.prog w1 = .ok (goInt n) w2 ∧
      w2.heap[g]? = some (.cells ((pad l M).map val).toArray 5 (0, 0)) ∧ Below B w w2 := by
  have hl := hh.1
  by_cases h0 : n = 0
  · subst h0
    obtain rfl : l = [] := List.eq_nil_of_length_eq_zero hl
    refine ⟨w1, run_copy_none (P := Try.prog) w1 42 42 3 5 _ _ _ _ _ _ Try.underlying42 byte_size (by simp), ?_, hb⟩
    rw [← spliced [] M (by simp)]
    simpa [splice] using hg
  · obtain ⟨b, off, rfl⟩ := hh.some_ (by omega)
    have hrun := run_copy_row (P := Try.prog) w1 42 42 3 5 g 0 M M ⟨b, off, none⟩ n c _ 5 (l.map val) Try.underlying42 byte_size hg (by rw [List.length_map, hl]; exact (Nat.min_eq_left hn).symm) hh.cells (by simp [hl]; omega) (val_one l)
    rw [show (List.map val l).length = n by simp [hl]] at hrun
    refine ⟨_, hrun, ?_, below_setRow hb hB _⟩
    rw [← spliced l M (by omega)]
    simpa [splice, hl] using setRow_heap w1 g _ _ 5 _ hg

theorem own_of_row {w1 : World} {B g M : Nat} {l : List (BitVec 8)} (h : w1.heap[g]? = some (.cells (l.map val).toArray 5 (0, 0))) (hl : l.length = M) (hM : M ≤ maxLen) (hB : B ≤ g) :
    w1.ownsRow B 5 1 (.slice (some ⟨g, 0, none⟩) M M) M (l.map val) :=
  ⟨by simp [hl], .inr ⟨g, M, _, rfl, hB, h, Nat.le_refl _, hM, by simp [hl], List.take_of_length_le (by simp [hl])⟩⟩

set_option maxHeartbeats 400000 in
theorem bytes_any (g : Nat) (v : Value) (l : List (BitVec 8)) (least X : Int) (M : Nat) (w : World) (hl : l.length ≤ 1000000) (hX : X = min least 1048576) (hM : (M : Int) = max (l.length : Int) X) (h : Wr w g v l) :
    Calls Try.prog 31 #[.pointer (some ⟨g, 0, none⟩), .int .i64 least] w (Cloned w M (pad l M)) := by
  obtain ⟨i0, hi, hz0, hz1, hz2⟩ := info_parts byte_info
  obtain ⟨A, c, rfl, hc1, hc2, hh, _⟩ := Has.of_own h.own
  have hlM : l.length ≤ M := by omega
  have hMM : M ≤ 1048576 := by omega
  have hmin := fun (w : World) => run_min2 (P := Try.prog) w #[3, 3] 3 least 1048576 X hX
  have hmax := fun (w : World) => run_max2 (P := Try.prog) w #[3, 3] 3 l.length X M hM
  have hc := h.cell
  have HH := Lib.hid hh
  have H := Lib.hid h
  have M1 := Lib.hid hMM
  clear h hM hX hh hc1 hc2 hMM
  go_enter Try.func31, Try.ntmps31
  go_wp2_with (first
    | (at_make; refine wpList_make_full _ rfl (.tmp 13) (.tmp 13) 42 rfl w.heap.size 5 i0 (.int .u8 0) 1 Try.underlying42 hi hz0 hz1 .i64 .i64 M M M rfl rfl rfl rfl (by rw [hz2]; have := M1.out; omega) (by have := M1.out; unfold maxLen; omega) (Nat.le_refl _) ?_; intro w1 hown1 hg1; have hb1 : Below w.heap.size w w1 := (Below.refl _ _).grown hg1 (Nat.le_refl _) (by simp); have hcw : w1.cell? ⟨g, 0, none⟩ = some (.slice A l.length c) := (hb1.cell (p := ⟨g, 0, none⟩) H.out.lt).trans H.out.cell; have RW := Lib.hid (made_row hown1); have B1 := Lib.hid hb1; clear hown1 hg1 hb1))
  obtain ⟨w2, hrun, hr2, hb2⟩ := copy_run (c := c) RW.out (HH.out.below B1.out) hlM B1.out (Nat.le_refl _)
  rw [hrun]
  have R := Lib.hid (own_of_row hr2 (pad_len l M hlM) (by have := M1.out; unfold maxLen; omega) (Nat.le_refl _))
  have B2 := Lib.hid hb2
  clear hrun hr2 hb2 hcw hc
  go_wp2
  go_ret
  exact ⟨_, rfl, R.out, B2.out⟩

end Go.Proofs.Ytlmponcoghfghaa
