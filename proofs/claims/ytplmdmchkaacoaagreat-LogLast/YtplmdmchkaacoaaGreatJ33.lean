/-
  TEXTS JOINED: L9Foot, L9WalkA, L9SumB, L9SumC, L9SumD, L9Num, L9WalkB, L9WalkC.
-/
import Derived.Test.YtplmdmchkaacoaaGreatJ32
import Derived.Test.YtplmdmchkaacoaaGreatJ20
import Derived.Test.YtplmdmchkaacoaaGreatJ22
import Derived.Lib.Hide
import Derived.Lib.SliceRun
import Derived.BigQuiet
import Derived.Below
import Derived.Lib.QuietBelow
import Derived.Deep.QuietTactic
import Derived.Deep.AppendLies
import Derived.Maps.AppendAt
import Derived.Laws.AppendOwnNone
import Derived.Laws.CopyOwn
import Derived.Deep.RegionLaw
import Derived.IntWalk

/-
  WHAT A CALL MAY TURN: only the blocks that a set names, of those that were there; the writer and the reader as they lie in memory.
-/
namespace Go.Proofs.YtplmdmchkaacoaaGreat.L9
set_option maxRecDepth 100000
open Go.RowKit
set_option linter.unusedVariables false

section
variable {S T : Nat → Prop} {a b c w w' : World}

end

/-- The writer at block g: its value v owns the row of the bytes l. -/
structure Wr (w : World) (g : Nat) (v : Value) (l : List (BitVec 8)) : Prop where
  at_ : w.heap[g]? = some (.cells #[v] 202 (0, 0))
  own : w.ownsRow 0 5 1 v l.length (l.map val)
  off : v.ownBlock ≠ some g
def foot (g : Nat) (v : Value) : Nat → Prop := fun k => k = g ∨ v.ownBlock = some k
/-- From w on only the writer's own blocks have turned; it holds l now. -/
def Wrote (w : World) (g : Nat) (v : Value) (l : List (BitVec 8)) (w' : World) : Prop :=
  ∃ v', Wr w' g v' l ∧ But (foot g v) w w' ∧ ∀ k, v'.ownBlock = some k → v.ownBlock = some k ∨ w.heap.size ≤ k

theorem Wr.lt {w : World} {g : Nat} {v : Value} {l : List (BitVec 8)} (h : Wr w g v l) : g < w.heap.size := (Array.getElem?_eq_some_iff.1 h.at_).1
theorem Wr.wrote {w : World} {g : Nat} {v : Value} {l : List (BitVec 8)} (h : Wr w g v l) : Wrote w g v l w := ⟨v, h, But.refl _ _, fun _ h => .inl h⟩
theorem Wr.cell {w : World} {g : Nat} {v : Value} {l : List (BitVec 8)} (h : Wr w g v l) : w.cell? ⟨g, 0, none⟩ = some v := by
  rw [cell_of_row w g 0 _ _ _ h.at_]
  rfl
theorem Wr.frozen {w : World} {g : Nat} {v : Value} {l : List (BitVec 8)} (h : Wr w g v l) : w.frozen? ⟨g, 0, none⟩ = false := frozen_of_row w g 0 _ _ h.at_
theorem Wr.but {w w' : World} {g : Nat} {v : Value} {l : List (BitVec 8)} {S : Nat → Prop} (h : Wr w g v l) (hb : But S w w') (hg : ¬ S g) (hn : ∀ k, v.ownBlock = some k → ¬ S k) : Wr w' g v l :=
  ⟨(hb.block g h.lt hg).trans h.at_, own_but h.own hb hn, h.off⟩
theorem Wrote.step {w w1 w2 : World} {g : Nat} {v v1 : Value} {l' : List (BitVec 8)} (b1 : But (foot g v) w w1) (f1 : ∀ k, v1.ownBlock = some k → v.ownBlock = some k ∨ w.heap.size ≤ k) (k : Wrote w1 g v1 l' w2) : Wrote w g v l' w2 := by
  obtain ⟨v2, h2, b2, f2⟩ := k
  refine ⟨v2, h2, b1.trans b2 ?_, ?_⟩
  · rintro i (rfl | hi) hlt
    · exact .inl rfl
    · rcases f1 i hi with h | h
      · exact .inr h
      · omega
  · intro k hk
    rcases f2 k hk with h | h
    · exact f1 k h
    · exact .inr (Nat.le_trans b1.size h)

/-- What one append through the writer's field makes of it. -/
theorem Wr.push {w wa w2 : World} {g m : Nat} {v v2 : Value} {l k : List (BitVec 8)} (h : Wr w g v l) (ha : But (fun _ => False) w wa)
    (hown : w2.ownsRow 0 5 1 v2 m (l.map val ++ k.map val)) (hg : wa.grownBy w2 v.ownBlock) (hf : ∀ k, v2.ownBlock = some k → v.ownBlock = some k ∨ w.heap.size ≤ k) :
    Wrote w g v (l ++ k) (w2.setCell ⟨g, 0, none⟩ v2) := by
  have hlt := h.lt
  have hne : v2.ownBlock ≠ some g := by
    intro e
    rcases hf g e with h1 | h1
    · exact h.off h1
    · omega
  have hb2 : But (foot g v) w w2 := (ha.mono (fun _ h _ => h.elim)).grown hg (fun k hk _ => .inr hk)
  have hm : m = (l ++ k).length := by
    have := hown.1
    simp at this
    simp
    omega
  have hg2 : w2.heap[g]? = some (.cells #[v] 202 (0, 0)) := by
    have h1 := ha.block g hlt (fun h => h)
    rw [hg.block g (Nat.lt_of_lt_of_le hlt ha.size) (fun e => h.off e.symm), h1]
    exact h.at_
  refine ⟨v2, ⟨?_, ?_, hne⟩, hb2.setCell (fun _ => .inl rfl) _, hf⟩
  · rw [heap_setCell_same w2 g 0 _ _ _ hg2]
    rfl
  · subst hm
    rw [List.map_append]
    refine own_but hown (S := fun k => k = g) ((But.refl (fun k => k = g) w2).setCell (p := ⟨g, 0, none⟩) (fun _ => rfl) _) ?_
    intro k hk e
    exact hne (e ▸ hk)

end Go.Proofs.YtplmdmchkaacoaaGreat.L9

/-
  THE WALKS OF slices.Clone AND slices.Equal.
-/
namespace Go.Proofs.YtplmdmchkaacoaaGreat.L9
set_option maxRecDepth 100000
open Go.RowKit
set_option linter.unusedVariables false

set_option maxHeartbeats 400000 in
theorem equal_any (A B : Option Addr) (n m c d : Nat) (l k : List (BitVec 8)) (w : World) (hn : n ≤ 1000000) (hm : m ≤ 1000000) (h : Has w A n l) (g : Has w B m k) :
    Calls Tryz.prog 22 #[.slice A n c, .slice B m d] w (Quiet (.bool (decide (l = k))) w) := by
  by_cases hnm : n = m
  · subst hnm
    have H := Lib.hid h
    have G := Lib.hid g
    clear h g
    go_enter Tryz.func22, Tryz.ntmps22
    go_wp2
    go_loopw [13] (fun i wr => ∃ j q : Nat, j ≤ n ∧ i = .int .i64 j ∧ wr = w.drewN q ∧ l.take j = k.take j) (fun i _ => n - (RowKit.intOf i).toNat)
    case atStart => exact ⟨0, 0, Nat.zero_le _, rfl, rfl, rfl⟩
    case round =>
      obtain ⟨j, q, hj, rfl, rfl, hlk⟩ := hrel
      have HK := Lib.hid hlk
      clear hlk
      by_cases hlt : j < n
      · obtain ⟨b, off, rfl⟩ := H.out.some_ (by omega)
        obtain ⟨b2, off2, rfl⟩ := G.out.some_ (by omega)
        have hjl : j < l.length := by rw [H.out.1]; omega
        have hjk : j < k.length := by rw [G.out.1]; omega
        have hc : w.cell? ⟨b, off + j, none⟩ = some (.int .u8 (l[j].toNat : Int)) := H.out.cell j (by omega)
        have hc2 : w.cell? ⟨b2, off2 + j, none⟩ = some (.int .u8 (k[j].toNat : Int)) := G.out.cell j (by omega)
        go_wp2
        go_quiet (fail)
        go_wp2
        · have hne : ((l[j].toNat : Int) != (k[j].toNat : Int)) = true := by assumption
          go_ret
          exact ⟨ret_no (differ_at hjl hjk hne), _, World.drewN_drewN _ _ _⟩
        · have he : ((l[j].toNat : Int) != (k[j].toNat : Int)) = false := by assumption
          go_roundw
          case rel => exact ⟨j + 1, _, by omega, by go_num, rfl, alike_next hjl hjk he HK.out⟩
          case measure => simp [RowKit.intOf]; omega
      · have e : j = n := by omega
        subst e
        go_wp2
        go_ret
        exact ⟨ret_yes (alike_all H.out.1 G.out.1 HK.out), _, rfl⟩
  · have hd := differ_len h g hnm
    have HD := Lib.hid hd
    clear hd h g
    go_enter Tryz.func22, Tryz.ntmps22
    go_wp2
    go_ret
    exact ⟨ret_no HD.out, 0, rfl⟩
end Go.Proofs.YtplmdmchkaacoaaGreat.L9

/-
  THE WALKS OF slices.Clone, slices.Equal AND OF stored.
-/
namespace Go.Proofs.YtplmdmchkaacoaaGreat.L9
set_option maxRecDepth 100000
open Go.RowKit
set_option linter.unusedVariables false

/-- The number that the first j bytes hold, the lowest one first. -/
def Crc.held (l : List (BitVec 8)) : Nat → BitVec 32
  | 0 => 0#32
  | j + 1 => Crc.held l j ||| ((l.getD j 0#8).setWidth 32 <<< (8 * j))

theorem held_next (l : List (BitVec 8)) (j : Nat) (h : j < l.length) : Crc.held l (j + 1) = Crc.held l j ||| (l[j].setWidth 32 <<< (8 * j)) := by
  show Crc.held l j ||| _ = _
  rw [List.getD_eq_getElem?_getD, List.getElem?_eq_getElem h]
  rfl

theorem held_or (d : BitVec 32) (x : BitVec 8) (m : Nat) : bits BinOp.or IntKind.u32 (d.toNat : Int) ((x.toNat : Int) * (2 : Int) ^ m % (4294967296 : Int)) = ((d ||| (x.setWidth 32 <<< m)).toNat : Int) := by
  have e : (x.toNat : Int) * (2 : Int) ^ m % (4294967296 : Int) = ((x.setWidth 32 <<< m).toNat : Int) := by
    rw [BitVec.toNat_shiftLeft, Nat.shiftLeft_eq, BitVec.toNat_setWidth, Nat.mod_eq_of_lt (a := x.toNat) (by have := lt8 x; omega), Int.natCast_emod, Int.natCast_mul, Int.natCast_pow]
    rfl
  rw [e, or32]

end Go.Proofs.YtplmdmchkaacoaaGreat.L9

/-
  THE WALKS OF sum.Open AND sum.Seal.
-/
namespace Go.Proofs.YtplmdmchkaacoaaGreat.L9
set_option maxRecDepth 100000
open Go.RowKit
set_option linter.unusedVariables false

theorem quiet_left {P : Program} {f : FuncId} {args : Array Value} {w : World} {n : Nat} {v : Value}
    (h : Calls P f args (w.drewN n) fun e w' => e = .returned v ∧ w.drewN n = w') : Calls P f args (w.drewN n) fun e w'' => e = .returned v ∧ ∃ m, w'' = w.drewN m :=
  h.mono fun _ _ hh => ⟨hh.1, n, hh.2.symm⟩

def Opened (w : World) (n : Nat) (l : List (BitVec 8)) (e : Ending) (w' : World) : Prop := ∃ v, e = .returned (.tuple #[v, .int .i64 0]) ∧ Fresh w n l v w'

theorem below_drewN {B : Nat} {a w : World} (h : Below B a w) (n : Nat) : Below B a (w.drewN n) := ⟨h.os, h.tape, h.output, h.size, h.block⟩

end Go.Proofs.YtplmdmchkaacoaaGreat.L9

/-
  THE WALK OF sum.Seal.
-/
namespace Go.Proofs.YtplmdmchkaacoaaGreat.L9
set_option maxRecDepth 100000
open Go.RowKit
set_option linter.unusedVariables false

/-- The k-th byte of a sum, the lowest one first; the first k of them. -/
def Crc.byteAt (c : BitVec 32) (k : Nat) : BitVec 8 := (c >>> (8 * k)).setWidth 8
def Crc.low (c : BitVec 32) : Nat → List (BitVec 8)
  | 0 => []
  | k + 1 => Crc.low c k ++ [Crc.byteAt c k]
theorem slow_len (c : BitVec 32) (k : Nat) : (Crc.low c k).length = k := by
  induction k with
  | zero => rfl
  | succ k ih => simp [Crc.low, ih]

theorem ready {w w2 : World} {v : Value} {n : Nat} {l : List (BitVec 8)} {c : BitVec 32} (h : w2.ownsRow w.heap.size 5 1 v n (l.map val)) :
    w2.ownsRow w.heap.size 5 1 v (n + 0) ((l ++ Crc.low c 0).map val) := by
  simpa [Crc.low] using h

theorem byte_val (c : BitVec 32) (k : Nat) : (c.toNat : Int) / (2 : Int) ^ (8 * k) % (256 : Int) = ((Crc.byteAt c k).toNat : Int) := by
  unfold Crc.byteAt
  rw [BitVec.toNat_setWidth, BitVec.toNat_ushiftRight, Nat.shiftRight_eq_div_pow, Int.natCast_emod, Int.natCast_ediv, Int.natCast_pow]
  rfl

theorem sone_new {wr : World} (c : BitVec 32) (k : Nat) : ∀ j u, [val (Crc.byteAt c k)][j]? = some u → (wr.alloc (.cells #[.int .u8 ((c.toNat : Int) / (2 : Int) ^ (8 * k) % (256 : Int))] 5)).cell? ((⟨wr.heap.size, 0, none⟩ : Addr).add j) = some u := by
  intro j u hj
  match j, hj with
  | 0, hj =>
    simp at hj
    subst hj
    rw [byte_val]
    simp [Addr.add, val]

theorem seal_next {B n k : Nat} {w3 : World} {v1 : Value} {l : List (BitVec 8)} {c : BitVec 32} (h : w3.ownsRow B 5 1 v1 (n + k + 1) ((l ++ Crc.low c k).map val ++ [val (Crc.byteAt c k)])) :
    w3.ownsRow B 5 1 v1 (n + (k + 1)) ((l ++ Crc.low c (k + 1)).map val) := by
  have e : (l ++ Crc.low c (k + 1)).map val = (l ++ Crc.low c k).map val ++ [val (Crc.byteAt c k)] := by
    simp [Crc.low]
  rw [e]
  exact h

set_option maxHeartbeats 400000 in
theorem seal_some (x : Addr) (n cap : Nat) (l : List (BitVec 8)) (w : World) (hn : n ≤ 1000000) (h : Has w (some x) n l) :
    Calls Tryz.prog 151 #[.slice (some x) n cap] w (Cloned w (n + 4) (l ++ Crc.low (Crc.sum l) 4)) := by
  obtain ⟨i0, hi, hz0, hz1, hz2⟩ := info_parts byte_info
  obtain ⟨c, hc⟩ : ∃ c, Crc.sum l = c := ⟨_, rfl⟩
  rw [hc]
  have HC := Lib.hid hc
  have H := Lib.hid h
  clear h hc
  go_enter Tryz.func151, Tryz.ntmps151
  go_wp2_with (first
    | (at_make; refine wpList_make_own _ rfl (.const (.int .i64 0)) (.tmp 8) 57 rfl w.heap.size 5 i0 (.int .u8 0) 1 Tryz.underlying57 hi hz0 hz1 .i64 .i64 ((n : Int) + 4) (n + 4) rfl rfl (by omega) (by rw [hz2]; omega) (by unfold maxLen; omega) (Nat.le_refl _) ?_; intro w1 hown1 hg1; have hb1 : Below w.heap.size w w1 := (Below.refl _ _).grown hg1 (Nat.le_refl _) (by simp))
    | (at_builtin; refine wpList_append_fits _ rfl (.tmp 9) (.tmp 10) 57 rfl w.heap.size 5 i0 1 Tryz.underlying57 hi hz1 w.heap.size 0 (n + 4) [] rfl hown1 x n cap (l.map val) rfl (by simp [H.out.1]) (H.out.below hb1).cells (val_one l) (by omega) ?_; intro w2 hown2 hg2; have hb2 : Below w.heap.size w w2 := hb1.grown hg2 hb1.size (by intro k hk; injection hk with hk; omega)))
  refine (of_any _ _ _ l _ (by unfold maxLen; omega) (H.out.below hb2)).mono ?_
  rintro e w' ⟨rfl, rfl⟩
  rw [HC.out]
  simp only [Nat.zero_add, List.nil_append] at hown2
  have O := Lib.hid (ready (c := c) hown2)
  have B2 := Lib.hid hb2
  clear hown1 hg1 hb1 hown2 hg2 hb2
  have hcl := lt32 c
  go_wp2
  go_loopw [3, 14] (fun v i wr => ∃ k : Nat, k ≤ 4 ∧ i = .int .i64 k ∧ wr.ownsRow w.heap.size 5 1 v (n + k) ((l ++ Crc.low c k).map val) ∧ Below w.heap.size w wr) (fun _ i _ => 4 - (RowKit.intOf i).toNat)
  case atStart => exact ⟨0, Nat.zero_le _, rfl, O.out, B2.out⟩
  case round =>
    obtain ⟨k, hk, rfl, hown, hbel⟩ := hrel
    have HO := Lib.hid hown
    have HB := Lib.hid hbel
    have hsz := hbel.size
    clear hown hbel
    by_cases hlt : k < 4
    · go_wp2_with (at_builtin; refine wpList_append_own _ rfl (.tmp 17) (.tmp 23) 57 rfl w.heap.size 5 i0 (.int .u8 0) 1 1 Tryz.underlying57 hi hz0 hz1 hz2 rfl (by decide) u3 (n + k) _ rfl (HO.out.alloc _) ⟨wr.heap.size, 0, none⟩ 1 1 [val (Crc.byteAt c k)] rfl rfl (sone_new c k) (val_one [Crc.byteAt c k]) (by unfold maxLen; omega) (by omega) (by simp; omega) ?_; intro v1 w3 hown3 hg3 _)
      have R := Lib.hid (seal_next hown3)
      have RB := Lib.hid ((HB.out.alloc hsz _).grown hg3 (by simp; omega) (fun g hg => (HO.out.lt g hg).1))
      clear hown3 hg3
      go_roundw
      case rel => exact ⟨k + 1, by omega, by go_num, R.out, RB.out⟩
      case measure => simp [RowKit.intOf]; omega
    · have e : k = 4 := by omega
      subst e
      go_wp2
      go_ret
      exact ⟨_, rfl, HO.out, HB.out⟩

set_option maxHeartbeats 400000 in
theorem seal_nil (w : World) :
    Calls Tryz.prog 151 #[.slice none 0 0] w (Cloned w (0 + 4) ([] ++ Crc.low (Crc.sum []) 4)) := by
  obtain ⟨i0, hi, hz0, hz1, hz2⟩ := info_parts byte_info
  have h : Has w none 0 [] := Has.nil w none
  obtain ⟨c, hc⟩ : ∃ c, Crc.sum [] = c := ⟨_, rfl⟩
  rw [hc]
  have HC := Lib.hid hc
  have H := Lib.hid h
  clear h hc
  go_enter Tryz.func151, Tryz.ntmps151
  go_wp2_with (first
    | (at_make; refine wpList_make_own _ rfl (.const (.int .i64 0)) (.tmp 8) 57 rfl w.heap.size 5 i0 (.int .u8 0) 1 Tryz.underlying57 hi hz0 hz1 .i64 .i64 4 4 rfl rfl (by omega) (by rw [hz2]; omega) (by unfold maxLen; omega) (Nat.le_refl _) ?_; intro w1 hown1 hg1; have hb1 : Below w.heap.size w w1 := (Below.refl _ _).grown hg1 (Nat.le_refl _) (by simp))
    | (at_builtin; refine wpList_append_own_none rfl (.tmp 9) (.tmp 10) 57 rfl w.heap.size 5 i0 1 Tryz.underlying57 hi (.slice (some ⟨w.heap.size, 0, none⟩) 0 4) 0 [] rfl hown1 rfl ?_))
  refine (of_any _ _ _ [] _ (by unfold maxLen; omega) (H.out.below hb1)).mono ?_
  rintro e w' ⟨rfl, rfl⟩
  rw [HC.out]
  have O := Lib.hid (ready (l := []) (c := c) hown1)
  have B2 := Lib.hid hb1
  clear hown1 hg1 hb1
  have hcl := lt32 c
  go_wp2
  go_loopw [3, 14] (fun v i wr => ∃ k : Nat, k ≤ 4 ∧ i = .int .i64 k ∧ wr.ownsRow w.heap.size 5 1 v (0 + k) (([] ++ Crc.low c k).map val) ∧ Below w.heap.size w wr) (fun _ i _ => 4 - (RowKit.intOf i).toNat)
  case atStart => exact ⟨0, Nat.zero_le _, rfl, O.out, B2.out⟩
  case round =>
    obtain ⟨k, hk, rfl, hown, hbel⟩ := hrel
    have HO := Lib.hid hown
    have HB := Lib.hid hbel
    have hsz := hbel.size
    clear hown hbel
    by_cases hlt : k < 4
    · go_wp2_with (at_builtin; refine wpList_append_own _ rfl (.tmp 17) (.tmp 23) 57 rfl w.heap.size 5 i0 (.int .u8 0) 1 1 Tryz.underlying57 hi hz0 hz1 hz2 rfl (by decide) u3 (0 + k) _ rfl (HO.out.alloc _) ⟨wr.heap.size, 0, none⟩ 1 1 [val (Crc.byteAt c k)] rfl rfl (sone_new c k) (val_one [Crc.byteAt c k]) (by unfold maxLen; omega) (by omega) (by simp; omega) ?_; intro v1 w3 hown3 hg3 _)
      have R := Lib.hid (seal_next (l := []) hown3)
      have RB := Lib.hid ((HB.out.alloc hsz _).grown hg3 (by simp; omega) (fun g hg => (HO.out.lt g hg).1))
      clear hown3 hg3
      go_roundw
      case rel => exact ⟨k + 1, by omega, by go_num, R.out, RB.out⟩
      case measure => simp [RowKit.intOf]; omega
    · have e : k = 4 := by omega
      subst e
      go_wp2
      go_ret
      exact ⟨_, rfl, HO.out, HB.out⟩

theorem seal_any (A : Option Addr) (n cap : Nat) (l : List (BitVec 8)) (w : World) (hn : n ≤ 1000000) (h0 : A = none → n = 0 ∧ cap = 0) (h : Has w A n l) :
    Calls Tryz.prog 151 #[.slice A n cap] w (Cloned w (n + 4) (l ++ Crc.low (Crc.sum l) 4)) := by
  rcases A with _ | x
  · obtain ⟨rfl, rfl⟩ := h0 rfl
    obtain rfl := List.eq_nil_of_length_eq_zero h.1
    exact seal_nil w
  · exact seal_some x n cap l w hn h
end Go.Proofs.YtplmdmchkaacoaaGreat.L9

/-
  PLAIN MATHEMATICS: a number in bytes, the lowest one first, and the number of bytes.
-/
namespace Go.Proofs.YtplmdmchkaacoaaGreat.L9
set_option maxRecDepth 100000
set_option linter.unusedVariables false

/-- The k-th byte of a number; the first k of them. -/
def byteAt (N k : Nat) : BitVec 8 := BitVec.ofNat 8 (N / 2 ^ (8 * k))
def low (N : Nat) : Nat → List (BitVec 8)
  | 0 => []
  | k + 1 => low N k ++ [byteAt N k]
theorem low_len (N k : Nat) : (low N k).length = k := by
  induction k with
  | zero => rfl
  | succ k ih => simp [low, ih]
theorem byteAt_val (N k : Nat) : ((N : Int) / (2 : Int) ^ (8 * k) % (256 : Int)) = ((byteAt N k).toNat : Int) := by
  unfold byteAt
  rw [BitVec.toNat_ofNat, Int.natCast_emod, Int.natCast_ediv, Int.natCast_pow]
  rfl

/-- The number of bytes, the lowest one first. -/
def num : List (BitVec 8) → Nat
  | [] => 0
  | x :: l => x.toNat + 256 * num l
theorem num_lt (l : List (BitVec 8)) : num l < 256 ^ l.length := by
  induction l with
  | nil => simp [num]
  | cons x l ih =>
    have := x.isLt
    simp only [num, List.length_cons, Nat.pow_succ]
    omega
theorem num_append (l k : List (BitVec 8)) : num (l ++ k) = num l + 256 ^ l.length * num k := by
  induction l with
  | nil => simp [num]
  | cons x l ih =>
    simp only [List.cons_append, num, ih, List.length_cons, Nat.pow_succ]
    rw [Nat.mul_add, Nat.add_assoc, ← Nat.mul_assoc, Nat.mul_comm 256 (256 ^ l.length)]
theorem pow8 (k : Nat) : (2 : Nat) ^ (8 * k) = 256 ^ k := by rw [Nat.pow_mul]
theorem num_low (N k : Nat) : num (low N k) = N % 256 ^ k := by
  induction k with
  | zero => simp [low, num, Nat.mod_one]
  | succ k ih =>
    rw [low, num_append, ih, low_len]
    simp only [num, byteAt, BitVec.toNat_ofNat, Nat.mul_zero, Nat.add_zero, pow8]
    rw [show 256 ^ (k + 1) = 256 ^ k * 256 from Nat.pow_succ .., Nat.mod_mul]
theorem num_take_next (l : List (BitVec 8)) (j : Nat) (h : j < l.length) : num (l.take (j + 1)) = num (l.take j) + 256 ^ j * l[j].toNat := by
  rw [List.take_succ_eq_append_getElem h, num_append]
  simp [num, List.length_take, Nat.min_eq_left (Nat.le_of_lt h)]
theorem num_take_lt (l : List (BitVec 8)) (j : Nat) : num (l.take j) < 256 ^ j := by
  refine Nat.lt_of_lt_of_le (num_lt _) (Nat.pow_le_pow_right (by omega) ?_)
  exact List.length_take_le _ _
theorem low_inj {N M k : Nat} (h : low N k = low M k) : N % 256 ^ k = M % 256 ^ k := by
  rw [← num_low, ← num_low, h]
theorem byteAt_mod (N k j : Nat) (h : j < k) : byteAt (N % 256 ^ k) j = byteAt N j := by
  unfold byteAt
  apply BitVec.eq_of_toNat_eq
  rw [BitVec.toNat_ofNat, BitVec.toNat_ofNat, pow8]
  have e : 256 ^ k = 256 ^ j * (256 * 256 ^ (k - j - 1)) := by
    rw [Nat.mul_comm 256, ← Nat.pow_succ, ← Nat.pow_add]
    congr 1
    omega
  rw [e, Nat.mod_mul_right_div_self]
  show _ % (256 * _) % 256 = _ % 256
  rw [Nat.mod_mul_right_mod]
theorem low_mod_le (N k j : Nat) (h : j ≤ k) : low (N % 256 ^ k) j = low N j := by
  induction j with
  | zero => rfl
  | succ j ih => rw [low, low, ih (by omega), byteAt_mod N k j (by omega)]
theorem low_eq_iff (N M k : Nat) : low N k = low M k ↔ N % 256 ^ k = M % 256 ^ k :=
  ⟨low_inj, fun h => by rw [← low_mod_le N k k (Nat.le_refl _), ← low_mod_le M k k (Nat.le_refl _), h]⟩
end Go.Proofs.YtplmdmchkaacoaaGreat.L9

/-
  THE WALKS OF THE WRITER: Put, Raw, Bytes.
-/
namespace Go.Proofs.YtplmdmchkaacoaaGreat.L9
set_option maxRecDepth 100000
open Go.RowKit
set_option linter.unusedVariables false

def ptr (g : Nat) : Value := .pointer (some ⟨g, 0, none⟩)

set_option maxHeartbeats 400000 in
theorem put_none (g : Nat) (s N : Int) (w : World) (hs : s < 1 ∨ 8 < s) :
    Calls Tryz.prog 149 #[.pointer (some ⟨g, 0, none⟩), .int .i64 s, .int .u64 N] w fun e w' => e = .returned (.pointer (some ⟨g, 0, none⟩)) ∧ w = w' := by
  rcases hs with hs | hs
  · go_enter Tryz.func149, Tryz.ntmps149
    go_wp2
    go_ret
    exact ⟨rfl, rfl⟩
  · have h1 : ¬ s < 1 := by omega
    go_enter Tryz.func149, Tryz.ntmps149
    go_wp2
    go_ret
    exact ⟨rfl, rfl⟩

theorem one_new {wa : World} {B : Nat} {x : Int} {y : BitVec 8} (h : wa.heap[B]? = some (.cells #[.int .u8 x] 5 (0, 0))) (hx : x = (y.toNat : Int)) : ∀ j u, [val y][j]? = some u → wa.cell? ((⟨B, 0, none⟩ : Addr).add j) = some u := by
  intro j u hj
  match j, hj with
  | 0, hj =>
    simp at hj
    subst hj
    rw [show (⟨B, 0, none⟩ : Addr).add 0 = ⟨B, 0, none⟩ from rfl, cell_of_row wa B 0 _ _ _ h, hx]
    rfl

theorem Wr.after {w wa w2 : World} {g : Nat} {v : Value} {l : List (BitVec 8)} (h : Wr w g v l) (ha : But (fun _ => False) w wa) (hg : wa.grownBy w2 v.ownBlock) :
    w2.cell? ⟨g, 0, none⟩ = some v ∧ w2.frozen? ⟨g, 0, none⟩ = false := by
  have e : w2.heap[g]? = some (.cells #[v] 202 (0, 0)) := by
    rw [hg.block g (Nat.lt_of_lt_of_le h.lt ha.size) (fun e => h.off e.symm), ha.block g h.lt (fun h => h)]
    exact h.at_
  refine ⟨?_, frozen_of_row w2 g 0 _ _ e⟩
  rw [cell_of_row w2 g 0 _ _ _ e]
  rfl

def PutDone (w : World) (g : Nat) (v : Value) (l : List (BitVec 8)) (e : Ending) (w' : World) : Prop := e = .returned (.pointer (some ⟨g, 0, none⟩)) ∧ Wrote w g v l w'

set_option maxHeartbeats 800000 in
theorem put_some (g : Nat) (v : Value) (l : List (BitVec 8)) (s N : Nat) (w : World) (h1 : 1 ≤ s) (h8 : s ≤ 8) (hN : N < 18446744073709551616) (hl : l.length ≤ 1000000) (h : Wr w g v l) :
    Calls Tryz.prog 149 #[.pointer (some ⟨g, 0, none⟩), .int .i64 s, .int .u64 N] w (PutDone w g v (l ++ low N s)) := by
  obtain ⟨i0, hi, hz0, hz1, hz2⟩ := info_parts byte_info
  have H := Lib.hid h
  clear h
  go_enter Tryz.func149, Tryz.ntmps149
  go_wp2
  go_loopw [16] (fun i wr => ∃ k : Nat, k ≤ s ∧ i = .int .i64 k ∧ Wrote w g v (l ++ low N k) wr) (fun i _ => s - (RowKit.intOf i).toNat)
  case atStart => exact ⟨0, Nat.zero_le _, rfl, by simpa [low] using H.out.wrote⟩
  case round =>
    obtain ⟨k, hk, rfl, hW⟩ := hrel
    have HW := Lib.hid hW
    obtain ⟨v1, h1', b1', f1'⟩ := hW
    have B1 := Lib.hid b1'
    have F1 := Lib.hid f1'
    clear b1' f1'
    by_cases hlt : k < s
    · have hc := h1'.cell
      have hf := h1'.frozen
      have hca : ∀ o, (wr.alloc o).cell? ⟨g, 0, none⟩ = some v1 := fun o => (World.cell?_of_block (Below.heap_alloc wr o g h1'.lt)).trans h1'.cell
      have H1 := Lib.hid h1'
      clear h1'
      go_wp2
      have hw8 : IntKind.i64.wrap (8 * (k : Int)) = 8 * (k : Int) := IntWalk.i64_in _ (by omega)
      have h80 : (0 : Int) ≤ 8 * (k : Int) := by omega
      have h84 : 8 * (k : Int) ≤ 64 := by omega
      have h8n : (8 * (k : Int)).toNat = 8 * k := by omega
      go_region_law (refine step_append_lies _ rfl (.tmp 23) (.tmp 29) 57 rfl 0 5 i0 (.int .u8 0) 1 1 Tryz.underlying57 hi hz0 hz1 hz2 rfl (by decide) v1 (l ++ low N k).length _ (by simp [Act.eval]) (H1.out.own.alloc _) ⟨wr.heap.size, 0, none⟩ 1 1 [val (byteAt N k)] (by simp [Act.eval]) rfl (one_new (heap_alloc_new _ _) (byteAt_val N k)) (val_one [byteAt N k]) (by decide) (by simp [low_len]; unfold maxLen; omega) (by simp [low_len]; omega) (Nat.zero_le _) (wr.heap.size + 1) (by simp) ?_; intro g2 cap2 w2 hown2 hg2 hf2 hlt2; obtain ⟨hc2, hfr2⟩ := H1.out.after ((But.refl _ _).drew.alloc _) hg2)
      all_goals
        have R := Lib.hid (Wrote.step B1.out F1.out (H1.out.push (k := [byteAt N k]) ((But.refl _ _).alloc _).drew hown2 hg2 (fun j hj => by simp [Value.ownBlock] at hj; subst hj; exact hf2.imp id (fun e => by omega))))
        rw [List.append_assoc, show low N k ++ [byteAt N k] = low N (k + 1) from rfl] at R
        clear hown2 hg2 hf2 hc2 hfr2 hlt2 hca hc hf hw8 h8n h80 h84
        simp only [List.length_append] at R
        go_wp2
        go_roundw
        case rel => exact ⟨k + 1, by omega, by go_num, R.out⟩
        case measure => simp [RowKit.intOf]; omega
    · obtain rfl : k = s := by omega
      clear h1'
      go_wp2
      go_ret
      exact ⟨rfl, HW.out⟩

set_option maxHeartbeats 400000 in
theorem raw_any (g : Nat) (v : Value) (l : List (BitVec 8)) (A : Option Addr) (m c : Nat) (k : List (BitVec 8)) (w : World) (hl : l.length ≤ 1000000) (hm : m ≤ 1000000) (h : Wr w g v l) (hk : Has w A m k) (hnil : A = none → c = 0) :
    Calls Tryz.prog 150 #[.pointer (some ⟨g, 0, none⟩), .slice A m c] w (PutDone w g v (l ++ k)) := by
  have hc := h.cell
  have hf := h.frozen
  have H := Lib.hid h
  have K := Lib.hid hk
  have N := Lib.hid hnil
  clear h hk hnil
  go_enter Tryz.func150, Tryz.ntmps150
  go_wp2_with (at_builtin; refine wpList_append_has rfl (.tmp 9) (.tmp 10) rfl 0 v l.length l rfl H.out.own A m c k rfl K.out N.out (by omega) (Nat.zero_le _) ?_; intro A2 cap2 w2 hown2 hg2 hf2; obtain ⟨hc2, hfr2⟩ := H.out.after (But.refl _ _) hg2; have R := Lib.hid (H.out.push (But.refl _ _) hown2 hg2 hf2); clear hown2 hg2 hf2)
  go_ret
  exact ⟨rfl, R.out⟩

set_option maxHeartbeats 400000 in
theorem bytes_any (g : Nat) (v : Value) (l : List (BitVec 8)) (least X : Int) (M : Nat) (w : World) (hl : l.length ≤ 1000000) (hX : X = min least 1048576) (hM : (M : Int) = max (l.length : Int) X) (h : Wr w g v l) :
    Calls Tryz.prog 152 #[.pointer (some ⟨g, 0, none⟩), .int .i64 least] w (Cloned w M (pad l M)) := by
  obtain ⟨i0, hi, hz0, hz1, hz2⟩ := info_parts byte_info
  obtain ⟨A, c, rfl, hc1, hc2, hh, _⟩ := Has.of_own h.own
  have hlM : l.length ≤ M := by omega
  have hMM : M ≤ 1048576 := by omega
  have hmin := fun (w : World) => run_min2 (P := Tryz.prog) w #[3, 3] 3 least 1048576 X hX
  have hmax := fun (w : World) => run_max2 (P := Tryz.prog) w #[3, 3] 3 l.length X M hM
  have hc := h.cell
  have HH := Lib.hid hh
  have H := Lib.hid h
  have M1 := Lib.hid hMM
  clear h hM hX hh hc1 hc2 hMM
  go_enter Tryz.func152, Tryz.ntmps152
  go_wp2_with (first
    | (at_make; refine wpList_make_full _ rfl (.tmp 13) (.tmp 13) 57 rfl w.heap.size 5 i0 (.int .u8 0) 1 Tryz.underlying57 hi hz0 hz1 .i64 .i64 M M M rfl rfl rfl rfl (by rw [hz2]; have := M1.out; omega) (by have := M1.out; unfold maxLen; omega) (Nat.le_refl _) ?_; intro w1 hown1 hg1; have hb1 : Below w.heap.size w w1 := (Below.refl _ _).grown hg1 (Nat.le_refl _) (by simp); have hcw : w1.cell? ⟨g, 0, none⟩ = some (.slice A l.length c) := (hb1.cell (p := ⟨g, 0, none⟩) H.out.lt).trans H.out.cell; have RW := Lib.hid (made_row hown1); have B1 := Lib.hid hb1; clear hown1 hg1 hb1))
  obtain ⟨w2, hrun, hr2, hb2⟩ := copy_run (c := c) RW.out (HH.out.below B1.out) hlM B1.out (Nat.le_refl _)
  rw [hrun]
  have R := Lib.hid (own_of_row hr2 (pad_len l M hlM) (by have := M1.out; unfold maxLen; omega) (Nat.le_refl _))
  have B2 := Lib.hid hb2
  clear hrun hr2 hb2 hcw hc
  go_wp2
  go_ret
  exact ⟨_, rfl, R.out, B2.out⟩

end Go.Proofs.YtplmdmchkaacoaaGreat.L9

/-
  THE WALKS OF THE READER: Read, next, Raw, Take, Good, Rest.
-/
namespace Go.Proofs.YtplmdmchkaacoaaGreat.L9
set_option maxRecDepth 100000
open Go.RowKit
set_option linter.unusedVariables false

theorem own_slice {w : World} {base n : Nat} {v : Value} {l : List (BitVec 8)} (h : w.ownsRow base 5 1 v n (l.map val)) :
    ∃ A c, v = .slice A n c ∧ n ≤ c ∧ c ≤ maxLen ∧ (A = none → c = 0) ∧ Has w A n l ∧ ∀ x, A = some x → base ≤ x.block ∧ x.block < w.heap.size ∧ ∃ b o, x = ⟨b, o, none⟩ := by
  have hl : l.length = n := by have := h.1; simpa using this
  obtain ⟨A, c, rfl, h1, h2, h3, h4⟩ := Has.of_own h
  refine ⟨A, c, rfl, h1, h2, ?_, h3, ?_⟩
  · rintro rfl
    rcases h.2 with ⟨e, _⟩ | ⟨g, cap, cur, e, _⟩
    · injection e
    · injection e with e; cases e
  · rintro x rfl
    obtain ⟨g, rfl, hg⟩ := h4 _ rfl
    exact ⟨hg, (h.lt g rfl).2, g, 0, rfl⟩

end Go.Proofs.YtplmdmchkaacoaaGreat.L9
