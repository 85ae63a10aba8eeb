/-
  THE WALK OF PackPuts.
-/
import Derived.Test.YtgekfhffppfnlaaItems
import Derived.Deep.LoopGhost
namespace Go.Proofs.Ytgekfhffppfnlaa
open Go.RowKit
set_option linter.unusedVariables false

/-- The writer and the law's own row, apart from each other, both above B. -/
structure Two (w : World) (B g : Nat) (v u : Value) (lw lu : List (BitVec 8)) : Prop where
  wr : Wr w g v lw
  own : w.ownsRow 0 5 1 u lu.length (lu.map val)
  apart : ∀ k, u.ownBlock = some k → k ≠ g ∧ v.ownBlock ≠ some k
  hg : B ≤ g
  lowv : ∀ k, v.ownBlock = some k → B ≤ k
  lowu : ∀ k, u.ownBlock = some k → B ≤ k

theorem Two.below {w w' : World} {B g : Nat} {v u : Value} {lw lu : List (BitVec 8)} (h : Two w B g v u lw lu) (hb : Below w.heap.size w w') : Two w' B g v u lw lu :=
  ⟨h.wr.below hb, own_but h.own (S := fun _ => False) (But.of_below hb) (fun _ _ h => h), h.apart, h.hg, h.lowv, h.lowu⟩
theorem Two.alloc {w : World} {B g : Nat} {v u : Value} {lw lu : List (BitVec 8)} (h : Two w B g v u lw lu) (o : Obj) : Two (w.alloc o) B g v u lw lu := h.below ((Below.refl _ _).alloc (Nat.le_refl _) o)
/-- The writer has written. -/
theorem Two.wrote {w w' : World} {B g : Nat} {v u : Value} {lw lu l2 : List (BitVec 8)} (h : Two w B g v u lw lu) (hB : B ≤ w.heap.size) (hw : Wrote w g v l2 w') : (∃ v', Two w' B g v' u l2 lu) ∧ Below B w w' := by
  obtain ⟨v', h1, hb, hf⟩ := hw
  refine ⟨⟨v', h1, own_but h.own hb (fun k hk hS => ?_), fun k hk => ⟨(h.apart k hk).1, fun e => ?_⟩, h.hg, fun k hk => ?_, h.lowu⟩, hb.below (fun k hk => ?_) hB⟩
  · rcases hS with e | e
    · exact (h.apart k hk).1 e
    · exact (h.apart k hk).2 e
  · rcases hf k e with e' | e'
    · exact (h.apart k hk).2 e'
    · have := (h.own.lt k hk).2
      omega
  · rcases hf k hk with e' | e'
    · exact h.lowv k e'
    · omega
  · rcases hk with e | e
    · rw [e]; exact h.hg
    · exact h.lowv k e
/-- The law's own row has grown. -/
theorem Two.grew {w w' : World} {B g n : Nat} {v u u' : Value} {lw lu k : List (BitVec 8)} (h : Two w B g v u lw lu) (hB : B ≤ w.heap.size) (hown : w'.ownsRow 0 5 1 u' n (lu.map val ++ k.map val)) (hg : w.grownBy w' u.ownBlock)
    (hf : ∀ j, u'.ownBlock = some j → u.ownBlock = some j ∨ w.heap.size ≤ j) : Two w' B g v u' lw (lu ++ k) ∧ Below B w w' := by
  have hb : But (fun j => u.ownBlock = some j) w w' := (But.refl _ _).grown hg (fun j hj _ => hj)
  have hn : n = (lu ++ k).length := by
    have := hown.1
    simp at this
    simp
    omega
  refine ⟨⟨h.wr.but hb (fun e => (h.apart g e).1 rfl) (fun j hj e => (h.apart j e).2 hj), ?_, fun j hj => ?_, h.hg, h.lowv, fun j hj => ?_⟩, hb.below (fun j hj => h.lowu j hj) hB⟩
  · rw [List.map_append, ← hn]
    exact hown
  · rcases hf j hj with e | e
    · exact h.apart j e
    · refine ⟨fun e' => ?_, fun e' => ?_⟩
      · have := h.wr.lt
        omega
      · have := (h.wr.own.lt j e').2
        omega
  · rcases hf j hj with e | e
    · exact h.lowu j e
    · omega

theorem one_has {w : World} {y : Int} {z : BitVec 8} (hy : y = (z.toNat : Int)) : Has (w.alloc (.cells #[.int .u8 y] 5)) (some ⟨w.heap.size, 0, none⟩) 1 [z] := by
  subst hy
  refine Has.of_block (heap_alloc_new _ _) rfl (fun k hk => ?_)
  match k, hk with
  | 0, _ => rfl
theorem byte_of {M N j : Nat} (h : M = N / 256 ^ j) : ((M : Int) % (256 : Int)) = ((byteAt N j).toNat : Int) := by
  rw [← byteAt_val, h, Int.natCast_ediv, Int.natCast_pow, ← Int.natCast_pow, ← pow8]
  simp
theorem next_of {M N j : Nat} (h : M = N / 256 ^ j) : M / 256 = N / 256 ^ (j + 1) := by
  rw [h, Nat.div_div_eq_div_mul, Nat.pow_succ]

theorem item_copy (w : World) (s : Int) (n : Nat) (v : Value) (q : Bool) (W : World := w.alloc (.cells #[.int .i8 s, .int .u64 (n : Int), v, .bool q] 30)) (hW : W = w.alloc (.cells #[.int .i8 s, .int .u64 (n : Int), v, .bool q] 30) := by rfl) :
    w.heap.size < W.heap.size ∧ W.cell? ⟨w.heap.size, 0, none⟩ = some (.int .i8 s) ∧ W.cell? ⟨w.heap.size, 1, none⟩ = some (.int .u64 (n : Int)) ∧ W.cell? ⟨w.heap.size, 2, none⟩ = some v := by
  subst hW
  refine ⟨by simp, ?_, ?_, ?_⟩
  all_goals
    rw [cell_of_row _ _ _ _ _ _ (heap_alloc_new _ _)]
    rfl

set_option maxHeartbeats 1000000 in
set_option maxRecDepth 100000 in
theorem puts_walk (A : Option Addr) (len cap : Nat) (L : List It) (least : Int) (w : World) (h : Items w A len cap L) (hle : -9223372036854775808 ≤ least) :
    Calls Try.prog 3 #[.slice A len cap, .int .i64 least] w fun e w' => e = .returned (.bool true) ∧ Below w.heap.size w w' := by
  have H := Lib.hid h
  have hcap := h.2.1
  have hmax := h.2.2.1
  unfold maxLen at hmax
  clear h
  by_cases h40 : len ≤ 40
  · by_cases h2000 : least ≤ 2000
    · go_enter Try.func3, Try.ntmps3
      go_wp2_with fail
      refine (awake_any _).mono ?_
      rintro e w1 ⟨rfl, hb1⟩
      have B1 := Lib.hid hb1
      have hs1 := hb1.size
      clear hb1
      go_wp2
      have T2 := Lib.hid (show Two (w1.alloc (.cells #[.slice none 0 0] 26)) w.heap.size w1.heap.size (.slice none 0 0) (.slice none 0 0) [] [] from
        ⟨wr_new w1, World.ownsRow_nil _ _ _ _, fun k e => (by simp [Value.ownBlock] at e), hs1, fun k e => (by simp [Value.ownBlock] at e), fun k e => (by simp [Value.ownBlock] at e)⟩)
      have B2 := Lib.hid (B1.out.alloc hs1 (.cells #[.slice none 0 0] 26))
      generalize w1.heap.size = g at *
      generalize w1.alloc (.cells #[.slice none 0 0] 26) = w2 at *
      clear B1
      go_loopg [6, 21] len (fun gk s6 s21 wr => ∃ (k : Nat) (v : Value) (c : Nat) (A6 : Option Addr) (l : List (BitVec 8)), k ≤ len ∧ gk = len - k ∧ s21 = .int .i64 k ∧ s6 = .slice A6 l.length c ∧ l.length ≤ 40 * k ∧
        Two wr w.heap.size g v (.slice A6 l.length c) l l ∧ Below w.heap.size w wr)
      case atStart => exact ⟨0, _, 0, none, [], Nat.zero_le _, rfl, rfl, rfl, Nat.zero_le _, T2.out, B2.out⟩
      case round =>
        obtain ⟨k, v, c, A6, l, hk, hgk, rfl, rfl, hn40, hT, hB⟩ := hrel
        have HG := Lib.hid hgk
        have HT := Lib.hid hT
        have HB := Lib.hid hB
        clear hgk hT hB
        by_cases hlt : k < len
        · obtain ⟨b, o, rfl, hI⟩ := H.out.2.2.2.2 (by omega)
          have hkL : k < L.length := by rw [H.out.1]; omega
          have X := hI k hkL
          have hc0 := (HB.out.cell (p := ⟨b, o + k * 4, none⟩) X.lt).trans X.c0
          have hc1 := (HB.out.cell (p := ⟨b, o + k * 4 + 1, none⟩) X.lt).trans X.c1
          have hc2 := (HB.out.cell (p := ⟨b, o + k * 4 + 2, none⟩) X.lt).trans X.c2
          have hc3 := (HB.out.cell (p := ⟨b, o + k * 4 + 3, none⟩) X.lt).trans X.c3
          have hlo := X.lo
          have hhi := X.hi
          have hbig := X.big
          have hmc := X.cap.1
          have hcm := X.cap.2
          unfold maxLen at hcm
          have HX := Lib.hid X.has
          have HXn := Lib.hid X.nil
          clear hI X
          generalize L[k] = x at *
          obtain ⟨qi, hqi⟩ : ∃ q, x.is = q := ⟨_, rfl⟩
          rw [hqi] at hc3
          clear hqi
          have HTa := Lib.hid (HT.out.alloc (.cells #[.int .i8 x.size, .int .u64 (x.n : Int), .slice x.A x.m x.c, .bool qi] 30))
          have HBa := Lib.hid (HB.out.alloc HB.out.size (.cells #[.int .i8 x.size, .int .u64 (x.n : Int), .slice x.A x.m x.c, .bool qi] 30))
          have CI := Lib.hid (item_copy wr x.size x.n (.slice x.A x.m x.c) qi)
          have hgi : g < wr.heap.size := HT.out.wr.lt
          have hvi : v.ownBlock ≠ some wr.heap.size := fun e => by have := (HT.out.wr.own.lt _ e).2; omega
          have hui : (Value.slice A6 l.length c).ownBlock ≠ some wr.heap.size := fun e => by have := (HT.out.own.lt _ e).2; omega
          have HI := Lib.hid (show g ≠ wr.heap.size ∧ v.ownBlock ≠ some wr.heap.size ∧ (Value.slice A6 l.length c).ownBlock ≠ some wr.heap.size from ⟨by omega, hvi, hui⟩)
          clear hvi hui
          by_cases hm40 : x.m ≤ 40
          · cases qi
            · by_cases hs : x.size < 1 ∨ 8 < x.size
              · go_wp2_with fail
                generalize wr.alloc (.cells #[.int .i8 x.size, .int .u64 (x.n : Int), .slice x.A x.m x.c, .bool false] 30) = wa at *
                refine (put_none g x.size x.n wa hs).mono ?_
                rintro e w3 ⟨rfl, rfl⟩
                have hd0 := CI.out.2.1
                clear CI hc0 hc1 hc2 hc3
                rcases hs with hs | hs
                all_goals
                  first
                  | have hs1 : 1 ≤ x.size := by omega
                  | skip
                  go_wp2_with fail
                  go_roundg (len - (k + 1))
                  case measure => rw [HG.out]; omega
                  case rel => exact ⟨k + 1, v, c, A6, l, by omega, rfl, by go_num, rfl, by omega, HTa.out, HBa.out⟩
              · have hs1 : 1 ≤ x.size := by omega
                have hs8 : x.size ≤ 8 := by omega
                clear hs
                obtain ⟨s, hs⟩ := Int.eq_ofNat_of_zero_le (show 0 ≤ x.size by omega)
                rw [hs] at hc0 HTa HBa CI hs1 hs8
                clear hlo hhi
                have hs1' : 1 ≤ s := by omega
                have hs8' : s ≤ 8 := by omega
                have HSs := Lib.hid hs
                clear hs
                go_wp2_with fail
                generalize wr.alloc (.cells #[.int .i8 (s : Int), .int .u64 (x.n : Int), .slice x.A x.m x.c, .bool false] 30) = wa at *
                refine (put_some g v l s x.n wa hs1' hs8' hbig (by omega) HTa.out.wr).mono ?_
                rintro e w3 ⟨rfl, hW⟩
                obtain ⟨⟨v3, hT3⟩, hb3⟩ := HTa.out.wrote HBa.out.size hW
                have hd : w3.cell? ⟨wr.heap.size, 0, none⟩ = some (.int .i8 (s : Int)) ∧ w3.cell? ⟨wr.heap.size, 1, none⟩ = some (.int .u64 (x.n : Int)) := by
                  obtain ⟨_, _, hbut, _⟩ := hW
                  exact ⟨(hbut.cell (p := ⟨wr.heap.size, 0, none⟩) CI.out.1 (fun h => h.elim (fun e => HI.out.1 e.symm) (fun e => HI.out.2.1 e))).trans CI.out.2.1,
                    (hbut.cell (p := ⟨wr.heap.size, 1, none⟩) CI.out.1 (fun h => h.elim (fun e => HI.out.1 e.symm) (fun e => HI.out.2.1 e))).trans CI.out.2.2.1⟩
                obtain ⟨hd0, hd1⟩ := hd
                have HT3 := Lib.hid hT3
                have HB3 := Lib.hid (HBa.out.trans hb3)
                clear hT3 hb3 hW HTa HBa CI hc0 hc1 hc2 hc3
                go_wp2_with fail
                go_loopg [6, 9, 56] s (fun gj s6 s9 s56 wx => ∃ (j M c2 : Nat) (A2 : Option Addr), j ≤ s ∧ gj = s - j ∧ s56 = .int .i8 (j : Int) ∧ s9 = .int .u64 (M : Int) ∧ M = x.n / 256 ^ j ∧ M < 18446744073709551616 ∧
                  s6 = .slice A2 (l.length + j) c2 ∧ Two wx w.heap.size g v3 (.slice A2 (l.length + j) c2) (l ++ low x.n s) (l ++ low x.n j) ∧ Below w.heap.size w wx)
                case atStart => exact ⟨0, x.n, c, A6, Nat.zero_le _, rfl, rfl, rfl, by simp, hbig, rfl, by simpa [low] using HT3.out, HB3.out⟩
                case round =>
                  obtain ⟨j, M, c2, A2, hj, hgj, rfl, rfl, hM, hMb, rfl, hT4, hB4⟩ := hrel
                  have HGj := Lib.hid hgj
                  have HM := Lib.hid hM
                  have HT4 := Lib.hid hT4
                  have HB4 := Lib.hid hB4
                  clear hgj hM hT4 hB4
                  by_cases hjs : j < s
                  · have HTa := Lib.hid (HT4.out.alloc (.cells #[.int .u8 ((M : Int) % (256 : Int))] 5))
                    have HBa := Lib.hid (HB4.out.alloc HB4.out.size (.cells #[.int .u8 ((M : Int) % (256 : Int))] 5))
                    have HO := Lib.hid (one_has (w := wr) (byte_of HM.out))
                    have hll : (l ++ low x.n j).length = l.length + j := by simp [low_len]
                    have hown := HTa.out.own
                    rw [hll] at hown
                    have HOW := Lib.hid hown
                    clear hll hown
                    go_wp2_with (at_builtin; refine wpList_append_has rfl (.tmp 58) (.tmp 62) rfl 0 (.slice A2 (l.length + j) c2) (l.length + j) (l ++ low x.n j) rfl HOW.out (some ⟨wr.heap.size, 0, none⟩) 1 1 [byteAt x.n j] rfl HO.out (fun e => by cases e) (by omega) (Nat.zero_le _) ?_; intro A4 cap4 w4 hown4 hg4 hf4; obtain ⟨hT5, hb5⟩ := HTa.out.grew HBa.out.size hown4 hg4 hf4; have R5 := Lib.hid hT5; have B5 := Lib.hid (HBa.out.trans hb5); clear hown4 hg4 hf4 hT5 hb5)
                    rw [List.append_assoc, show low x.n j ++ [byteAt x.n j] = low x.n (j + 1) from rfl] at R5
                    go_roundg (s - (j + 1))
                    case measure => rw [HGj.out]; omega
                    case rel => exact ⟨j + 1, M / 256, cap4, A4, by omega, rfl, by go_num, by go_num, next_of HM.out, by omega, rfl, R5.out, B5.out⟩
                  · obtain rfl : j = s := by omega
                    have hll : (l ++ low x.n j).length = l.length + j := by simp [low_len]
                    have HLL := Lib.hid hll
                    clear hll
                    go_wp2_with fail
                    go_roundg (len - (k + 1))
                    case measure => rw [HG.out]; omega
                    case rel => exact ⟨k + 1, v3, c2, A2, l ++ low x.n j, by omega, rfl, by go_num, by rw [HLL.out], by rw [HLL.out]; omega, by rw [HLL.out]; exact HT4.out, HB4.out⟩
            · go_wp2_with fail
              generalize wr.alloc (.cells #[.int .i8 x.size, .int .u64 (x.n : Int), .slice x.A x.m x.c, .bool true] 30) = wa at *
              refine (raw_any g v l x.A x.m x.c x.raw wa (by omega) (by omega) HTa.out.wr (HX.out.below HBa.out) HXn.out).mono ?_
              rintro e w3 ⟨rfl, hW⟩
              obtain ⟨⟨v3, hT3⟩, hb3⟩ := HTa.out.wrote HBa.out.size hW
              have hc3' : w3.cell? ⟨wr.heap.size, 2, none⟩ = some (.slice x.A x.m x.c) := by
                obtain ⟨_, _, hbut, _⟩ := hW
                exact (hbut.cell (p := ⟨wr.heap.size, 2, none⟩) CI.out.1 (fun h => h.elim (fun e => HI.out.1 e.symm) (fun e => HI.out.2.1 e))).trans CI.out.2.2.2
              have HT3 := Lib.hid hT3
              have HB3 := Lib.hid (HBa.out.trans hb3)
              have HX3 := Lib.hid (HX.out.below HB3.out)
              clear hT3 hb3 hW HTa HBa CI hc0 hc1 hc2 hc3
              go_wp2_with (at_builtin; refine wpList_append_has rfl (.tmp 34) (.tmp 36) rfl 0 (.slice A6 l.length c) l.length l rfl HT3.out.own x.A x.m x.c x.raw rfl HX3.out HXn.out (by omega) (Nat.zero_le _) ?_; intro A4 cap4 w4 hown4 hg4 hf4; obtain ⟨hT4, hb4⟩ := HT3.out.grew HB3.out.size hown4 hg4 hf4; have R4 := Lib.hid hT4; have B4 := Lib.hid (HB3.out.trans hb4); clear hown4 hg4 hf4 hT4 hb4)
              have hraw : (l ++ x.raw).length = l.length + x.m := by rw [List.length_append, HX.out.1]
              go_roundg (len - (k + 1))
              case measure => rw [HG.out]; omega
              case rel => exact ⟨k + 1, v3, cap4, A4, l ++ x.raw, by omega, rfl, by go_num, by rw [hraw], by rw [hraw]; omega, by rw [hraw]; exact R4.out, B4.out⟩
          · go_wp2
            go_ret
            exact ⟨rfl, HBa.out⟩
        · obtain rfl : k = len := by omega
          clear HG
          go_wp2_with fail
          go_loopg [6] (least - l.length).toNat (fun gj s6 wx => ∃ (j c2 : Nat) (A2 : Option Addr), gj = (least - l.length - j).toNat ∧ s6 = .slice A2 (l.length + j) c2 ∧ (j = 0 ∨ (l.length : Int) + j ≤ least) ∧
            Two wx w.heap.size g v (.slice A2 (l.length + j) c2) l (l ++ List.replicate j 0#8) ∧ Below w.heap.size w wx)
          case atStart => exact ⟨0, c, A6, by simp, rfl, .inl rfl, by simpa using HT.out, HB.out⟩
          case round =>
            obtain ⟨j, c2, A2, hgj, rfl, hjl, hT4, hB4⟩ := hrel
            have HGj := Lib.hid hgj
            have HT4 := Lib.hid hT4
            have HB4 := Lib.hid hB4
            have HJ := Lib.hid hjl
            have hj2000 : j ≤ 2000 := by omega
            clear hgj hT4 hB4 hjl
            have hll : (l ++ List.replicate j 0#8).length = l.length + j := by simp
            have hown := HT4.out.own
            rw [hll] at hown
            have HOW := Lib.hid hown
            clear hll hown
            by_cases hlt2 : (l.length : Int) + (j : Int) < least
            · have HTa := Lib.hid (HT4.out.alloc (.cells #[.int .u8 0] 5))
              have HBa := Lib.hid (HB4.out.alloc HB4.out.size (.cells #[.int .u8 0] 5))
              have HOWa := Lib.hid (HOW.out.alloc (.cells #[.int .u8 0] 5))
              have HO := Lib.hid (one_has (w := wr) (y := 0) (z := 0#8) rfl)
              go_wp2_with (at_builtin; refine wpList_append_has rfl (.tmp 72) (.tmp 73) rfl 0 (.slice A2 (l.length + j) c2) (l.length + j) (l ++ List.replicate j 0#8) rfl HOWa.out (some ⟨wr.heap.size, 0, none⟩) 1 1 [0#8] rfl HO.out (fun e => by cases e) (by omega) (Nat.zero_le _) ?_; intro A4 cap4 w4 hown4 hg4 hf4; obtain ⟨hT5, hb5⟩ := HTa.out.grew HBa.out.size hown4 hg4 hf4; have R5 := Lib.hid hT5; have B5 := Lib.hid (HBa.out.trans hb5); clear hown4 hg4 hf4 hT5 hb5)
              rw [List.append_assoc, show List.replicate j 0#8 ++ [0#8] = List.replicate (j + 1) 0#8 from List.replicate_succ'.symm] at R5
              go_roundg (least - l.length - (j + 1 : Nat)).toNat
              case measure => rw [HGj.out]; omega
              case rel => exact ⟨j + 1, cap4, A4, rfl, rfl, .inr (by omega), R5.out, B5.out⟩
            · have hMM : ((l.length + j : Nat) : Int) = max (l.length : Int) least := by have := HJ.out; omega
              have hX : least = min least 1048576 := by omega
              have HP := Lib.hid (show pad l (l.length + j) = l ++ List.replicate j 0#8 by simp [pad])
              have HMM := Lib.hid hMM
              have HXX := Lib.hid hX
              clear hMM hX
              go_wp2_with fail
              refine (bytes_any g v l least least (l.length + j) wr (by omega) HXX.out HMM.out HT4.out.wr).mono ?_
              rintro e w5 ⟨v5, rfl, hown5, hb5⟩
              obtain ⟨A5, c5, rfl, _, _, _, hh5, _⟩ := own_slice hown5
              rw [HP.out] at hh5
              obtain ⟨A5', c5', e5, _, _, _, hu5, hx5⟩ := own_slice HOW.out
              injection e5 with e5 _ e5'
              subst e5 e5'
              have HH5 := Lib.hid hh5
              have HU5 := Lib.hid (hu5.below hb5)
              have HT5 := Lib.hid (HT4.out.below hb5)
              have HB5 := Lib.hid (HB4.out.trans (hb5.mono HB4.out.size))
              clear hown5 hb5 hh5 hu5 hx5
              go_wp2_with fail
              refine (equal_any A5 A2 (l.length + j) (l.length + j) c5 c2 _ _ w5 (by omega) (by omega) HH5.out HU5.out).mono ?_
              rintro e w6 ⟨rfl, m6, rfl⟩
              rw [decide_eq_true rfl]
              go_wp2_with fail
              refine (bytes_any g v l least least (l.length + j) (w5.drewN m6) (by omega) HXX.out HMM.out (HT5.out.below (below_drewN (Below.refl _ _) m6)).wr).mono ?_
              rintro e w7 ⟨v7, rfl, hown7, hb7⟩
              obtain ⟨A7, c7, rfl, _, _, _, hh7, _⟩ := own_slice hown7
              rw [HP.out] at hh7
              have HH7 := Lib.hid hh7
              have HU7 := Lib.hid ((HU5.out.drewN m6).below hb7)
              have HB7 := Lib.hid ((below_drewN HB5.out m6).trans (hb7.mono HB5.out.size))
              clear hown7 hb7 hh7
              go_wp2_with fail
              refine (equal_any A7 A2 (l.length + j) (l.length + j) c7 c2 _ _ w7 (by omega) (by omega) HH7.out HU7.out).mono ?_
              rintro e w8 ⟨rfl, m8, rfl⟩
              rw [decide_eq_true rfl]
              have HB8 := Lib.hid (below_drewN HB7.out m8)
              go_wp2
              go_ret
              exact ⟨rfl, HB8.out⟩
    · go_enter Try.func3, Try.ntmps3
      go_wp2_with fail
      refine (awake_any _).mono ?_
      rintro e w1 ⟨rfl, hb1⟩
      have B1 := Lib.hid hb1
      clear hb1
      go_wp2
      go_ret
      exact ⟨rfl, B1.out⟩
  · go_enter Try.func3, Try.ntmps3
    go_wp2_with fail
    refine (awake_any _).mono ?_
    rintro e w1 ⟨rfl, hb1⟩
    have B1 := Lib.hid hb1
    clear hb1
    go_wp2
    go_ret
    exact ⟨rfl, B1.out⟩

theorem puts_all (A : Option Addr) (len cap : Nat) (L : List It) (least : Int) (w : World) (h : Items w A len cap L) (hle : (Lit.int .i64 least).wf = true) :
    Calls Try.prog 3 #[.slice A len cap, .int .i64 least] w fun e w' => e = .returned (.bool true) ∧ Below w.heap.size w w' := by
  have hb : -9223372036854775808 ≤ least ∧ least ≤ 9223372036854775807 := by simpa [Lit.wf, IntKind.min, IntKind.max, IntKind.signed, IntKind.bits] using hle
  exact puts_walk A len cap L least w h hb.1

end Go.Proofs.Ytgekfhffppfnlaa
