/-
  TEXTS JOINED: Rep, Chs, Anew.
-/
import Derived.Test.YtplmdmchkaacoaaGreatJ11
import Derived.Deep.RegionLaw

/-
  THE WALK OF slices.Repeat OF ONE BYTE, AS OFTEN AS A BLOCK IS LONG; OF THE LAW'S Block AND Chunks.
-/
namespace Go.Proofs.YtplmdmchkaacoaaGreat
open Go.RowKit Go.Maps
set_option linter.unusedVariables false
set_option maxRecDepth 100000

set_option maxHeartbeats 3200000 in
theorem mul64_lit (y : Int) (hy : 32 ≤ y ∧ y ≤ 48) (w : World) : Calls Tryz.prog 154 #[.int .u64 1, .int .u64 y] w fun e w' => e = .returned (.tuple #[.int .u64 0, .int .u64 y]) ∧ w' = w := by
  have h : y = 32 ∨ y = 33 ∨ y = 34 ∨ y = 35 ∨ y = 36 ∨ y = 37 ∨ y = 38 ∨ y = 39 ∨ y = 40 ∨ y = 41 ∨ y = 42 ∨ y = 43 ∨ y = 44 ∨ y = 45 ∨ y = 46 ∨ y = 47 ∨ y = 48 := by omega
  clear hy
  rcases h with rfl | rfl | rfl | rfl | rfl | rfl | rfl | rfl | rfl | rfl | rfl | rfl | rfl | rfl | rfl | rfl | rfl
  all_goals
    go_enter Tryz.func154, Tryz.ntmps154
    go_wp2
    go_ret2
    exact ⟨rfl, rfl⟩
theorem mul_lit (y : Int) (hy : 32 ≤ y ∧ y ≤ 48) (w : World) : Calls Tryz.prog 133 #[.int .u64 1, .int .u64 y] w fun e w' => e = .returned (.tuple #[.int .u64 0, .int .u64 y]) ∧ w' = w := by
  go_enter Tryz.func133, Tryz.ntmps133
  go_wp2_with fail
  refine (mul64_lit y hy w).mono ?_
  rintro e w' ⟨rfl, rfl⟩
  go_wp2
  go_ret2
  exact ⟨rfl, rfl⟩

/-- k of the n cells are written. -/
def filled (x : BitVec 8) (n k : Nat) : List (BitVec 8) := List.replicate k x ++ List.replicate (n - k) 0#8
theorem filled_len (x : BitVec 8) (n k : Nat) (h : k ≤ n) : (filled x n k).length = n := by simp [filled]; omega
theorem filled_full (x : BitVec 8) (n : Nat) : filled x n n = List.replicate n x := by simp [filled]
theorem filled_splice (x : BitVec 8) (n k m : Nat) (h : k + m ≤ n) : splice ((filled x n k).map val) k ((List.replicate m x).map val) = (filled x n (k + m)).map val := by
  unfold splice filled
  have e1 : (List.map val (List.replicate k x ++ List.replicate (n - k) 0#8)).take k = (List.replicate k x).map val := by simp
  have e2 : (List.map val (List.replicate k x ++ List.replicate (n - k) 0#8)).drop (k + m) = (List.replicate (n - (k + m)) 0#8).map val := by
    rw [List.map_append, List.drop_append]
    simp
    omega
  rw [List.length_map, List.length_replicate, e1, e2, ← List.map_append, ← List.map_append]
  congr 1
  rw [← List.replicate_append_replicate, List.append_assoc]
theorem rep_copy {w w1 : World} {B g n k d m : Nat} {x : BitVec 8} (hg : w1.heap[g]? = some (.cells ((filled x n k).map val).toArray 5 (0, 0))) (hd : k + d = n) (hm : m = min k d) 
    (hb : Below B w w1) (hB : B ≤ g) :
    ∃ w2, (Builtin.copy_ #[57, 57] 3 #[.slice (some ⟨g, k, none⟩) d d, .slice (some ⟨g, 0, none⟩) k n]).run Tryz.prog w1 = .ok (goInt m) w2 ∧ w2.heap[g]? = some (.cells ((filled x n (k + m)).map val).toArray 5 (0, 0)) ∧ Below B w w2 := by
  have hmd : m ≤ d ∧ m ≤ k := by omega
  have hrun := run_copy_row (P := Tryz.prog) w1 57 57 3 5 g k d d ⟨g, 0, none⟩ k n _ 5 ((List.replicate m x).map val) Tryz.underlying57 byte_size hg (by rw [List.length_map, List.length_replicate, hm]) (by
    intro j v hv
    have hj : j < m := by
      have := (List.getElem?_eq_some_iff.1 hv).1
      simpa using this
    have e1 : (⟨g, 0, none⟩ : Addr).add j = ⟨g, j, none⟩ := by
      unfold Addr.add
      by_cases h : j = 0 <;> simp [h]
    rw [e1, cell_of_row w1 g j _ _ _ hg]
    simp only [List.getElem?_map, List.getElem?_replicate, hj, if_true, Option.map_some, Option.some.injEq] at hv
    subst hv
    simp only [List.getElem?_toArray, List.getElem?_map]
    unfold filled
    rw [List.getElem?_append_left (by simp; omega), List.getElem?_replicate, if_pos (by omega)]
    rfl) (by simp [filled]; omega) (val_one _)
  have hl : ((List.replicate m x).map val).length = m := by simp
  rw [hl] at hrun
  refine ⟨_, hrun, ?_, below_setRow hb hB _⟩
  rw [← filled_splice x n k m (by omega)]
  have := setRow_heap w1 g _ (((filled x n k).map val).take k ++ (List.replicate m x).map val ++ ((filled x n k).map val).drop (k + m)).toArray 5 _ hg
  simpa [splice, List.append_assoc] using this

set_option maxHeartbeats 3200000 in
theorem rep_any (x : BitVec 8) (b0 n : Nat) (hn : 32 ≤ n ∧ n ≤ 48) (w : World) (h : Has w (some ⟨b0, 0, none⟩) 1 [x]) : Calls Tryz.prog 90 #[.slice (some ⟨b0, 0, none⟩) 1 1, .int .i64 (n : Int)] w fun e w' => ∃ g, e = .returned (.slice (some ⟨g, 0, none⟩) n n) ∧ w'.ownsRow w.heap.size 5 1 (.slice (some ⟨g, 0, none⟩) n n) n ((List.replicate n x).map val) ∧ Below w.heap.size w w' := by
  obtain ⟨i0, hi0, hz0, hz1, hz2⟩ := info_parts byte_info
  have H := Lib.hid h
  clear h
  go_enter Tryz.func90, Tryz.ntmps90
  go_wp2_with fail
  refine (mul_lit (n : Int) (by omega) w).mono ?_
  rintro e w' ⟨rfl, rfl⟩
  go_wp2_with (first
    | (at_make; refine wpList_make_full _ rfl (.tmp 29) (.tmp 29) 57 rfl w'.heap.size 5 i0 (.int .u8 0) 1 Tryz.underlying57 hi0 hz0 hz1 .i64 .i64 n n n rfl rfl rfl rfl (by rw [hz2]; omega) (by unfold maxLen; omega) (Nat.le_refl _) ?_; intro w2 hown2 hg2; have hb2 : Below w'.heap.size w' w2 := (Below.refl _ _).grown hg2 (Nat.le_refl _) (by simp); have RW := Lib.hid (made_row hown2); have B2 := Lib.hid hb2; clear hown2 hg2 hb2))
  obtain ⟨w3, hrun3, hr3, hb3⟩ := copy_run (c := 1) RW.out (H.out.below B2.out) (by omega) B2.out (Nat.le_refl _)
  have R3 := Lib.hid (show w3.heap[w'.heap.size]? = some (.cells ((filled x n 1).map val).toArray 5 (0, 0)) from hr3)
  have B3 := Lib.hid hb3
  clear hr3 hb3
  rw [hrun3]
  clear hrun3
  generalize hg : w'.heap.size = g at *
  have EG := Lib.hid hg
  clear hg
  go_wp2
  go_loopw [8] (fun i wr => ∃ k : Nat, 1 ≤ k ∧ k ≤ n ∧ i = .int .i64 k ∧ wr.heap[g]? = some (.cells ((filled x n k).map val).toArray 5 (0, 0)) ∧ Below g w' wr) (fun i _ => n - (RowKit.intOf i).toNat)
  case atStart => exact ⟨1, by omega, by omega, rfl, R3.out, B3.out⟩
  case round =>
    obtain ⟨k, hk1, hkn, rfl, hr, hb⟩ := hrel
    have R4 := Lib.hid hr
    have B4 := Lib.hid hb
    clear hr hb
    by_cases hlt : k < n
    · obtain ⟨w5, hrun, hr5, hb5⟩ := rep_copy (w := w') (w1 := wr.drew) (B := g) (g := g) (n := n) (k := k) (d := n - k) (m := min k (n - k)) (x := x) R4.out (by omega) rfl ⟨B4.out.os, B4.out.tape, B4.out.output, B4.out.size, B4.out.block⟩ (Nat.le_refl _)
      have R5 := Lib.hid hr5
      have B5 := Lib.hid hb5
      clear hr5 hb5
      go_wp2
      go_region
      go_wp2
      refine ⟨⟨k + min k (n - k), by omega, by omega, by rw [Int.natCast_add], R5.out, B5.out⟩, ?_⟩
      simp [RowKit.intOf]
      omega
    · obtain rfl : k = n := by omega
      go_wp2
      go_ret
      refine ⟨g, rfl, ?_, by rw [EG.out]; exact B4.out⟩
      have := R4.out
      rw [filled_full] at this
      exact own_of_row this (by simp) (by unfold maxLen; omega) (by have := EG.out; omega)

theorem one_byte (w : World) (x : BitVec 8) (X : Int) (hX : X = (x.toNat : Int)) : Has (w.alloc (.cells #[.int .u8 X] 5)) (some ⟨w.heap.size, 0, none⟩) 1 [x] := by
  subst hX
  refine Has.of_block (heap_alloc_new _ _) rfl ?_
  intro k hk
  match k, hk with
  | 0, _ => rfl

/-- The law's Block: a new row of one byte. -/
theorem Block_any (M b g s n l : Int) (nb : Nat) (hb : b = (nb : Int)) (h48 : 32 ≤ nb ∧ nb ≤ 48) (x : BitVec 8) (X : Int) (hX : X = (x.toNat : Int)) (w : World) : Calls Tryz.prog 36 #[sv M b g s n l, .int .u8 X] w fun e w' => ∃ B, e = .returned (.slice (some ⟨B, 0, none⟩) nb nb) ∧ w'.ownsRow w.heap.size 5 1 (.slice (some ⟨B, 0, none⟩) nb nb) nb ((List.replicate nb x).map val) ∧ Below w.heap.size w w' := by
  unfold sv
  subst hb hX
  have B1 := Lib.hid (show Below w.heap.size w ((w.alloc (.cells #[.int .i64 M, .int .i64 (nb : Int), .int .i64 g, .int .i64 s, .int .i64 n, .int .i64 l] 27)).alloc (.cells #[.int .u8 (x.toNat : Int)] 5)) from ((Below.refl _ _).alloc (Nat.le_refl _) _).alloc (by simp) _)
  have H1 := Lib.hid (one_byte (w.alloc (.cells #[.int .i64 M, .int .i64 (nb : Int), .int .i64 g, .int .i64 s, .int .i64 n, .int .i64 l] 27)) x _ rfl)
  go_enter Tryz.func36, Tryz.ntmps36
  go_wp2_with fail
  refine (rep_any x (w.heap.size + 1) nb h48 _ (by have := H1.out; simpa using this)).mono ?_
  rintro e w2 ⟨B, rfl, hown, hb⟩
  have O2 := Lib.hid (own_base hown (fun k hk => Nat.le_trans B1.out.size (hown.lt k hk).1))
  have B2 := Lib.hid (B1.out.trans (hb.mono B1.out.size))
  clear hown hb
  go_wp2
  go_ret
  exact ⟨B, rfl, O2.out, B2.out⟩

/-- The byte of a stripe's chunk. -/
def fillAt (f : BitVec 8) (k : Nat) : BitVec 8 := f + BitVec.ofNat 8 (k * 37)
theorem fill_at (f : BitVec 8) (k : Nat) : ((f.toNat : Int) + (k : Int) * 37) % 256 = ((fillAt f k).toNat : Int) := by
  unfold fillAt
  rw [BitVec.toNat_add, BitVec.toNat_ofNat]
  omega

end Go.Proofs.YtplmdmchkaacoaaGreat

/-
  THE WALK OF THE LAW'S Chunks.
-/
namespace Go.Proofs.YtplmdmchkaacoaaGreat
open Go.RowKit Go.Maps
set_option linter.unusedVariables false
set_option maxRecDepth 100000

theorem own_below {w w' : World} {base n : Nat} {e : TypeId} {size : Nat} {v : Value} {xs : List Value} (h : w.ownsRow base e size v n xs) (hb : Below w.heap.size w w') : w'.ownsRow base e size v n xs :=
  own_but (S := fun _ => False) h (But.of_below hb) (fun _ _ h => h)
/-- The bytes of a stripe's chunk. -/
def chunkB (nb : Nat) (f : BitVec 8) (k : Nat) : Bytes := List.replicate nb (fillAt f k)

set_option maxHeartbeats 1600000 in
theorem Chunks_any (M : Nat) (b g s n l : Int) (nb : Nat) (hb : b = (nb : Int)) (h48 : 32 ≤ nb ∧ nb ≤ 48) (hM : 3 ≤ M ∧ M ≤ 5) (f : BitVec 8) (F : Int) (hF : F = (f.toNat : Int)) (w : World) : Calls Tryz.prog 93 #[sv (M : Int) b g s n l, .int .u8 F] w fun e w' =>
    ∃ v L, e = .returned v ∧ Cl w' w.heap.size v L ∧ L.length = M - 1 ∧ L.map Sl.l = (List.range (M - 1)).map (chunkB nb f) ∧ (∀ x ∈ L, x.n = nb) ∧ Below w.heap.size w w' := by
  have E := Lib.hid hb
  subst hF
  obtain ⟨W, hW⟩ : ∃ W, W = w.alloc (.cells #[.int .i64 (M : Int), .int .i64 b, .int .i64 g, .int .i64 s, .int .i64 n, .int .i64 l] 27) := ⟨_, rfl⟩
  have at0 : At W w.heap.size #[.int .i64 (M : Int), .int .i64 b, .int .i64 g, .int .i64 s, .int .i64 n, .int .i64 l] 27 := by rw [hW]; exact At.new _ 27 rfl
  have A0 := Lib.hid at0
  have bel : Below w.heap.size w W := by rw [hW]; exact (Below.refl _ _).alloc (Nat.le_refl _) _
  have B0 := Lib.hid bel
  have Z0 := Lib.hid (show W.heap.size = w.heap.size + 1 by rw [hW]; simp)
  have HW := Lib.hid hW
  clear hb at0 bel hW
  generalize hN : M - 1 = N
  have NM := Lib.hid (show (M : Int) - 1 = (N : Int) by omega)
  have n4 : N ≤ 4 := by omega
  clear hN
  unfold sv
  go_enter Tryz.func93, Tryz.ntmps93
  go_wp2_with fail
  rw [← HW.out]
  rw [NM.out]
  go_loopw [5, 10] (fun v q wr => ∃ (j : Nat) (L : List Sl), q = .int .i64 (j : Int) ∧ j ≤ N ∧ L.length = j ∧ Below W.heap.size W wr ∧ Cl wr W.heap.size v L ∧ L.map Sl.l = (List.range j).map (chunkB nb f) ∧ ∀ x ∈ L, x.n = nb) (fun _ q _ => N - (RowKit.intOf q).toNat)
  case atStart => exact ⟨0, [], rfl, Nat.zero_le _, rfl, Below.refl _ _, Cl.nil _ _, rfl, fun x hx => by cases hx⟩
  case round =>
    obtain ⟨j, L, rfl, hj, hl, k1, k2, k3, k4⟩ := hrel
    have B1 := Lib.hid k1
    have C1 := Lib.hid k2
    have M1 := Lib.hid k3
    have N1 := Lib.hid k4
    have L1 := Lib.hid hl
    clear k1 k2 k3 k4 hl
    by_cases hlt : j < N
    · have A1 := A0.out.below B1.out (by have := Z0.out; omega)
      have d0 := A1.cell 0
      have d1 := A1.cell 1
      have d2 := A1.cell 2
      have d3 := A1.cell 3
      have d4 := A1.cell 4
      have d5 := A1.cell 5
      clear A1
      go_wp2_with fail
      refine (Block_any (M : Int) b g s n l nb E.out h48 (fillAt f j) _ (fill_at f j) wr).mono ?_
      rintro e w2 ⟨B, rfl, hown, hb⟩
      obtain ⟨hh, _, ha⟩ := own_slice hown
      have H2 := Lib.hid hh
      have HQ := Lib.hid ha
      have X2 := Lib.hid hb
      have bel : Below w2.heap.size w2 (w2.alloc (.cells #[.slice (some ⟨B, 0, none⟩) nb nb] 57)) := (Below.refl _ _).alloc (Nat.le_refl _) _
      have BL := Lib.hid bel
      have sz := Lib.hid (Nat.le_trans B1.out.size hb.size)
      have OW := Lib.hid (own_below (own_below C1.out.own hb) bel)
      clear hown hb hh ha bel d0 d1 d2 d3 d4 d5
      go_wp2_with (at_builtin; refine wpList_append_ln rfl (.tmp 13) (.tmp 21) rfl W.heap.size u5 L.length L rfl OW.out ⟨w2.heap.size, 0, none⟩ 1 1 [⟨some ⟨B, 0, none⟩, nb, nb, chunkB nb f j⟩] rfl (one_row ⟨some ⟨B, 0, none⟩, nb, nb, chunkB nb f j⟩ (At.new #[.slice (some ⟨B, 0, none⟩) nb nb] 57 rfl)) (by have := L1.out; omega) (by have := sz.out; simp; omega) ?_; intro A3 c3 w3 hown3 hg3 hf3; have C3 := Lib.hid (C1.out.push (S := fun _ => False) (w1 := w2.alloc (.cells #[.slice (some ⟨B, 0, none⟩) nb nb] 57)) (x := ⟨some ⟨B, 0, none⟩, nb, nb, chunkB nb f j⟩) ((But.of_below X2.out).trans (But.of_below (S := fun _ => False) BL.out) (fun _ h _ => h)) (fun _ _ h => h) B1.out.size (H2.out.below BL.out) (by show nb ≤ 48; omega) (fun a ha => by have := HQ.out a ha; simp; omega) hown3 hg3 hf3); have B3 := Lib.hid (show Below W.heap.size W w3 from ((B1.out.trans (X2.out.mono B1.out.size)).trans (BL.out.mono sz.out)).grown hg3 (by have := sz.out; simp; omega) (fun k hk => (C1.out.own.lt k hk).1)); clear hown3 hg3 hf3)
      go_roundw
      case rel =>
        refine ⟨j + 1, L ++ [⟨some ⟨B, 0, none⟩, nb, nb, chunkB nb f j⟩], by go_num, by omega, by simp [L1.out], B3.out, C3.out, ?_, ?_⟩
        · rw [List.map_append, M1.out, List.range_succ, List.map_append]; rfl
        · intro x hx
          rcases List.mem_append.1 hx with h | h
          · exact N1.out x h
          · simp at h; subst h; rfl
      case measure => simp [RowKit.intOf]; omega
    · obtain rfl : j = N := by omega
      go_wp2
      go_ret
      have sz1 := B0.out.size
      refine ⟨_, L, rfl, ⟨own_base C1.out.own (fun k hk => Nat.le_trans sz1 (C1.out.own.lt k hk).1), C1.out.has, C1.out.len, fun x hx a ha => ?_⟩, L1.out, M1.out, N1.out, B0.out.trans (B1.out.mono sz1)⟩
      obtain ⟨q1, q2, q3⟩ := C1.out.off x hx a ha
      exact ⟨q1, by omega, q3⟩
end Go.Proofs.YtplmdmchkaacoaaGreat

/-
  THE WALK OF array.New OVER DISKS.
-/
namespace Go.Proofs.YtplmdmchkaacoaaGreat
open Go.RowKit Go.Maps
set_option linter.unusedVariables false
set_option maxRecDepth 100000

theorem dev_info : (Tryz.prog.info? 175).map (fun i => (i.zero, i.size, i.bytes)) = some (some .nilIface, 1, 16) := by kernel_rfl
theorem dev_nil (x : Value) (w : World) : (binOp .eql 175 (.iface 152 x) .nilIface).run Tryz.prog w = .ok (.bool false) w := by rfl
theorem nobody_any (g : Nat) (w : World) : Calls Tryz.prog 135 #[dev g] w fun e w' => e = .returned (.bool false) ∧ w' = w := by
  have h := dev_nil
  go_enter Tryz.func135, Tryz.ntmps135
  go_wp2
  go_ret
  exact ⟨rfl, rfl⟩
/-- A row of disks, as devices. -/
def Dv (w : World) (r M : Nat) (g : Nat → Nat) : Prop := r < w.heap.size ∧ ∀ i, i < M → w.cell? ⟨r, i, none⟩ = some (dev (g i))
theorem Dv.below {w w' : World} {r M : Nat} {g : Nat → Nat} (h : Dv w r M g) (hb : Below w.heap.size w w') : Dv w' r M g :=
  ⟨Nat.lt_of_lt_of_le h.1 hb.size, fun i hi => (hb.cell (p := ⟨r, i, none⟩) h.1).trans (h.2 i hi)⟩
theorem enters73 (g : Nat) (w : World) : (callFunc 135 #[dev g]).run Tryz.prog w = .ok (.enter 135 #[dev g]) w := by kernel_rfl

theorem search_any (r M c : Nat) (g : Nat → Nat) (hM : 3 ≤ M ∧ M ≤ 5) (w : World) (h : Dv w r M g) : Calls Tryz.prog 155 #[.slice (some ⟨r, 0, none⟩) M c, .func (.func 135) #[] #[]] w fun e w' => e = .returned (.int .i64 (-1)) ∧ w' = w := by
  have hcf := enters73
  have H := Lib.hid h
  clear h
  go_enter Tryz.func155, Tryz.ntmps155
  go_wp2_with fail
  go_loopw [8] (fun i wr => ∃ j : Nat, j ≤ M ∧ i = .int .i64 (j : Int) ∧ wr = w) (fun i _ => M - (RowKit.intOf i).toNat)
  case atStart => exact ⟨0, Nat.zero_le _, rfl, rfl⟩
  case round =>
    obtain ⟨j, hj, rfl, rfl⟩ := hrel
    by_cases hlt : j < M
    · have hc := H.out.2 j hlt
      go_wp2_with fail
      refine (nobody_any (g j) wr).mono ?_
      rintro e wr ⟨rfl, rfl⟩
      go_wp2
      go_roundw
      case rel => exact ⟨j + 1, by omega, by go_num, trivial⟩
      case measure => simp [RowKit.intOf]; omega
    · obtain rfl : j = M := by omega
      go_wp2
      go_ret
      exact ⟨rfl, rfl⟩
theorem contains_any (r M c : Nat) (g : Nat → Nat) (hM : 3 ≤ M ∧ M ≤ 5) (w : World) (h : Dv w r M g) : Calls Tryz.prog 134 #[.slice (some ⟨r, 0, none⟩) M c, .func (.func 135) #[] #[]] w fun e w' => e = .returned (.bool false) ∧ w' = w := by
  go_enter Tryz.func134, Tryz.ntmps134
  go_wp2_with fail
  refine (search_any r M c g hM w h).mono ?_
  rintro e w' ⟨rfl, rfl⟩
  go_wp2
  go_ret
  exact ⟨rfl, rfl⟩
theorem dev_one (g : Nat → Nat) (M : Nat) : ∀ u ∈ (List.range M).map (fun i => dev (g i)), u.oneCell' = true := by
  intro u hu
  obtain ⟨x, _, rfl⟩ := List.mem_map.mp hu
  rfl
theorem devs_any (r M c : Nat) (g : Nat → Nat) (hM : 3 ≤ M ∧ M ≤ 5) (w : World) (h : Dv w r M g) : Calls Tryz.prog 136 #[.slice (some ⟨r, 0, none⟩) M c] w fun e w' => ∃ q cap, e = .returned (.slice (some ⟨q, 0, none⟩) M cap) ∧ Dv w' q M g ∧ w.heap.size ≤ q ∧ Below w.heap.size w w' := by
  have hnil := fun (w : World) (a : Option Addr) (n c : Nat) => Lib.run_eql_slice_nil (P := Tryz.prog) w 125 175 a n c 0 0 Tryz.underlying125
  obtain ⟨i0, hi, hz0, hz1, hz2⟩ := info_parts dev_info
  have hcells : ∀ j u, ((List.range M).map (fun i => dev (g i)))[j]? = some u → (w.alloc (.cells #[] 175)).cell? ((⟨r, 0, none⟩ : Addr).add j) = some u := by
    intro j u hu
    have hj : j < M := by have := (List.getElem?_eq_some_iff.1 hu).1; simpa using this
    have e1 : (⟨r, 0, none⟩ : Addr).add j = ⟨r, j, none⟩ := by
      unfold Addr.add
      by_cases h : j = 0 <;> simp [h]
    rw [e1]
    have h2 := (h.below (w' := w.alloc (.cells #[] 175)) ((Below.refl _ _).alloc (Nat.le_refl _) _)).2 j hj
    rw [h2]
    simpa [hj] using hu
  have HC := Lib.hid hcells
  have HD := Lib.hid h
  clear h hcells
  go_enter Tryz.func136, Tryz.ntmps136
  go_wp2_with (at_builtin; refine wpList_append_own _ rfl (.tmp 5) (.tmp 6) 125 rfl w.heap.size 175 i0 .nilIface 1 16 Tryz.underlying125 hi hz0 hz1 hz2 rfl (by decide) (.slice (some ⟨w.heap.size, 0, none⟩) 0 0) 0 [] rfl (World.ownsRow_made w #[] 0 (Nat.le_refl _) (by unfold maxLen; omega) rfl) ⟨r, 0, none⟩ M c ((List.range M).map (fun i => dev (g i))) rfl (by simp) HC.out (dev_one g M) (by unfold maxLen; omega) (by omega) (by simp) ?_; intro v' w1 hown hg hx; have O1 := Lib.hid hown; have B1 := Lib.hid (show Below w.heap.size w w1 from ((Below.refl w.heap.size w).alloc (Nat.le_refl _) _).grown hg (by simp) (fun k hk => by simp [Value.ownBlock] at hk; omega)); clear hown hg hx)
  go_ret
  have hown := O1.out
  rcases hown.2 with ⟨e, hn⟩ | ⟨q, cap, cur, e, hq, hh, hnc, hcm, hcs, htk⟩
  · simp at hn; omega
  · subst e
    refine ⟨q, cap, by simp, ⟨?_, fun i hi => ?_⟩, hq, B1.out⟩
    · exact (hown.lt q rfl).2
    · have := hown.cellAt (g := q) (cap := cap) i (by simp; omega)
      rw [this]
      simp [hi]

set_option maxHeartbeats 1600000 in
theorem new_arr (r c n p M : Nat) (b g s nv l : Int) (gs : Nat → Nat) (hs : Small (M : Int) b g s nv l) (w : World) (h : Dv w r M gs) (hn : Nv w n p ⟨(M : Int), b, g, s, nv, l, 0, 0, -1⟩ (.slice none 0 0) 0) :
    Calls Tryz.prog 102 #[.slice (some ⟨r, 0, none⟩) M c, .pointer (some ⟨n, 0, none⟩)] w fun e w' => ∃ a q cap, e = .returned (.tuple #[.pointer (some ⟨a, 0, none⟩), .int .i64 0]) ∧
      At w' a #[.int .i64 (M : Int), .int .i64 b, .int .i64 g, .int .i64 s, .int .i64 nv, .int .i64 l, .slice (some ⟨q, 0, none⟩) M cap, .pointer (some ⟨n, 0, none⟩), .bool false] 127 ∧ Dv w' q M gs ∧ w.heap.size ≤ a ∧ w.heap.size ≤ q ∧ ¬ a = q ∧ Below w.heap.size w w' := by
  have hf := field_shape
  have HD := Lib.hid h
  have HN := Lib.hid hn
  have HS := Lib.hid hs
  have hM := hs.hm
  clear h hn hs
  go_enter Tryz.func102, Tryz.ntmps102
  go_wp2_with fail
  refine (root_any HN.out).mono ?_
  rintro e w1 ⟨rfl, hb⟩
  unfold Rt.cs
  have D1 := Lib.hid (HD.out.below hb)
  have B1 := Lib.hid hb
  clear hb
  go_wp2_with fail
  have at2 : At (w1.alloc (.cells #[.int .i64 (M : Int), .int .i64 b, .int .i64 g, .int .i64 s, .int .i64 nv, .int .i64 l] 27)) w1.heap.size #[.int .i64 (M : Int), .int .i64 b, .int .i64 g, .int .i64 s, .int .i64 nv, .int .i64 l] 27 := At.new _ 27 rfl
  have bel : Below w1.heap.size w1 (w1.alloc (.cells #[.int .i64 (M : Int), .int .i64 b, .int .i64 g, .int .i64 s, .int .i64 nv, .int .i64 l] 27)) := (Below.refl _ _).alloc (Nat.le_refl _) _
  have B2 := Lib.hid (B1.out.trans (bel.mono B1.out.size))
  have D2 := Lib.hid (D1.out.below bel)
  have Z1 := Lib.hid B1.out.size
  generalize w1.alloc (.cells #[.int .i64 (M : Int), .int .i64 b, .int .i64 g, .int .i64 s, .int .i64 nv, .int .i64 l] 27) = V at *
  generalize w1.heap.size = bx at *
  have A2 := Lib.hid at2
  clear at2 bel
  refine (check_ok (M : Int) b g s nv l HS.out.ok V).mono ?_
  rintro e w3 ⟨rfl, hb⟩
  have A3 := Lib.hid (A2.out.below hb A2.out.lt)
  have D3 := Lib.hid (D2.out.below hb)
  have B3 := Lib.hid (B2.out.trans (hb.mono B2.out.size))
  clear hb
  have k0 := A3.out.cell 0
  go_wp2_with fail
  refine (contains_any r M c gs (by omega) w3 D3.out).mono ?_
  rintro e w3 ⟨rfl, rfl⟩
  clear k0
  go_wp2_with fail
  have S0 : (fun w' : World => At w' bx #[.int .i64 (M : Int), .int .i64 b, .int .i64 g, .int .i64 s, .int .i64 nv, .int .i64 l] 27 ∧ Dv w' r M gs) w3.drew := ⟨A3.out, ⟨D3.out.1, D3.out.2⟩⟩
  refine wp_region_early (fun w' : World => At w' bx #[.int .i64 (M : Int), .int .i64 b, .int .i64 g, .int .i64 s, .int .i64 nv, .int .i64 l] 27 ∧ Dv w' r M gs) (fun _ => true) (by kernel_rfl) ?_
  change wpEarly _ _ _ _ _ _ 8 (Array.replicate 8 false) _ w3.drew
  refine early_take (i := 0) 24 (sv (M : Int) b g s nv l) rfl rfl (by kernel_rfl) (by kernel_rfl) (by kernel_rfl) (by kernel_rfl) rfl (fun _ _ _ h => h) (fun w' hw' => exec_load_whole (x := .tmp 6) rfl rfl hw'.1 Tryz.underlying27 shape_size) S0 ?_
  simp only [Act.put, List.setIfInBounds_toArray, List.set_cons_zero, List.set_cons_succ]
  refine early_take (i := 1) 25 (.slice (some ⟨r, 0, none⟩) M c) rfl rfl (by kernel_rfl) (by kernel_rfl) (by kernel_rfl) (by kernel_rfl) rfl (fun _ _ _ h => h) (fun w' hw' => by go_simp) S0 ?_
  simp only [Act.put, List.setIfInBounds_toArray, List.set_cons_zero, List.set_cons_succ]
  refine early_take (i := 3) 27 (.pointer (some ⟨n, 0, none⟩)) rfl rfl (by kernel_rfl) (by kernel_rfl) (by kernel_rfl) (by kernel_rfl) rfl (fun _ _ _ h => h) (fun w' hw' => by go_simp) S0 ?_
  simp only [Act.put, List.setIfInBounds_toArray, List.set_cons_zero, List.set_cons_succ]
  refine early_only (i := 2) (by kernel_rfl) rfl (fun K hK => ?_)
  simp only [opWp, List.getElem?_toArray, List.getElem?_cons_succ, List.getElem?_cons_zero]
  go_simp
  go_at_call 136
  refine (devs_any r M c gs (by omega) _ S0.2).mono ?_
  rintro e w4 ⟨q, cap, rfl, hq, hlo, hb⟩
  have S1 : (fun w' : World => At w' bx #[.int .i64 (M : Int), .int .i64 b, .int .i64 g, .int .i64 s, .int .i64 nv, .int .i64 l] 27 ∧ Dv w' r M gs) w4 := ⟨S0.1.below hb S0.1.lt, S0.2.below hb⟩
  have D4 := Lib.hid hq
  have B4 := Lib.hid (show Below w.heap.size w w4 from B3.out.trans (show Below w.heap.size w3 w4 from ⟨hb.os, hb.tape, hb.output, hb.size, fun k hk => hb.block k (Nat.lt_of_lt_of_le hk B3.out.size)⟩))
  have Q4 := Lib.hid (Nat.le_trans B3.out.size hlo)
  clear hq hlo hb
  refine hK _ _ (fun _ => S1) ?_
  refine early_take (i := 4) 28 (.agg #[.int .i64 (M : Int), .int .i64 b, .int .i64 g, .int .i64 s, .int .i64 nv, .int .i64 l, .slice (some ⟨q, 0, none⟩) M cap, .pointer (some ⟨n, 0, none⟩), .bool false]) rfl rfl (by kernel_rfl) (by kernel_rfl) (by kernel_rfl) (by kernel_rfl) rfl (fun _ _ _ h => h) (fun w' hw' => by go_simp) S1 ?_
  simp only [Act.put, List.setIfInBounds_toArray, List.set_cons_zero, List.set_cons_succ]
  refine early_only (i := 5) (by kernel_rfl) rfl (fun K hK => ?_)
  simp only [opWp, List.getElem?_toArray, List.getElem?_cons_succ, List.getElem?_cons_zero]
  go_simp
  have bel : Below w4.heap.size w4 (w4.alloc (.cells #[.int .i64 (M : Int), .int .i64 b, .int .i64 g, .int .i64 s, .int .i64 nv, .int .i64 l, .slice (some ⟨q, 0, none⟩) M cap, .pointer (some ⟨n, 0, none⟩), .bool false] 127)) := (Below.refl _ _).alloc (Nat.le_refl _) _
  have S2 : (fun w' : World => At w' bx #[.int .i64 (M : Int), .int .i64 b, .int .i64 g, .int .i64 s, .int .i64 nv, .int .i64 l] 27 ∧ Dv w' r M gs) (w4.alloc (.cells #[.int .i64 (M : Int), .int .i64 b, .int .i64 g, .int .i64 s, .int .i64 nv, .int .i64 l, .slice (some ⟨q, 0, none⟩) M cap, .pointer (some ⟨n, 0, none⟩), .bool false] 127)) := ⟨S1.1.below bel S1.1.lt, S1.2.below bel⟩
  have A5 := Lib.hid (show At (w4.alloc (.cells #[.int .i64 (M : Int), .int .i64 b, .int .i64 g, .int .i64 s, .int .i64 nv, .int .i64 l, .slice (some ⟨q, 0, none⟩) M cap, .pointer (some ⟨n, 0, none⟩), .bool false] 127)) w4.heap.size #[.int .i64 (M : Int), .int .i64 b, .int .i64 g, .int .i64 s, .int .i64 nv, .int .i64 l, .slice (some ⟨q, 0, none⟩) M cap, .pointer (some ⟨n, 0, none⟩), .bool false] 127 from At.new _ 127 rfl)
  have D5 := Lib.hid (D4.out.below bel)
  have B5 := Lib.hid (B4.out.trans (bel.mono B4.out.size))
  have Z4 := Lib.hid B4.out.size
  have Z5 := Lib.hid D4.out.1
  clear bel
  refine hK _ _ (fun _ => S2) ?_
  refine early_take (i := 6) 4 (.pointer (some ⟨w4.heap.size, 0, none⟩)) rfl rfl (by kernel_rfl) (by kernel_rfl) (by kernel_rfl) (by kernel_rfl) rfl (fun _ _ _ h => h) (fun w' hw' => by go_simp) S2 ?_
  simp only [Act.put, List.setIfInBounds_toArray, List.set_cons_zero, List.set_cons_succ]
  refine early_take (i := 7) 5 (.int .i64 0) rfl rfl (by kernel_rfl) (by kernel_rfl) (by kernel_rfl) (by kernel_rfl) rfl (fun _ _ _ h => h) (fun w' hw' => by go_simp) S2 ?_
  simp only [Act.put, List.setIfInBounds_toArray, List.set_cons_zero, List.set_cons_succ]
  refine early_done (by kernel_rfl) ?_
  clear S0 S1 S2
  go_wp2
  go_ret2
  exact ⟨_, rfl, q, ⟨cap, A5.out⟩, D5.out, Z4.out, Q4.out, fun e => by have := Z5.out; omega, B5.out⟩
end Go.Proofs.YtplmdmchkaacoaaGreat
