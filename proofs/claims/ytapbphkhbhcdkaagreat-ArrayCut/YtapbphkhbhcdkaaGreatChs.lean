/-
  THE WALK OF THE LAW'S Chunks.
-/
import Derived.Test.YtapbphkhbhcdkaaGreatRep
import Derived.Test.YtapbphkhbhcdkaaGreatColl
namespace Go.Proofs.YtapbphkhbhcdkaaGreat
open Go.RowKit Go.Maps
set_option linter.unusedVariables false
set_option maxRecDepth 100000

theorem own_below {w w' : World} {base n : Nat} {e : TypeId} {size : Nat} {v : Value} {xs : List Value} (h : w.ownsRow base e size v n xs) (hb : Below w.heap.size w w') : w'.ownsRow base e size v n xs :=
  own_but (S := fun _ => False) h (But.of_below hb) (fun _ _ h => h)
/-- The bytes of a stripe's chunk. -/
def chunkB (nb : Nat) (f : BitVec 8) (k : Nat) : Bytes := List.replicate nb (fillAt f k)

set_option maxHeartbeats 1600000 in
theorem Chunks_any (M : Nat) (b g s n l : Int) (nb : Nat) (hb : b = (nb : Int)) (h48 : 32 ≤ nb ∧ nb ≤ 48) (hM : 3 ≤ M ∧ M ≤ 5) (f : BitVec 8) (F : Int) (hF : F = (f.toNat : Int)) (w : World) : Calls Tryz.prog 13 #[sv (M : Int) b g s n l, .int .u8 F] w fun e w' =>
    ∃ v L, e = .returned v ∧ Cl w' w.heap.size v L ∧ L.length = M - 1 ∧ L.map Sl.l = (List.range (M - 1)).map (chunkB nb f) ∧ (∀ x ∈ L, x.n = nb) ∧ Below w.heap.size w w' := by
  have E := Lib.hid hb
  subst hF
  obtain ⟨W, hW⟩ : ∃ W, W = w.alloc (.cells #[.int .i64 (M : Int), .int .i64 b, .int .i64 g, .int .i64 s, .int .i64 n, .int .i64 l] 33) := ⟨_, rfl⟩
  have at0 : At W w.heap.size #[.int .i64 (M : Int), .int .i64 b, .int .i64 g, .int .i64 s, .int .i64 n, .int .i64 l] 33 := by rw [hW]; exact At.new _ 33 rfl
  have A0 := Lib.hid at0
  have bel : Below w.heap.size w W := by rw [hW]; exact (Below.refl _ _).alloc (Nat.le_refl _) _
  have B0 := Lib.hid bel
  have Z0 := Lib.hid (show W.heap.size = w.heap.size + 1 by rw [hW]; simp)
  have HW := Lib.hid hW
  clear hb at0 bel hW
  generalize hN : M - 1 = N
  have NM := Lib.hid (show (M : Int) - 1 = (N : Int) by omega)
  have n4 : N ≤ 4 := by omega
  clear hN
  unfold sv
  go_enter Tryz.func13, Tryz.ntmps13
  go_wp2_with fail
  rw [← HW.out]
  rw [NM.out]
  go_loopw [5, 10] (fun v q wr => ∃ (j : Nat) (L : List Sl), q = .int .i64 (j : Int) ∧ j ≤ N ∧ L.length = j ∧ Below W.heap.size W wr ∧ Cl wr W.heap.size v L ∧ L.map Sl.l = (List.range j).map (chunkB nb f) ∧ ∀ x ∈ L, x.n = nb) (fun _ q _ => N - (RowKit.intOf q).toNat)
  case atStart => exact ⟨0, [], rfl, Nat.zero_le _, rfl, Below.refl _ _, Cl.nil _ _, rfl, fun x hx => by cases hx⟩
  case round =>
    obtain ⟨j, L, rfl, hj, hl, k1, k2, k3, k4⟩ := hrel
    have B1 := Lib.hid k1
    have C1 := Lib.hid k2
    have M1 := Lib.hid k3
    have N1 := Lib.hid k4
    have L1 := Lib.hid hl
    clear k1 k2 k3 k4 hl
    by_cases hlt : j < N
    · have A1 := A0.out.below B1.out (by have := Z0.out; omega)
      have d0 := A1.cell 0
      have d1 := A1.cell 1
      have d2 := A1.cell 2
      have d3 := A1.cell 3
      have d4 := A1.cell 4
      have d5 := A1.cell 5
      clear A1
      go_wp2_with fail
      refine (Block_any (M : Int) b g s n l nb E.out h48 (fillAt f j) _ (fill_at f j) wr).mono ?_
      rintro e w2 ⟨B, rfl, hown, hb⟩
      obtain ⟨hh, _, ha⟩ := own_slice hown
      have H2 := Lib.hid hh
      have HQ := Lib.hid ha
      have X2 := Lib.hid hb
      have bel : Below w2.heap.size w2 (w2.alloc (.cells #[.slice (some ⟨B, 0, none⟩) nb nb] 55)) := (Below.refl _ _).alloc (Nat.le_refl _) _
      have BL := Lib.hid bel
      have sz := Lib.hid (Nat.le_trans B1.out.size hb.size)
      have OW := Lib.hid (own_below (own_below C1.out.own hb) bel)
      clear hown hb hh ha bel d0 d1 d2 d3 d4 d5
      go_wp2_with (at_builtin; refine wpList_append_ln rfl (.tmp 13) (.tmp 21) rfl W.heap.size u5 L.length L rfl OW.out ⟨w2.heap.size, 0, none⟩ 1 1 [⟨some ⟨B, 0, none⟩, nb, nb, chunkB nb f j⟩] rfl (one_row ⟨some ⟨B, 0, none⟩, nb, nb, chunkB nb f j⟩ (At.new #[.slice (some ⟨B, 0, none⟩) nb nb] 55 rfl)) (by have := L1.out; omega) (by have := sz.out; simp; omega) ?_; intro A3 c3 w3 hown3 hg3 hf3; have C3 := Lib.hid (C1.out.push (S := fun _ => False) (w1 := w2.alloc (.cells #[.slice (some ⟨B, 0, none⟩) nb nb] 55)) (x := ⟨some ⟨B, 0, none⟩, nb, nb, chunkB nb f j⟩) ((But.of_below X2.out).trans (But.of_below (S := fun _ => False) BL.out) (fun _ h _ => h)) (fun _ _ h => h) B1.out.size (H2.out.below BL.out) (by show nb ≤ 48; omega) (fun a ha => by have := HQ.out a ha; simp; omega) hown3 hg3 hf3); have B3 := Lib.hid (show Below W.heap.size W w3 from ((B1.out.trans (X2.out.mono B1.out.size)).trans (BL.out.mono sz.out)).grown hg3 (by have := sz.out; simp; omega) (fun k hk => (C1.out.own.lt k hk).1)); clear hown3 hg3 hf3)
      go_roundw
      case rel =>
        refine ⟨j + 1, L ++ [⟨some ⟨B, 0, none⟩, nb, nb, chunkB nb f j⟩], by go_num, by omega, by simp [L1.out], B3.out, C3.out, ?_, ?_⟩
        · rw [List.map_append, M1.out, List.range_succ, List.map_append]; rfl
        · intro x hx
          rcases List.mem_append.1 hx with h | h
          · exact N1.out x h
          · simp at h; subst h; rfl
      case measure => simp [RowKit.intOf]; omega
    · obtain rfl : j = N := by omega
      go_wp2
      go_ret
      have sz1 := B0.out.size
      refine ⟨_, L, rfl, ⟨own_base C1.out.own (fun k hk => Nat.le_trans sz1 (C1.out.own.lt k hk).1), C1.out.has, C1.out.len, fun x hx a ha => ?_⟩, L1.out, M1.out, N1.out, B0.out.trans (B1.out.mono sz1)⟩
      obtain ⟨q1, q2, q3⟩ := C1.out.off x hx a ha
      exact ⟨q1, by omega, q3⟩
end Go.Proofs.YtapbphkhbhcdkaaGreat
