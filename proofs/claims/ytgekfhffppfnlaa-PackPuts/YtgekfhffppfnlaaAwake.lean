/-
  THE WALK OF Awake: chapter 2's example.
-/
import Derived.Test.YtgekfhffppfnlaaWalkD
namespace Go.Proofs.Ytgekfhffppfnlaa
open Go.RowKit
set_option linter.unusedVariables false

theorem wr_new (w : World) : Wr (w.alloc (.cells #[.slice none 0 0] 26)) w.heap.size (.slice none 0 0) [] :=
  ⟨heap_alloc_new _ _, World.ownsRow_nil _ _ _ _, by simp [Value.ownBlock]⟩
theorem two_has {w : World} {B : Nat} (h : w.heap[B]? = some (.cells #[.int .u8 2, .int .u8 1] 5 (0, 0))) : Has w (some ⟨B, 0, none⟩) 2 [2#8, 1#8] :=
  Has.of_block h rfl (fun k hk => by
    match k, hk with
    | 0, _ => rfl
    | 1, _ => rfl)
theorem foot_nil {w : World} {g k : Nat} (h : foot g (.slice none 0 0) k) : k = g := by
  rcases h with h | h
  · exact h
  · simp [Value.ownBlock] at h

theorem two_new (w : World) {B : Nat} (hB : w.heap.size = B) : Has (w.alloc (.cells #[.int .u8 2, .int .u8 1] 5)) (some ⟨B, 0, none⟩) 2 [2#8, 1#8] := by
  subst hB
  exact two_has (heap_alloc_new _ _)
theorem Rd.below {w w' : World} {g : Nat} {A : Option Addr} {n c : Nat} {l : List (BitVec 8)} {f : Bool} (h : Rd w g A n c l f) (hb : Below w.heap.size w w') : Rd w' g A n c l f :=
  h.but (S := fun _ => False) (But.of_below hb) (fun h => h) (fun _ _ h => h)
theorem Rd.drewN {w : World} {g : Nat} {A : Option Addr} {n c : Nat} {l : List (BitVec 8)} {f : Bool} (h : Rd w g A n c l f) (k : Nat) : Rd (w.drewN k) g A n c l f := ⟨h.at_, h.has.drewN k, h.off, h.cap, h.nil⟩
theorem below_drewN {B : Nat} {a w : World} (h : Below B a w) (n : Nat) : Below B a (w.drewN n) := ⟨h.os, h.tape, h.output, h.size, h.block⟩
theorem Wr.alloc {w : World} {g : Nat} {v : Value} {l : List (BitVec 8)} (h : Wr w g v l) (o : Obj) : Wr (w.alloc o) g v l :=
  h.but (S := fun _ => False) ((But.refl _ _).alloc o) (fun h => h) (fun _ _ h => h)
theorem Wr.below {w w' : World} {g : Nat} {v : Value} {l : List (BitVec 8)} (h : Wr w g v l) (hb : Below w.heap.size w w') : Wr w' g v l :=
  h.but (S := fun _ => False) (But.of_below hb) (fun h => h) (fun _ _ h => h)

set_option maxHeartbeats 800000 in
theorem awake_any (w : World) : Calls Try.prog 7 #[] w fun e w' => e = .returned (.bool true) ∧ Below w.heap.size w w' := by
  go_enter Try.func7, Try.ntmps7
  go_wp2_with fail
  have hw1 := Lib.hid ((wr_new w).alloc (.cells #[.int .u8 2, .int .u8 1] 5))
  have hb1 := Lib.hid (((Below.refl w.heap.size w).alloc (Nat.le_refl _) (.cells #[.slice none 0 0] 26)).alloc (by simp) (.cells #[.int .u8 2, .int .u8 1] 5))
  refine (read_any _ _ _ [2#8, 1#8] _ (by omega) (two_new _ (by simp))).mono ?_
  rintro e w2 ⟨gr, Ar, cr, rfl, hrd, hb2, hgr, hAr⟩
  have hw2 := hw1.out.below hb2
  have HB2 := Lib.hid (hb1.out.trans (hb2.mono (by simp; omega)))
  have hgr' : w.heap.size + 2 ≤ gr := by simpa using hgr
  have HA := Lib.hid (fun (x : Addr) (e : Ar = some x) => (show w.heap.size + 2 ≤ x.block by simpa using hAr x e))
  have HR := Lib.hid hrd
  clear hw1 hb1 hb2 hgr hAr hrd
  go_wp2_with fail
  refine (put_some w.heap.size (.slice none 0 0) [] 2 258 w2 (by omega) (by omega) (by omega) (by simp) hw2).mono ?_
  rintro e w3 ⟨rfl, v3, hw3, hb3, hf3⟩
  rw [show [] ++ low 258 2 = [2#8, 1#8] by decide] at hw3
  have HR3 := Lib.hid (HR.out.but hb3 (fun h => by have := foot_nil (w := w) h; omega) (fun x e h => by have := foot_nil (w := w) h; have := HA.out x e; omega))
  have HB3 := Lib.hid (HB2.out.trans (hb3.below (fun k h => by have := foot_nil (w := w) h; omega) HB2.out.size))
  have HW3 := Lib.hid hw3
  clear hw2 hw3 hb3 hf3 HB2 HR HA
  go_wp2_with fail
  refine (bytes_any w.heap.size v3 [2#8, 1#8] 0 0 2 w3 (by simp) (by omega) (by decide) HW3.out).mono ?_
  rintro e w4 ⟨v4, rfl, hown4, hb4⟩
  obtain ⟨A4, c4, rfl, _, _, _, hh4, _⟩ := own_slice hown4
  have HR4 := Lib.hid (HR3.out.below hb4)
  have HB4 := Lib.hid (HB3.out.trans (hb4.mono HB3.out.size))
  have HH4 := Lib.hid hh4
  clear hown4 hb4 hh4 HR3 HB3
  go_wp2_with fail
  refine (equal_any _ _ _ _ _ _ (pad [2#8, 1#8] 2) [2#8, 1#8] _ (by omega) (by omega) (HH4.out.below ((Below.refl _ _).alloc (Nat.le_refl _) _)) (two_new _ rfl)).mono ?_
  rintro e w5 ⟨rfl, m5, rfl⟩
  rw [show decide (pad [2#8, 1#8] 2 = [2#8, 1#8]) = true by decide]
  go_wp2_with fail
  refine (take_good gr Ar 2 cr [2#8, 1#8] false 2 2 _ (by omega) (by omega) (by omega) ((HR4.out.below ((Below.refl _ _).alloc (Nat.le_refl _) _)).drewN _)).mono ?_
  rintro e w6 ⟨rfl, ⟨A6, c6, hrd6⟩, hb6⟩
  have HB5 := Lib.hid (below_drewN (HB4.out.alloc HB4.out.size (.cells #[.int .u8 2, .int .u8 1] 5)) m5)
  have HB6 := Lib.hid (HB5.out.trans (hb6.below (B := w.heap.size) (fun k h => by omega) HB5.out.size))
  have HR6 := Lib.hid hrd6
  clear hrd6 hb6 HR4 HH4 HB4 HB5
  rw [show num (List.take 2 (List.take 2 [2#8, 1#8])) = 258 by decide]
  go_wp2_with fail
  refine (good_any gr A6 _ c6 _ false w6 HR6.out).mono ?_
  rintro e w7 ⟨rfl, rfl⟩
  go_wp2
  go_ret
  exact ⟨rfl, HB6.out⟩

end Go.Proofs.Ytgekfhffppfnlaa
