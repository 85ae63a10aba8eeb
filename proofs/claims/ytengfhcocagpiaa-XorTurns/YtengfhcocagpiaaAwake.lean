/-
  THE WALK OF Awake: chapter 6's example.
-/
import Derived.Test.YtengfhcocagpiaaWalkD
namespace Go.Proofs.Ytengfhcocagpiaa
open Go.RowKit Go.Sort
set_option linter.unusedVariables false
set_option maxRecDepth 100000

def exa (B : Nat) : List Sl := [⟨some ⟨B, 0, none⟩, 2, 2, [1#8, 2#8]⟩, ⟨some ⟨B + 1, 0, none⟩, 1, 1, [3#8]⟩]
theorem exa_mx (B : Nat) : mx (exa B) = 2 := rfl
theorem exa_par (B : Nat) : tab 2 (par (exa B)) = [2#8, 2#8] := by
  simp [tab, List.range, List.range.loop, par, exa, Sl.at_]
theorem two_has {w : World} {g : Nat} (a b : BitVec 8) (h : At w g #[val a, val b] 5) : Has w (some ⟨g, 0, none⟩) 2 [a, b] :=
  Has.of_block h rfl (fun k hk => by
    match k, hk with
    | 0, _ => rfl
    | 1, _ => rfl)
theorem one_has {w : World} {g : Nat} (a : BitVec 8) (h : At w g #[val a] 5) : Has w (some ⟨g, 0, none⟩) 1 [a] :=
  Has.of_block h rfl (fun k hk => by
    match k, hk with
    | 0, _ => rfl)
theorem exa_ln (w : World) (B : Nat) (hB : w.heap.size = B) : Ln (((w.alloc (.cells #[.int .u8 1, .int .u8 2] 5)).alloc (.cells #[.int .u8 3] 5)).alloc (.cells #[.slice (some ⟨B, 0, none⟩) 2 2, .slice (some ⟨B + 1, 0, none⟩) 1 1] 25)) (some ⟨B + 2, 0, none⟩) 2 (exa B) := by
  have a0 := ((At.new (w := w) (g := B) #[.int .u8 1, .int .u8 2] 5 hB).alloc (.cells #[.int .u8 3] 5)).alloc (.cells #[.slice (some ⟨B, 0, none⟩) 2 2, .slice (some ⟨B + 1, 0, none⟩) 1 1] 25)
  have a1 := (At.new (w := w.alloc (.cells #[.int .u8 1, .int .u8 2] 5)) (g := B + 1) #[.int .u8 3] 5 (by simp [hB])).alloc (.cells #[.slice (some ⟨B, 0, none⟩) 2 2, .slice (some ⟨B + 1, 0, none⟩) 1 1] 25)
  have a2 := At.new (w := (w.alloc (.cells #[.int .u8 1, .int .u8 2] 5)).alloc (.cells #[.int .u8 3] 5)) (g := B + 2) #[.slice (some ⟨B, 0, none⟩) 2 2, .slice (some ⟨B + 1, 0, none⟩) 1 1] 25 (by simp [hB])
  refine ⟨⟨rfl, fun _ => ⟨B + 2, 0, rfl, a2.lt, fun k hk => ?_⟩⟩, fun x hx => ?_, fun x hx => ?_, by omega⟩
  · rw [a2.cell]
    match k, hk with
    | 0, _ => rfl
    | 1, _ => rfl
  · simp only [exa, List.mem_cons, List.not_mem_nil, or_false] at hx
    rcases hx with rfl | rfl
    · exact two_has 1#8 2#8 a0
    · exact one_has 3#8 a1
  · simp only [exa, List.mem_cons, List.not_mem_nil, or_false] at hx
    rcases hx with rfl | rfl
    · show 2 ≤ _; omega
    · show 1 ≤ _; omega
theorem nil_ln (w : World) : Ln w none 0 [] := ⟨⟨rfl, fun h => absurd h (by omega)⟩, fun x hx => (by cases hx), fun x hx => (by cases hx), by omega⟩
theorem below_drewN {B : Nat} {a w : World} (h : Below B a w) (n : Nat) : Below B a (w.drewN n) := ⟨h.os, h.tape, h.output, h.size, h.block⟩

theorem awake_any (w : World) : Calls Try.prog 8 #[] w fun e w' => e = .returned (.bool true) ∧ Below w.heap.size w w' := by
  generalize hB : w.heap.size = B
  have LN := Lib.hid (exa_ln w B hB)
  go_enter Try.func8, Try.ntmps8
  go_wp2_with fail
  have B0 := Lib.hid (show Below B w _ from (((Below.refl B w).alloc (by omega) (.cells #[.int .u8 1, .int .u8 2] 5)).alloc (by simp; omega) (.cells #[.int .u8 3] 5)).alloc (by simp; omega) (.cells #[.slice (some ⟨B, 0, none⟩) 2 2, .slice (some ⟨B + 1, 0, none⟩) 1 1] 25))
  generalize hW : ((w.alloc (.cells #[.int .u8 1, .int .u8 2] 5)).alloc (.cells #[.int .u8 3] 5)).alloc (.cells #[.slice (some ⟨B, 0, none⟩) 2 2, .slice (some ⟨B + 1, 0, none⟩) 1 1] 25) = W at *
  clear hW
  refine (of_any _ 2 2 (exa B) W LN.out).mono ?_
  rintro e w1 ⟨rfl, hA, hb⟩
  have AT := Lib.hid (show Has w1 _ 2 [2#8, 2#8] from by rw [← exa_par B]; exact Has.of_at hA)
  have B1 := Lib.hid (B0.out.trans (hb.mono (up B0.out hB.symm)))
  clear hA hb LN B0
  simp only [exa_mx]
  go_wp2_with fail
  have AT := Lib.hid (AT.out.below ((Below.refl _ _).alloc (Nat.le_refl _) (.cells #[.int .u8 2, .int .u8 2] 5)))
  have C2 := Lib.hid (two_has 2#8 2#8 (At.new (w := w1) (g := w1.heap.size) #[.int .u8 2, .int .u8 2] 5 rfl))
  have B2 := Lib.hid (B1.out.alloc (up B1.out hB.symm) (.cells #[.int .u8 2, .int .u8 2] 5))
  refine (equal_any _ _ 2 2 2 2 [2#8, 2#8] [2#8, 2#8] _ (by omega) (by omega) AT.out C2.out).mono ?_
  rintro e w2 ⟨rfl, m2, rfl⟩
  rw [show decide ([2#8, 2#8] = [2#8, 2#8]) = true by decide]
  have B2 := Lib.hid (below_drewN B2.out m2)
  clear AT C2 B1
  generalize (w1.alloc (.cells #[.int .u8 2, .int .u8 2] 5)).drewN m2 = w2 at *
  go_wp2_with fail
  refine (of_any none 0 0 [] w2 (nil_ln w2)).mono ?_
  rintro e w3 ⟨rfl, hA, hb⟩
  have B3 := Lib.hid (B2.out.trans (hb.mono (up B2.out hB.symm)))
  clear hA hb
  rw [show mx [] = 0 from rfl]
  go_wp2
  go_ret
  exact ⟨rfl, B3.out⟩

end Go.Proofs.Ytengfhcocagpiaa
