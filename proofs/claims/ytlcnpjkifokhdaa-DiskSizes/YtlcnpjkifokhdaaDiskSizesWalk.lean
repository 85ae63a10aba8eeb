/-
  THE WALK OF DiskSizes.
-/
import Derived.Test.YtlcnpjkifokhdaaAwake
namespace Go.Proofs.Ytlcnpjkifokhdaa
open Go.RowKit Go.Maps Go.Shelf
set_option linter.unusedVariables false
set_option maxRecDepth 100000

set_option maxHeartbeats 1600000 in
theorem diskSizes_walk (x y a : Int) (w : World) (hx : -128 ≤ x ∧ x ≤ 127) (hy : -128 ≤ y ∧ y ≤ 127) : Calls Try.prog 6 #[.int .i8 x, .int .i8 y, .int .i64 a] w fun e w' => e = .returned (.bool true) ∧ Below w.heap.size w w' := by
  obtain ⟨S, hS⟩ : ∃ S : Nat, max x 0 = (S : Int) := ⟨(max x 0).toNat, by omega⟩
  obtain ⟨z, hz⟩ : ∃ z : Nat, max y 0 = (z : Int) := ⟨(max y 0).toNat, by omega⟩
  have m1 := fun (w : World) => run_max2 (P := Try.prog) w #[3, 3] 3 x 0 S hS.symm
  have m2 := fun (w : World) => run_max2 (P := Try.prog) w #[3, 3] 3 y 0 z hz.symm
  have hsm : S ≤ 1000000000 ∧ z ≤ 1000000 := by omega
  have HS := Lib.hid hS
  have HZ := Lib.hid hz
  clear hS hz
  have cx : IntKind.i64.wrap x = x := IntWalk.i64_in _ (by omega)
  have cy : IntKind.i64.wrap y = y := IntWalk.i64_in _ (by omega)
  go_enter Try.func6, Try.ntmps6
  go_wp2_with fail
  refine (awake_any w).mono ?_
  rintro e w0 ⟨rfl, hb0⟩
  have B0 := Lib.hid hb0
  clear hb0
  go_wp2_with fail
  refine (new_any (-1) w0).mono ?_
  rintro e w1 ⟨rfl, hw1⟩
  have W1 := Lib.hid hw1
  have hlt1 : w0.heap.size < w1.heap.size := by rw [hw1]; simp
  clear hw1
  go_wp2_with fail
  refine (new_disk w0.heap.size x y S z w1 hlt1 HS.out HZ.out hsm).mono ?_
  rintro e w2 ⟨g, T, rfl, hd, hT, hb⟩
  have Y2 := Lib.hid (Sys.start W1.out hd hT hb)
  clear hd hT hb hlt1
  by_cases hh : (blank S z).has a
  · have h0 : 0 ≤ a := hh.1
    have h1 : a < (S : Int) := hh.2
    go_wp2_with fail
    refine (read_live a 0 (-1) (List.replicate z 0#8) z rfl (by simp) hh rfl (by show (-1 : Int) < 0; decide) Y2.out.dk Y2.out.pw (by decide) (by decide) (by decide)).mono ?_
    rintro e w3 ⟨A3, c3, rfl, hr, hd, hp, hb⟩
    have Y3 := Lib.hid (Y2.out.keep hd hp hb)
    clear hr hd hp hb
    go_wp2_with fail
    refine (sectors_any Y3.out.dk).mono ?_
    rintro e w4 ⟨rfl, rfl⟩
    have hsec : (blank S z).sectors = S := rfl
    rw [hsec]
    go_wp2
    go_ret
    exact ⟨rfl, B0.out.trans (Y3.out.below.mono B0.out.size)⟩
  · have hor : a < 0 ∨ (S : Int) ≤ a := by
      rcases Int.lt_or_le a 0 with h | h
      · exact .inl h
      · exact .inr (Int.not_lt.1 (fun h' => hh ⟨h, h'⟩))
    go_wp2_with fail
    refine (read_arg a hh Y2.out.dk).mono ?_
    rintro e w3 ⟨rfl, rfl⟩
    go_wp2_with fail
    refine (sectors_any Y2.out.dk).mono ?_
    rintro e w4 ⟨rfl, rfl⟩
    have hsec : (blank S z).sectors = S := rfl
    rw [hsec]
    rcases hor with h | h
    · go_wp2
      go_ret
      exact ⟨rfl, B0.out.trans (Y2.out.below.mono B0.out.size)⟩
    · by_cases h0 : a < 0
      · go_wp2
        go_ret
        exact ⟨rfl, B0.out.trans (Y2.out.below.mono B0.out.size)⟩
      · go_wp2
        go_ret
        exact ⟨rfl, B0.out.trans (Y2.out.below.mono B0.out.size)⟩

end Go.Proofs.Ytlcnpjkifokhdaa
