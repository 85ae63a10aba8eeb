/-
  Mend, Replace AND Finish WHERE THE ARRAY IS BROKEN, or all are current.
-/
import Derived.Test.YtapbphkhbhcdkaaBegin
namespace Go.Proofs.Ytapbphkhbhcdkaa
open Go.RowKit Go.Maps
set_option linter.unusedVariables false
set_option maxRecDepth 100000

section
variable {w w' : World} {P : Pl} {O : Nat → Prop} {s : AS}
/-- What mendable answers. -/
def AS.can (s : AS) : Int := if s.broken = true then 3 else if s.stale = -1 then 10 else 0
theorem Mend_not (t : Int) (ht : 0 ≤ t ∧ t < s.N) (h : Arr w P O s) (hc : s.can ≠ 0) : Calls Try.prog 24 #[ptr P.a, .int .i64 t] w fun e w' => e = .returned (.int .i64 s.can) ∧ Below w.heap.size w w' := by
  have HA := Lib.hid h
  have HC := Lib.hid hc
  have t1 : decide (0 ≤ t ∧ t < s.N) = true := decide_eq_true ht
  obtain ⟨c0, c1, c2, c3, c4, c5⟩ := h.shape
  clear h hc ht
  go_enter Try.func24, Try.ntmps24
  go_wp2_with fail
  refine (all_call HA.out.wf w).mono ?_
  rintro e w1 ⟨rfl, hbl⟩
  have A1 := Lib.hid (HA.out.up hbl)
  have B1 := Lib.hid hbl
  clear hbl c0 c1 c2 c3 c4 c5
  go_wp2_with fail
  refine (inside_any t s.N w1).mono ?_
  rintro e w2 ⟨rfl, rfl⟩
  rw [t1]
  clear t1
  go_wp2_with fail
  refine (mendable_any A1.out).mono ?_
  rintro e w3 ⟨rfl, hbl⟩
  have B3 := Lib.hid (B1.out.trans (hbl.mono B1.out.size))
  have hc2 := HC.out
  have CE := Lib.hid (show (if s.broken = true then (3 : Int) else if s.stale = -1 then 10 else 0) = s.can from rfl)
  rw [CE.out]
  obtain ⟨x, hx⟩ : ∃ x, s.can = x := ⟨_, rfl⟩
  have HX := Lib.hid hx
  rw [hx] at hc2 ⊢
  clear hbl HC CE hx
  go_wp2
  go_ret
  exact ⟨by rw [HX.out]; rfl, B3.out⟩
theorem Replace_broken (m : Int) (h : Arr w P O s) (hb : s.broken = true) : Calls Try.prog 25 #[ptr P.a, .int .i64 m] w fun e w' => e = .returned (.int .i64 3) ∧ w' = w := by
  obtain ⟨c6, c7, c8⟩ := h.cells
  rw [hb] at c8
  clear h c6 c7
  go_enter Try.func25, Try.ntmps25
  go_wp2
  go_ret
  exact ⟨rfl, rfl⟩
theorem Finish_not (A : Option Addr) (n c : Nat) (l : Bytes) (hn : (n : Int) = s.b) (hl : Has w A n l) (h : Arr w P O s) (hc : s.can ≠ 0) : Calls Try.prog 29 #[ptr P.a, .slice A n c] w fun e w' => e = .returned (.int .i64 s.can) ∧ Below w.heap.size w w' := by
  have HA := Lib.hid h
  have HC := Lib.hid hc
  have HL := Lib.hid hl
  have HN := Lib.hid hn
  clear h hc hl hn
  go_enter Try.func29, Try.ntmps29
  go_wp2_with fail
  have L1 := Lib.hid (show Ln (w.alloc (.cells #[.slice A n c] 46)) (some ⟨w.heap.size, 0, none⟩) 1 [⟨A, n, c, l⟩] from
    ⟨⟨rfl, fun _ => ⟨w.heap.size, 0, rfl, by simp, fun k hk => by
      have hk0 : k = 0 := by simpa using hk
      subst hk0
      exact (At.new #[.slice A n c] 46 rfl).cell 0⟩⟩, fun x hx => by simp at hx; subst hx; exact HL.out.below ((Below.refl _ _).alloc (Nat.le_refl _) _), fun x hx => by simp at hx; subst hx; have := HN.out; have := HA.out.wf.small.hb; show n ≤ 140737488355328; omega, by decide⟩)
  have A1 := Lib.hid (HA.out.alloc (.cells #[.slice A n c] 46))
  have B1 := Lib.hid ((Below.refl w.heap.size w).alloc (Nat.le_refl _) (.cells #[.slice A n c] 46))
  refine (blocks_any (some ⟨w.heap.size, 0, none⟩) 1 1 _ A1.out L1.out).mono ?_
  rintro e w1 ⟨rfl, hbl⟩
  have A2 := Lib.hid (A1.out.up hbl)
  have B2 := Lib.hid (B1.out.trans (hbl.mono B1.out.size))
  rw [decide_eq_true (show Fits [⟨A, n, c, l⟩] s.b from fun x hx => by simp at hx; subst hx; exact HN.out)]
  clear hbl
  go_wp2_with fail
  refine (mendable_any A2.out).mono ?_
  rintro e w3 ⟨rfl, hbl⟩
  have B3 := Lib.hid (B2.out.trans (hbl.mono B2.out.size))
  have hc2 := HC.out
  have CE := Lib.hid (show (if s.broken = true then (3 : Int) else if s.stale = -1 then 10 else 0) = s.can from rfl)
  rw [CE.out]
  obtain ⟨x, hx⟩ : ∃ x, s.can = x := ⟨_, rfl⟩
  have HX := Lib.hid hx
  rw [hx] at hc2 ⊢
  clear hbl HC CE hx
  go_wp2
  go_ret
  exact ⟨by rw [HX.out]; rfl, B3.out⟩
end
end Go.Proofs.Ytapbphkhbhcdkaa
