/-
  THE WALK OF Same.
-/
import Derived.Test.YtapbphkhbhcdkaaChunk
namespace Go.Proofs.Ytapbphkhbhcdkaa
open Go.RowKit Go.Maps
set_option linter.unusedVariables false
set_option maxRecDepth 100000

section
variable {w w' : World} {P : Pl} {O : Nat → Prop} {s : AS}

/-- What reading what all members have comes to. -/
inductive SameAs (w w' : World) (s s' : AS) (i : Int) : Value → Int → Prop
  | got (v : Value) (m : Nat) (hm : (m = 0 ∧ s'.stale = s.stale ∧ s.stale ≠ 0) ∨ (m = 1 ∧ s'.stale = 0)) (hr : Rel (fun _ => Aged) 4 s s') (hv : NewRow w w' v ((s.d m).read i)) (hl : (s'.d m).dead = false) : SameAs w w' s s' i v 0
  | gone (hg : Gone 4 s s') : SameAs w w' s s' i (.slice none 0 0) 3

set_option maxHeartbeats 1600000 in
theorem Same_any (i : Int) (hi : 0 ≤ i ∧ i < (s.S : Int)) (h : Arr w P O s) (hu : s.u ≤ 700000) :
    Calls Try.prog 22 #[.pointer (some ⟨P.a, 0, none⟩), .int .i64 i] w fun e w' => ∃ v er s', e = .returned (.tuple #[v, .int .i64 er]) ∧ Arr w' P O s' ∧ But O w w' ∧ SameAs w w' s s' i v er := by
  have HA := Lib.hid h
  have hM := h.many
  have HI := Lib.hid hi
  have t1 : decide (0 ≤ i ∧ i < (s.S : Int)) = true := decide_eq_true hi
  obtain ⟨c0, c1, c2, c3, c4, c5⟩ := h.shape
  clear h hi
  go_enter Try.func22, Try.ntmps22
  go_wp2_with fail
  refine (sectors_call HA.out.wf w).mono ?_
  rintro e w1 ⟨rfl, hb⟩
  have A1 := Lib.hid (HA.out.up hb)
  have B1 := Lib.hid (But.of_below (S := O) hb)
  clear hb c0 c1 c2 c3 c4 c5
  go_wp2_with fail
  refine (inside_any i (s.S : Int) w1).mono ?_
  rintro e w1 ⟨rfl, rfl⟩
  rw [t1]
  clear t1
  obtain ⟨c6, c7, c8⟩ := A1.out.cells
  clear c7 c8
  go_wp2_with fail
  go_loopw [22] (fun q wr => ∃ j : Nat, q = .int .i64 (j : Int) ∧ ∃ s', Arr wr P O s' ∧ But O w wr ∧ ((j = 0 ∧ s' = s) ∨ (j = 1 ∧ s'.stale = 0 ∧ Rel (fun _ => Aged) 2 s s'))) (fun q _ => s.M - (RowKit.intOf q).toNat)
  case atStart => exact ⟨0, rfl, s, A1.out, B1.out, .inl ⟨rfl, rfl⟩⟩
  case round =>
    obtain ⟨j, rfl, s', k1, k2, k3⟩ := hrel
    have A2 := Lib.hid k1
    have B2 := Lib.hid k2
    have K2 := Lib.hid k3
    clear k1 k2 c6
    have hj : j < s.M := by rcases k3 with ⟨e, _⟩ | ⟨e, _⟩ <;> omega
    have SM := Lib.hid (show s'.M = s.M ∧ s'.S = s.S ∧ s'.u ≤ s.u + 2 by
      rcases k3 with ⟨_, e⟩ | ⟨_, _, e⟩
      · subst e; exact ⟨rfl, rfl, by omega⟩
      · exact ⟨e.same.M, e.same.S, e.u.2⟩)
    clear k3
    go_wp2_with fail
    refine (read_any j (by rw [SM.out.1]; exact hj) i (by rw [SM.out.2.1]; exact HI.out) A2.out (by have := SM.out.2.2; omega)).mono ?_
    rintro e w4 ⟨v, er, s1, rfl, k1, k2, k3⟩
    have A4 := Lib.hid k1
    have B4 := Lib.hid (B2.out.trans k2 (fun _ h _ => h))
    have R4 := Lib.hid k3
    have Z2 := Lib.hid B2.out.size
    clear k1 k2 k3
    have R5 := R4.out
    cases R5 with
    | got v hr hs hst hv hl =>
      have X := Lib.hid (show SameAs w w4 s s1 i v 0 by
        have hv' := own_base hv (fun q hq => Nat.le_trans Z2.out (hv.lt q hq).1)
        rcases K2.out with ⟨rfl, rfl⟩ | ⟨rfl, e1, e2⟩
        · exact .got v 0 (.inl ⟨rfl, hst, hs⟩) (hr.mono (fun _ _ _ _ h => h) (by omega)) hv' hl
        · rw [(e2.disk 1 (by omega)).read] at hv'
          exact .got v 1 (.inr ⟨rfl, hst.trans e1⟩) ((e2.aged2 hr).mono (fun _ _ _ _ h => h) (by omega)) hv' hl)
      clear R4 hr hs hst hv hl
      go_wp2
      go_ret2
      exact ⟨_, _, s1, rfl, A4.out, B4.out, X.out⟩
    | lost hr hs =>
      have J := Lib.hid (show j = 0 ∧ s' = s ∧ Rel (fun _ => Aged) 2 s s1 by
        rcases K2.out with ⟨rfl, rfl⟩ | ⟨rfl, e1, e2⟩
        · exact ⟨rfl, rfl, hr⟩
        · exfalso
          rcases hr.stale with e | ⟨e, _⟩
          · rw [hs, e1] at e; simp at e
          · omega)
      have S6 := Lib.hid hs
      clear R4 hr hs
      go_wp2
      go_roundw
      case rel => exact ⟨1, by have := J.out.1; subst this; go_num, s1, A4.out, B4.out, .inr ⟨rfl, by have h1 := S6.out; rw [J.out.1] at h1; exact h1, J.out.2.2⟩⟩
      case measure => simp [RowKit.intOf]; omega
    | gone hg =>
      have X := Lib.hid (show SameAs w w4 s s1 i (.slice none 0 0) 3 by
        rcases K2.out with ⟨rfl, rfl⟩ | ⟨rfl, e1, e2⟩
        · exact .gone (hg.mono (by omega))
        · exact .gone ((e2.gone hg).mono (by omega)))
      clear R4 hg
      go_wp2
      go_ret2
      exact ⟨_, _, s1, rfl, A4.out, B4.out, X.out⟩
end
end Go.Proofs.Ytapbphkhbhcdkaa
