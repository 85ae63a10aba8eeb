/-
  THE WALKS OF blocks, AND OF slices.ContainsFunc AND slices.IndexFunc WITH ITS CLOSURE; New's with nobodyThere.
-/
import Derived.Test.YtapbphkhbhcdkaaGreatOps
import Derived.Test.YtapbphkhbhcdkaaGreatXorD
namespace Go.Proofs.YtapbphkhbhcdkaaGreat
open Go.RowKit Go.Maps
set_option linter.unusedVariables false
set_option maxRecDepth 100000

section
variable {w : World} {P : Pl} {O : Nat → Prop} {s : AS}

theorem isBlock (bx : Nat) (A : Option Addr) (n c : Nat) (h : Arr w P O s) (hbx : At w bx #[.pointer (some ⟨P.a, 0, none⟩)] 40) :
    Calls Tryz.prog 54 #[.slice A n c, .pointer (some ⟨bx, 0, none⟩)] w fun e w' => e = .returned (.bool (decide ((n : Int) ≠ s.b))) ∧ w' = w := by
  have cb := hbx.cell 0
  obtain ⟨c0, c1, c2, c3, c4, c5⟩ := h.shape
  clear h c0 c2 c3 c4 c5
  by_cases hn : (n : Int) = s.b
  · rw [decide_eq_false (fun h => h hn)]
    go_enter Tryz.func54, Tryz.ntmps54
    go_wp2
    go_ret
    exact ⟨by simp_all, rfl⟩
  · rw [decide_eq_true hn]
    go_enter Tryz.func54, Tryz.ntmps54
    go_wp2
    go_ret
    exact ⟨by simp_all, rfl⟩

/-- All of them are blocks. -/
def Fits (L : List Sl) (b : Int) : Prop := ∀ x ∈ L, (x.n : Int) = b
instance (L : List Sl) (b : Int) : Decidable (Fits L b) := inferInstanceAs (Decidable (∀ x ∈ L, (x.n : Int) = b))
theorem enters79 (A : Option Addr) (n c bx : Nat) (w : World) : (callFunc 54 #[.slice A n c, .pointer (some ⟨bx, 0, none⟩)]).run Tryz.prog w = .ok (.enter 54 #[.slice A n c, .pointer (some ⟨bx, 0, none⟩)]) w := by kernel_rfl

theorem findBlock (bx : Nat) (A : Option Addr) (n c : Nat) (L : List Sl) (h : Arr w P O s) (hL : Ln w A n L) (hbx : At w bx #[.pointer (some ⟨P.a, 0, none⟩)] 40) :
    Calls Tryz.prog 71 #[.slice A n c, .func (.func 54) #[] #[.pointer (some ⟨bx, 0, none⟩)]] w fun e w' => (∃ r : Int, e = .returned (.int .i64 r) ∧ (0 ≤ r ↔ ¬ Fits L s.b)) ∧ w' = w := by
  have HA := Lib.hid h
  have HL := Lib.hid hL
  have HB := Lib.hid hbx
  have hn := hL.few
  have hcf := enters79
  clear h hL hbx
  go_enter Tryz.func71, Tryz.ntmps71
  go_wp2_with fail
  go_loopw [8] (fun i wr => ∃ j : Nat, j ≤ n ∧ i = .int .i64 (j : Int) ∧ wr = w ∧ Fits (L.take j) s.b) (fun i _ => n - (RowKit.intOf i).toNat)
  case atStart => exact ⟨0, Nat.zero_le _, rfl, rfl, fun x hx => by simp at hx⟩
  case round =>
    obtain ⟨j, hj, rfl, rfl, hF⟩ := hrel
    have F1 := Lib.hid hF
    clear hF
    by_cases hlt : j < n
    · obtain ⟨hjl, b, off, rfl, hc, hh, hx⟩ := HL.out.one hlt
      clear hh
      go_wp2_with fail
      refine (isBlock bx L[j].A L[j].n L[j].c HA.out HB.out).mono ?_
      rintro e w' ⟨rfl, rfl⟩
      by_cases hd : (L[j].n : Int) = s.b
      · rw [decide_eq_false (fun h => h hd)]
        have F2 := Lib.hid (show Fits (L.take (j + 1)) s.b by
          intro x hx
          rw [List.take_succ_eq_append_getElem hjl] at hx
          rcases List.mem_append.1 hx with h | h
          · exact F1.out x h
          · simp at h; subst h; exact hd)
        go_wp2
        go_roundw
        case rel => exact ⟨j + 1, by omega, by go_num, trivial, F2.out⟩
        case measure => simp [RowKit.intOf]; omega
      · rw [decide_eq_true hd]
        have NF := Lib.hid (show ¬ Fits L s.b from fun h => hd (h _ (List.getElem_mem hjl)))
        clear hd
        go_wp2
        go_ret
        exact ⟨⟨_, rfl, ⟨fun _ => NF.out, fun _ => by omega⟩⟩, rfl⟩
    · obtain rfl : j = n := by omega
      have F2 := Lib.hid (show Fits L s.b by have := F1.out; rwa [HL.out.all] at this)
      go_wp2
      go_ret
      exact ⟨⟨_, rfl, ⟨fun h => absurd h (by decide), fun h => absurd F2.out h⟩⟩, rfl⟩

theorem blocks_any (A : Option Addr) (n c : Nat) (L : List Sl) (h : Arr w P O s) (hL : Ln w A n L) :
    Calls Tryz.prog 33 #[.pointer (some ⟨P.a, 0, none⟩), .slice A n c] w fun e w' => e = .returned (.bool (decide (Fits L s.b))) ∧ Below w.heap.size w w' := by
  have HA := Lib.hid (h.alloc (.cells #[.pointer (some ⟨P.a, 0, none⟩)] 40))
  have bel : Below w.heap.size w (w.alloc (.cells #[.pointer (some ⟨P.a, 0, none⟩)] 40)) := (Below.refl _ _).alloc (Nat.le_refl _) _
  have HL := Lib.hid (hL.below bel)
  have B1 := Lib.hid bel
  have hmf : ∀ (fn : Fn) (first cap : Array Value) (w : World), (Instr.makeFunc fn first cap).run Tryz.prog w = .ok (.func fn first cap) w := fun _ _ _ _ => rfl
  clear h hL bel
  go_enter Tryz.func33, Tryz.ntmps33
  go_wp2_with fail
  go_at_call 53
  refine (show Calls Tryz.prog 53 #[.slice A n c, .func (.func 54) #[] #[.pointer (some ⟨w.heap.size, 0, none⟩)]] (w.alloc (.cells #[.pointer (some ⟨P.a, 0, none⟩)] 40)) fun e w' => e = .returned (.bool (decide (¬ Fits L s.b))) ∧ w' = w.alloc (.cells #[.pointer (some ⟨P.a, 0, none⟩)] 40) from ?_).mono ?_
  · go_enter Tryz.func53, Tryz.ntmps53
    go_wp2_with fail
    refine (findBlock w.heap.size A n c L HA.out HL.out (At.new _ 40 rfl)).mono ?_
    rintro e w' ⟨⟨r, rfl, hr⟩, rfl⟩
    have HR := Lib.hid hr
    clear hr
    go_wp2
    go_ret
    refine ⟨?_, rfl⟩
    show Ending.returned (.bool (decide (0 ≤ r))) = _
    rw [decide_eq_decide.2 HR.out]
  · rintro e w' ⟨rfl, rfl⟩
    go_wp2
    go_ret
    exact ⟨rfl, B1.out⟩
end
end Go.Proofs.YtapbphkhbhcdkaaGreat
