/-
  THE WALK OF Batch.
-/
import Derived.Test.YtclbiidgggdniaaSView
import Derived.Deep.CutRange
import Derived.BigQuiet
namespace Go.Proofs.Ytclbiidgggdniaa
open Go.RowKit
set_option linter.unusedVariables false
set_option maxRecDepth 100000

theorem run_min2 {P : Program} (w : World) (ts : Array TypeId) (t : TypeId) (x y X : Int) (h : X = min x y) : (Builtin.min_ ts t #[.int .i64 x, .int .i64 y]).run P w = .ok (.int .i64 X) w := by
  have e : X = if y < x then y else x := by split <;> omega
  rw [e]
  simp [Builtin.min_, Builtin.min2]
theorem run_max2 {P : Program} (w : World) (ts : Array TypeId) (t : TypeId) (x y X : Int) (h : X = max x y) : (Builtin.max_ ts t #[.int .i64 x, .int .i64 y]).run P w = .ok (.int .i64 X) w := by
  have e : X = if x < y then y else x := by split <;> omega
  rw [e]
  simp [Builtin.max_, Builtin.max2]
/-- How many there are in a batch. -/
def many (most : Int) (n : Nat) : Nat := (min (max most 0) (n : Int)).toNat
theorem many_le (most : Int) (n : Nat) : many most n ≤ n := by unfold many; omega
theorem many_eq (most : Int) (n : Nat) : (many most n : Int) = min (max most 0) (n : Int) := by unfold many; omega
/-- What Batch answers. -/
def BatchAs (w : World) (L : List Rr) (most : Int) (e : Ending) (w' : World) : Prop :=
  ∃ (A : Option Addr) (c : Nat) (M : List Rc) (u : Nat), e = .returned (.tuple #[.slice A M.length c, .int .u64 (u : Int)]) ∧ Rs w' A M.length M ∧ M.map Rc.abs = (vw Rr.lba L).take (many most (vw Rr.lba L).length) ∧
    (∀ x ∈ M, 0 < x.n → ∀ a, x.A = some a → w.heap.size ≤ a.block) ∧ (M.length = 0 → u = 0) ∧ (0 < M.length → u = upTo Rr.lba Rr.seq L M.length) ∧ Below w.heap.size w w'
set_option maxHeartbeats 1600000 in
theorem batch_any (A : Option Addr) (n c : Nat) (L : List Rc) (most : Int) (w : World) (hn : n ≤ 1000) (h : Rs w A n L) : Calls Try.prog 14 #[.slice A n c, .int .i64 most] w (BatchAs w (L.map Rc.abs) most) := by
  have H := Lib.hid h
  have hmax := fun (w : World) => run_max2 (P := Try.prog) w #[3, 3] 3 most 0 (max most 0) rfl
  clear h
  go_enter Try.func14, Try.ntmps14
  go_wp2_with fail
  refine (view_any A n c L _ hn H.out).mono ?_
  rintro e w1 ⟨v, M, rfl, hR, hV, hN, hb⟩
  obtain ⟨A2, c2, rfl, hc1, hc2, hs, ha, hz⟩ := hR.form
  have hlen : (vw Rr.lba (L.map Rc.abs)).length = M.length := by rw [← hV]; simp
  have hM1 : M.length ≤ 1000 := by have := vw_len Rr.lba (L.map Rc.abs); rw [List.length_map, H.out.len] at this; omega
  have hmin := fun (w : World) => run_min2 (P := Try.prog) w #[3, 3] 3 (max most 0) M.length (many most M.length : Int) (many_eq most M.length)
  have HV := Lib.hid hV
  have HN := Lib.hid hN
  have HL := Lib.hid hlen
  have BB := Lib.hid hb
  have SS := Lib.hid hs
  have LE := Lib.hid (many_le most M.length)
  clear hR hV hN hlen hb hz ha
  generalize hq : many most M.length = q at *
  have HQ := Lib.hid hq
  clear hq
  rcases Nat.eq_zero_or_pos q with h0 | h0
  · subst h0
    clear hs
    generalize max most 0 = X at *
    go_wp2
    go_ret2
    exact ⟨none, 0, [], 0, rfl, Rs.nil _ _, by rw [HL.out, HQ.out]; rfl, fun x hx => (by cases hx), fun _ => rfl, fun h => absurd h (by simp), BB.out⟩
  · obtain ⟨p, rfl⟩ : ∃ p, q = p + 1 := ⟨q - 1, by omega⟩
    have hle := LE.out
    obtain ⟨g, off, rfl, hgl, hl, x, hx, ox, q0, q1, q2, q3⟩ := hs.one (k := p) (by omega)
    have U := Lib.hid (show upTo Rr.lba Rr.seq (L.map Rc.abs) (p + 1) = x.seq by
      unfold upTo
      rw [← HV.out, Nat.add_sub_cancel, List.getElem?_map, List.getElem?_eq_getElem hl, hx]
      rfl)
    have hp1 : ((p + 1 : Nat) : Int) - 1 = (p : Int) := by omega
    have hp2 : p + 1 ≤ c2 := by omega
    clear hs hx ox hl
    generalize max most 0 = X at *
    generalize x.seq = y at *
    go_wp2
    go_quiet (fail)
    go_wp2
    go_ret2
    have hml : (M.take (p + 1)).length = p + 1 := by rw [List.length_take]; omega
    refine ⟨some ⟨g, off, none⟩, c2, M.take (p + 1), y, by rw [hml]; rfl, ?_, by rw [HL.out, HQ.out, ← HV.out, List.map_take], fun z hz => HN.out z (List.mem_of_mem_take hz), fun h => absurd h (by omega), fun _ => by rw [hml]; exact U.out.symm, ?_⟩
    · have hs2 := (SS.out.take (p + 1) hle).drewN nq
      rw [hml]
      exact hs2
    · exact BB.out.trans ⟨rfl, rfl, rfl, Nat.le_refl _, fun _ _ => rfl⟩
end Go.Proofs.Ytclbiidgggdniaa
