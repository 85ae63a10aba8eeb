/-
  THE WALK OF Awake.
-/
import Derived.Test.YtclbiidgggdniaaMake
import Derived.Deep.CutRange
namespace Go.Proofs.Ytclbiidgggdniaa
open Go.RowKit
set_option linter.unusedVariables false
set_option maxRecDepth 100000

/-- The three records of the chapter's example. -/
def ex : List Rc := [⟨1, 0, 1, none, 0, 0, []⟩, ⟨2, 0, 2, none, 0, 0, []⟩, ⟨3, 0, 1, none, 0, 0, []⟩]
theorem ex_rs {w : World} {g : Nat} (h : At w g (flat ex).toArray 35) : Rs w (some ⟨g, 0, none⟩) 3 ex :=
  ⟨rfl, fun _ => ⟨g, 0, rfl, h.lt, fun k hk j hj => by
    rw [h.cell, List.getElem?_toArray, Nat.zero_add]
    exact flat_get ex k hk j hj⟩, fun x hx => by
    simp [ex] at hx
    rcases hx with rfl | rfl | rfl
    · exact ⟨Has.nil _ _, by simp, by simp, by simp⟩
    · exact ⟨Has.nil _ _, by simp, by simp, by simp⟩
    · exact ⟨Has.nil _ _, by simp, by simp, by simp⟩⟩
set_option maxHeartbeats 800000 in
theorem awake_any (w : World) : Calls Try.prog 8 #[] w fun e w' => e = .returned (.bool true) ∧ Below w.heap.size w w' := by
  have AT := Lib.hid (At.new (w := w) (flat ex).toArray 35 rfl)
  have B0 := Lib.hid (below_new w (.cells (flat ex).toArray 35))
  have FE := Lib.hid (show (flat ex).toArray = #[.int .u64 1, .int .i64 0, .int .i64 1, .slice none 0 0, .int .u64 2, .int .i64 0, .int .i64 2, .slice none 0 0, .int .u64 3, .int .i64 0, .int .i64 1, .slice none 0 0] from rfl)
  have RS := Lib.hid (ex_rs AT.out)
  rw [FE.out] at RS B0
  clear AT FE
  go_enter Try.func8, Try.ntmps8
  go_wp2_with fail
  refine (view_any (some ⟨w.heap.size, 0, none⟩) 3 3 ex _ (by omega) RS.out).mono ?_
  rintro e w1 ⟨v, M, rfl, hR, hV, _, hb⟩
  have B1 := Lib.hid (B0.out.trans (hb.mono B0.out.size))
  obtain ⟨A, c, rfl, hc, _, hs, _⟩ := hR.form
  have hV2 : M.map Rc.abs = [⟨2, 0, 2, []⟩, ⟨3, 0, 1, []⟩] := by rw [hV]; rfl
  have hl : M.length = 2 := by have := congrArg List.length hV2; simpa using this
  rw [hl] at hs ⊢
  obtain ⟨g, off, rfl, _, l0, x, hx, _, q0, _⟩ := hs.one (k := 0) (by omega)
  obtain ⟨g', off', e', _, l1, y, hy, _, r0, _⟩ := hs.one (k := 1) (by omega)
  injection e' with e'
  injection e' with e1 e2
  subst e1 e2
  have hx2 : x.seq = 2 := by
    have h := congrArg (fun l => l[0]?) hV2
    simp only [List.getElem?_map, List.getElem?_eq_getElem l0, hx, Option.map_some] at h
    injection h with h
    exact congrArg Rr.seq h
  have hy2 : y.seq = 3 := by
    have h := congrArg (fun l => l[1]?) hV2
    simp only [List.getElem?_map, List.getElem?_eq_getElem l1, hy, Option.map_some] at h
    injection h with h
    exact congrArg Rr.seq h
  rw [hx2] at q0
  rw [hy2] at r0
  have q0' : w1.cell? ⟨g, off, none⟩ = some (.int .u64 2) := by simpa using q0
  have r0' : w1.cell? ⟨g, off + 4, none⟩ = some (.int .u64 3) := by simpa using r0
  clear q0 r0 hb hR hV hV2 hs hx hy hx2 hy2 l0 l1 hl
  go_wp2_with fail
  go_ret
  exact ⟨rfl, B1.out⟩
end Go.Proofs.Ytclbiidgggdniaa
