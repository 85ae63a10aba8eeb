/-
  THE WALKS OF THE READER, ON: Raw, Rest.
-/
import Derived.Test.YtlmponcoghfghaaWalkD
namespace Go.Proofs.Ytlmponcoghfghaa
open Go.RowKit
set_option linter.unusedVariables false
set_option maxRecDepth 100000

theorem Step.fresh {w w1 w2 : World} {g : Nat} {A0 : Option Addr} {l : List (BitVec 8)} {f : Bool} (h : Step w g A0 l f w1) (hb : Below w1.heap.size w1 w2) : Step w g A0 l f w2 := by
  obtain ⟨⟨A, c, h1, h3⟩, h2⟩ := h
  exact ⟨⟨A, c, h1.but (S := fun _ => False) (But.of_below hb) (fun h => h) (fun _ _ h => h), h3⟩, h2.trans (T := fun _ => False) (But.of_below hb) (fun _ h => h.elim)⟩
def RawDone (w : World) (g : Nat) (A : Option Addr) (part l : List (BitVec 8)) (f : Bool) (e : Ending) (w' : World) : Prop :=
  ∃ v, e = .returned v ∧ w'.ownsRow w.heap.size 5 1 v part.length (part.map val) ∧ Step w g A l f w'

theorem raw_made {w w1 w2 : World} {A : Option Addr} {g n : Nat} {v : Value} {part l : List (BitVec 8)} {f : Bool} (h : Step w g A l f w1) (hn : part.length = n) (hf : Fresh w1 n part v w2) : RawDone w g A part l f (.returned v) w2 := by
  subst hn
  refine ⟨v, rfl, own_base hf.1 (fun k hk => ?_), h.fresh hf.2⟩
  exact Nat.le_trans h.2.size (hf.1.lt k hk).1

set_option maxHeartbeats 400000 in
theorem rraw_bad (g : Nat) (A : Option Addr) (n c : Nat) (l : List (BitVec 8)) (f : Bool) (s : Int) (w : World) (hs : s < 0 ∨ (n : Int) < s) (h : Rd w g A n c l f) :
    Calls Try.prog 29 #[.pointer (some ⟨g, 0, none⟩), .int .i64 s] w (RawDone w g A [] [] true) := by
  go_enter Try.func29, Try.ntmps29
  go_wp2_with fail
  refine (next_bad g A n c l f s w hs h).mono ?_
  rintro e w1 hN
  have S := Lib.hid (hN.step (A := A))
  obtain ⟨rfl, _⟩ := hN
  clear h hs
  go_wp2_with fail
  refine (clone_any none 0 0 [] w1 (by omega) (Has.nil _ _)).mono ?_
  rintro e w2 ⟨v, rfl, hf⟩
  have R := Lib.hid (raw_made S.out rfl hf)
  clear hf
  go_wp2
  go_ret
  exact R.out

set_option maxHeartbeats 400000 in
theorem rraw_good (g : Nat) (A : Option Addr) (n c : Nat) (l : List (BitVec 8)) (f : Bool) (s : Nat) (w : World) (hn : n ≤ 1000000) (hs : s ≤ n) (h : Rd w g A n c l f) :
    Calls Try.prog 29 #[.pointer (some ⟨g, 0, none⟩), .int .i64 s] w (RawDone w g A (l.take s) (l.drop s) f) := by
  go_enter Try.func29, Try.ntmps29
  go_wp2_with fail
  refine (next_good g A n c l f s w hs h).mono ?_
  rintro e w1 hN
  have S := Lib.hid hN.step
  have hT := Lib.hid ((h.has.take s hs).but hN.2.2 (fun x e => (h.off x e).1))
  obtain ⟨rfl, _⟩ := hN
  clear h
  go_wp2_with fail
  refine (clone_any A s c (l.take s) w1 (by omega) hT.out).mono ?_
  rintro e w2 ⟨v, rfl, hf⟩
  have R := Lib.hid (raw_made S.out hT.out.1 hf)
  clear hf
  go_wp2
  go_ret
  exact R.out

set_option maxHeartbeats 400000 in
theorem rrest_any (g : Nat) (A : Option Addr) (n c : Nat) (l : List (BitVec 8)) (f : Bool) (w : World) (hn : n ≤ 1000000) (h : Rd w g A n c l f) :
    Calls Try.prog 53 #[.pointer (some ⟨g, 0, none⟩)] w (Cloned w n l) := by
  have hc := h.cell0
  have H := Lib.hid h.has
  clear h
  go_enter Try.func53, Try.ntmps53
  go_wp2_with fail
  refine (clone_any A n c l w hn H.out).mono ?_
  rintro e w2 ⟨v, rfl, hf⟩
  have R := Lib.hid hf
  clear hf
  go_wp2
  go_ret
  exact ⟨_, rfl, R.out⟩

end Go.Proofs.Ytlmponcoghfghaa
