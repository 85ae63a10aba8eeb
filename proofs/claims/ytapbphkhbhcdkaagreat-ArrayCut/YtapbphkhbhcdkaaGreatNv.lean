/-
  THE MEMORY, WITHOUT RECORDS: its root; the walks of New, Root, Set.
-/
import Derived.Test.YtapbphkhbhcdkaaGreatPart
import Derived.Test.YtapbphkhbhcdkaaGreatTick
namespace Go.Proofs.YtapbphkhbhcdkaaGreat
open Go.RowKit
set_option linter.unusedVariables false
set_option maxRecDepth 100000

/-- A root. -/
structure Rt where
  m : Int
  b : Int
  g : Int
  s : Int
  n : Int
  l : Int
  gen : Int
  dur : Int
  stale : Int
def Rt.cs (r : Rt) : Array Value := #[.int .i64 r.m, .int .i64 r.b, .int .i64 r.g, .int .i64 r.s, .int .i64 r.n, .int .i64 r.l, .int .u64 r.gen, .int .u64 r.dur, .int .i64 r.stale]
theorem rt_one (r : Rt) : (r.cs.all (·.oneCell')) = true := by
  unfold Rt.cs
  simp
  exact ⟨rfl, rfl, rfl, rfl, rfl, rfl, rfl, rfl, rfl⟩
theorem root_size (r : Rt) : (Tryz.prog.info? 64).map (·.size) = some r.cs.size := by kernel_rfl
def noRoot : Rt := ⟨0, 0, 0, 0, 0, 0, 0, 0, -1⟩

def ncells (p : Nat) (r : Rt) : Array Value :=
  #[.pointer (some ⟨p, 0, none⟩), .int .i64 r.m, .int .i64 r.b, .int .i64 r.g, .int .i64 r.s, .int .i64 r.n, .int .i64 r.l, .int .u64 r.gen, .int .u64 r.dur, .int .i64 r.stale, .slice none 0 0, .int .u64 0]

/-- The memory at block g, on the power at p. -/
def Nv (w : World) (g p : Nat) (r : Rt) : Prop := At w g (ncells p r) 96

section
variable {w w' : World} {g p : Nat} {r : Rt}

theorem new_nv (p : Nat) (w : World) (hp : p < w.heap.size) : Calls Tryz.prog 24 #[.pointer (some ⟨p, 0, none⟩)] w fun e w' => e = .returned (.pointer (some ⟨w.heap.size, 0, none⟩)) ∧ Nv w' w.heap.size p noRoot ∧ Below w.heap.size w w' := by
  go_enter Tryz.func24, Tryz.ntmps24
  go_wp2
  go_ret
  exact ⟨rfl, At.new _ 96 rfl, (Below.refl _ _).alloc (Nat.le_refl _) _⟩

theorem root_any (h : Nv w g p r) : Calls Tryz.prog 48 #[.pointer (some ⟨g, 0, none⟩)] w fun e w' => e = .returned (.agg r.cs) ∧ Below w.heap.size w w' := by
  have H := Lib.hid (At.alloc h (.cells #[.int .i64 0, .int .i64 0, .int .i64 0, .int .i64 0, .int .i64 0, .int .i64 0, .int .u64 0, .int .u64 0, .int .i64 0] 64))
  have hg := At.lt h
  clear h
  go_enter Tryz.func48, Tryz.ntmps48
  go_wp2_with (first
    | (refine wpList_load_part rfl 64 (.tmp 5) rfl g 1 r.cs _ ?_ ?_ Tryz.underlying64 rfl (root_size _) ?_)
    | (refine wpList_store_part rfl 64 (.tmp 2) (.tmp 6) rfl w.heap.size 0 64 #[.int .i64 0, .int .i64 0, .int .i64 0, .int .i64 0, .int .i64 0, .int .i64 0, .int .u64 0, .int .u64 0, .int .i64 0] r.cs ?_ ?_ ?_ (root_size _) ?_ ?_ ?_))
  any_goals first | rfl | exact At.new _ 64 rfl | exact rt_one _ | (show 0 + 9 ≤ 9; omega)
  · intro j hj
    rw [H.out.cell]
    match j, hj with
    | 0, _ => rfl
    | 1, _ => rfl
    | 2, _ => rfl
    | 3, _ => rfl
    | 4, _ => rfl
    | 5, _ => rfl
    | 6, _ => rfl
    | 7, _ => rfl
    | 8, _ => rfl
  · intro w2 hat hb
    have A2 := Lib.hid hat
    have B2 := Lib.hid hb
    clear hat hb
    go_wp2
    refine bodyPost_ret (results_cell_row (p := 2) (ty := 64) rfl _ w2 w.heap.size 64 r.cs (0, 0) _ rfl A2.out Tryz.underlying64 rfl (root_size _)) rfl ?_
    exact ⟨rfl, ((Below.refl _ _).alloc (Nat.le_refl _) _).trans (B2.out.below (fun k e => Nat.le_of_eq e.symm) (by simp))⟩

theorem part_root (r q : Rt) : part (ncells p q) 1 r.cs = ncells p r := rfl

theorem set_out (u : Int) (q : Rt) (h : Nv w g p r) (hp : Pw w p u 0) : Calls Tryz.prog 25 #[.pointer (some ⟨g, 0, none⟩), .agg q.cs] w fun e w' => e = .panicked out ∧ ∃ o, w' = w.alloc o := by
  have c0 : (w.alloc (.cells q.cs 64)).cell? ⟨g, 0, none⟩ = some (.pointer (some ⟨p, 0, none⟩)) := (At.alloc h _).cell 0
  have P1 := Lib.hid (show Pw (w.alloc (.cells q.cs 64)) p u 0 from At.alloc hp _)
  clear h hp
  go_enter Tryz.func25, Tryz.ntmps25
  go_wp2_with fail
  refine (tick_out p u _ P1.out).mono ?_
  rintro e w' ⟨rfl, rfl⟩
  unfold out
  go_wp2
  exact ⟨rfl, rfl, _, rfl⟩

theorem set_go (u l : Int) (q : Rt) (h : Nv w g p r) (hp : Pw w p u l) (hgp : ¬ g = p) (hu : 0 ≤ u ∧ u ≤ 1000000) (hl : ¬ l = 0) (hm : l ≤ 9223372036854775807) :
    Calls Tryz.prog 25 #[.pointer (some ⟨g, 0, none⟩), .agg q.cs] w fun e w' => e = .returned (.tuple #[]) ∧ Nv w' g p q ∧ Pw w' p (u + 1) (less l) ∧ But (fun k => k = g ∨ k = p) w w' := by
  have c0 : (w.alloc (.cells q.cs 64)).cell? ⟨g, 0, none⟩ = some (.pointer (some ⟨p, 0, none⟩)) := (At.alloc h _).cell 0
  have P1 := Lib.hid (show Pw (w.alloc (.cells q.cs 64)) p u l from At.alloc hp _)
  have A1 := Lib.hid (show At (w.alloc (.cells q.cs 64)) w.heap.size q.cs 64 from At.new _ 64 rfl)
  have N1 := Lib.hid (show Nv (w.alloc (.cells q.cs 64)) g p r from At.alloc h _)
  have hpl := Lib.hid hp.lt
  have hgl := Lib.hid (At.lt h)
  have GP := Lib.hid hgp
  have B1 := Lib.hid ((But.refl (fun k => k = g ∨ k = p) w).alloc (.cells q.cs 64))
  clear h hp hgp
  go_enter Tryz.func25, Tryz.ntmps25
  go_wp2_with fail
  refine (tick_go p u l _ P1.out hu hl hm).mono ?_
  rintro e w2 ⟨rfl, hp2, hb2⟩
  have N2 := Lib.hid (show Nv w2 g p r from At.but N1.out hb2 GP.out)
  have A2 := Lib.hid (A1.out.but hb2 (by have := hpl.out; omega))
  have P2 := Lib.hid hp2
  have B2 := Lib.hid (B1.out.trans hb2 (fun k e _ => .inr e))
  clear hp2 hb2 c0
  go_wp2_with (first
    | (refine wpList_load_part rfl 64 (.tmp 3) rfl w.heap.size 0 q.cs _ ?_ ?_ Tryz.underlying64 rfl (root_size _) ?_)
    | (refine wpList_store_part rfl 64 (.tmp 12) (.tmp 10) rfl g 1 96 (ncells p r) q.cs ?_ ?_ ?_ (root_size _) ?_ ?_ ?_))
  any_goals first | rfl | exact N2.out | exact rt_one _ | (show 1 + 9 ≤ 12; omega)
  · intro j hj
    rw [Nat.zero_add]
    exact A2.out.cell j
  · intro w3 hat hb
    rw [part_root] at hat
    have N3 := Lib.hid (show Nv w3 g p q from hat)
    have P3 := Lib.hid (show Pw w3 p (u + 1) (less l) from At.but P2.out hb (fun e => GP.out e.symm))
    have B3 := Lib.hid (B2.out.trans hb (fun k e _ => .inl e))
    clear hat hb
    go_wp2
    go_end0
    exact ⟨rfl, N3.out, P3.out, B3.out⟩
end

end Go.Proofs.YtapbphkhbhcdkaaGreat
