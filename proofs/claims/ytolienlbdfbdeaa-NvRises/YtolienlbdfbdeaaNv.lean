/-
  THE MEMORY: its root, its records, its last number; the walks of New, Len, Root, Set.
-/
import Derived.Test.YtolienlbdfbdeaaRecs
namespace Go.Proofs.Ytolienlbdfbdeaa
open Go.RowKit
set_option linter.unusedVariables false
set_option maxRecDepth 100000

/-- A root. -/
structure Rt where
  m : Int
  b : Int
  g : Int
  s : Int
  n : Int
  l : Int
  gen : Int
  dur : Int
  stale : Int
def Rt.cs (r : Rt) : Array Value := #[.int .i64 r.m, .int .i64 r.b, .int .i64 r.g, .int .i64 r.s, .int .i64 r.n, .int .i64 r.l, .int .u64 r.gen, .int .u64 r.dur, .int .i64 r.stale]
theorem rt_one (r : Rt) : (r.cs.all (·.oneCell')) = true := by
  unfold Rt.cs
  simp
  exact ⟨rfl, rfl, rfl, rfl, rfl, rfl, rfl, rfl, rfl⟩
/-- What a memory is. -/
structure NS where
  root : Rt
  last : Nat
  recs : List Rr
def NS.new : NS := ⟨⟨0, 0, 0, 0, 0, 0, 0, 0, -1⟩, 0, []⟩
def NS.set (s : NS) (r : Rt) : NS := { s with root := r }
def NS.add (s : NS) (k lba : Int) (l : List (BitVec 8)) : NS := { s with last := s.last + 1, recs := s.recs ++ [⟨s.last + 1, k, lba, l⟩] }
def NS.commit (s : NS) (d : Int) (u : Nat) : NS := { s with root := { s.root with dur := d }, recs := s.recs.filter (fun r => decide (u < r.seq)) }

def ncells (p : Nat) (r : Rt) (v : Value) (last : Nat) : Array Value :=
  #[.pointer (some ⟨p, 0, none⟩), .int .i64 r.m, .int .i64 r.b, .int .i64 r.g, .int .i64 r.s, .int .i64 r.n, .int .i64 r.l, .int .u64 r.gen, .int .u64 r.dur, .int .i64 r.stale, v, .int .u64 (last : Int)]

/-- The memory at block g, on the power at p; T: its own blocks. -/
structure NvIs (w : World) (g p : Nat) (T : Nat → Prop) (s : NS) (v : Value) (L : List Rc) : Prop where
  at_ : At w g (ncells p s.root v s.last) 60
  rw : Rw w 0 v L
  abs : L.map Rc.abs = s.recs
  gT : T g
  vT : ∀ k, v.ownBlock = some k → T k ∧ k ≠ g
  dT : ∀ x ∈ L, 0 < x.n → ∀ a, x.A = some a → T a.block ∧ a.block ≠ g
  lt : ∀ k, T k → k < w.heap.size
  np : ¬ T p
def Nv (w : World) (g p : Nat) (T : Nat → Prop) (s : NS) : Prop := ∃ v L, NvIs w g p T s v L

section
variable {w w' : World} {g p : Nat} {T S : Nat → Prop} {s : NS} {v : Value} {L : List Rc}
theorem NvIs.but (h : NvIs w g p T s v L) (hb : But S w w') (hS : ∀ k, T k → ¬ S k) : NvIs w' g p T s v L :=
  ⟨h.at_.but hb (hS g h.gT), h.rw.but hb (fun k hk => hS k (h.vT k hk).1) (fun x hx h0 a ha => hS _ (h.dT x hx h0 a ha).1), h.abs, h.gT, h.vT, h.dT, fun k hk => Nat.lt_of_lt_of_le (h.lt k hk) hb.size, h.np⟩
theorem Nv.but (h : Nv w g p T s) (hb : But S w w') (hS : ∀ k, T k → ¬ S k) : Nv w' g p T s := by
  obtain ⟨v, L, h⟩ := h
  exact ⟨v, L, h.but hb hS⟩
theorem Nv.lt (h : Nv w g p T s) : ∀ k, T k → k < w.heap.size := by obtain ⟨v, L, h⟩ := h; exact h.lt
theorem Nv.own (h : Nv w g p T s) : T g := by obtain ⟨v, L, h⟩ := h; exact h.gT
theorem Nv.np (h : Nv w g p T s) : ¬ T p := by obtain ⟨v, L, h⟩ := h; exact h.np
theorem NvIs.len (h : NvIs w g p T s v L) : L.length = s.recs.length := by rw [← h.abs, List.length_map]
/-- What is read of the memory's own block. -/
theorem NvIs.cells (h : NvIs w g p T s v L) : w.cell? ⟨g, 0, none⟩ = some (.pointer (some ⟨p, 0, none⟩)) ∧ w.cell? ⟨g, 5, none⟩ = some (.int .i64 s.root.n) ∧ w.cell? ⟨g, 10, none⟩ = some v ∧ w.cell? ⟨g, 11, none⟩ = some (.int .u64 (s.last : Int)) :=
  ⟨h.at_.cell 0, h.at_.cell 5, h.at_.cell 10, h.at_.cell 11⟩
theorem NvIs.frozen (h : NvIs w g p T s v L) (j : Nat) : w.frozen? ⟨g, j, none⟩ = false := h.at_.frozen j

theorem new_nv (p : Nat) (w : World) (hp : p < w.heap.size) : Calls Try.prog 9 #[.pointer (some ⟨p, 0, none⟩)] w fun e w' => e = .returned (.pointer (some ⟨w.heap.size, 0, none⟩)) ∧ Nv w' w.heap.size p (fun k => k = w.heap.size) NS.new ∧ Below w.heap.size w w' := by
  go_enter Try.func9, Try.ntmps9
  go_wp2
  go_ret
  refine ⟨rfl, ⟨.slice none 0 0, [], At.new _ 60 rfl, Rw.nil _ _, rfl, rfl, fun k hk => by simp [Value.ownBlock] at hk, fun x hx => (by cases hx), fun k hk => by simp [hk], fun e => by omega⟩, (Below.refl _ _).alloc (Nat.le_refl _) _⟩

theorem len_any (h : Nv w g p T s) : Calls Try.prog 14 #[.pointer (some ⟨g, 0, none⟩)] w fun e w' => e = .returned (.int .i64 (s.recs.length : Int)) ∧ w' = w := by
  obtain ⟨v, L, h⟩ := h
  obtain ⟨A, c, rfl⟩ := h.rw.slice
  have c10 := h.cells.2.2.1
  rw [h.len] at c10
  clear h
  go_enter Try.func14, Try.ntmps14
  go_wp2
  go_ret
  exact ⟨rfl, rfl⟩

theorem root_any (h : Nv w g p T s) : Calls Try.prog 13 #[.pointer (some ⟨g, 0, none⟩)] w fun e w' => e = .returned (.agg s.root.cs) ∧ Below w.heap.size w w' := by
  obtain ⟨v, L, h⟩ := h
  have H := Lib.hid (h.at_.alloc (.cells #[.int .i64 0, .int .i64 0, .int .i64 0, .int .i64 0, .int .i64 0, .int .i64 0, .int .u64 0, .int .u64 0, .int .i64 0] 32))
  have hg := h.at_.lt
  clear h
  go_enter Try.func13, Try.ntmps13
  go_wp2_with (first
    | (refine wpList_load_part rfl 32 (.tmp 5) rfl g 1 s.root.cs _ ?_ ?_ Try.underlying32 rfl root_size ?_)
    | (refine wpList_store_part rfl 32 (.tmp 2) (.tmp 6) rfl w.heap.size 0 32 #[.int .i64 0, .int .i64 0, .int .i64 0, .int .i64 0, .int .i64 0, .int .i64 0, .int .u64 0, .int .u64 0, .int .i64 0] s.root.cs ?_ ?_ ?_ root_size ?_ ?_ ?_))
  any_goals first | rfl | exact At.new _ 32 rfl | exact rt_one _ | (show 0 + 9 ≤ 9; omega)
  · intro j hj
    rw [H.out.cell]
    match j, hj with
    | 0, _ => rfl
    | 1, _ => rfl
    | 2, _ => rfl
    | 3, _ => rfl
    | 4, _ => rfl
    | 5, _ => rfl
    | 6, _ => rfl
    | 7, _ => rfl
    | 8, _ => rfl
  · intro w2 hat hb
    have A2 := Lib.hid hat
    have B2 := Lib.hid hb
    clear hat hb
    go_wp2
    refine bodyPost_ret (results_cell_row (p := 2) (ty := 32) rfl _ w2 w.heap.size 32 s.root.cs (0, 0) _ rfl A2.out Try.underlying32 rfl root_size) rfl ?_
    exact ⟨rfl, ((Below.refl _ _).alloc (Nat.le_refl _) _).trans (B2.out.below (fun k e => Nat.le_of_eq e.symm) (by simp))⟩

theorem part_root (r q : Rt) (v : Value) (last : Nat) : part (ncells p q v last) 1 r.cs = ncells p r v last := rfl

theorem set_out (u : Int) (r : Rt) (h : Nv w g p T s) (hp : Pw w p u 0) : Calls Try.prog 11 #[.pointer (some ⟨g, 0, none⟩), .agg r.cs] w fun e w' => e = .panicked out ∧ ∃ o, w' = w.alloc o := by
  obtain ⟨v, L, h⟩ := h
  have c0 : (w.alloc (.cells r.cs 32)).cell? ⟨g, 0, none⟩ = some (.pointer (some ⟨p, 0, none⟩)) := (h.at_.alloc _).cell 0
  have P1 := Lib.hid (show Pw (w.alloc (.cells r.cs 32)) p u 0 from At.alloc hp _)
  clear h hp
  go_enter Try.func11, Try.ntmps11
  go_wp2_with fail
  refine (tick_out p u _ P1.out).mono ?_
  rintro e w' ⟨rfl, rfl⟩
  unfold out
  go_wp2
  exact ⟨rfl, rfl, _, rfl⟩

theorem set_go (u l : Int) (r : Rt) (h : Nv w g p T s) (hp : Pw w p u l) (hu : 0 ≤ u ∧ u ≤ 1000000) (hl : ¬ l = 0) (hm : l ≤ 9223372036854775807) :
    Calls Try.prog 11 #[.pointer (some ⟨g, 0, none⟩), .agg r.cs] w fun e w' => e = .returned (.tuple #[]) ∧ Nv w' g p T (s.set r) ∧ Pw w' p (u + 1) (less l) ∧ But (fun k => T k ∨ k = p) w w' := by
  obtain ⟨v, L, h⟩ := h
  have c0 : (w.alloc (.cells r.cs 32)).cell? ⟨g, 0, none⟩ = some (.pointer (some ⟨p, 0, none⟩)) := (h.at_.alloc _).cell 0
  have P1 := Lib.hid (show Pw (w.alloc (.cells r.cs 32)) p u l from At.alloc hp _)
  have A1 := Lib.hid (show At (w.alloc (.cells r.cs 32)) w.heap.size r.cs 32 from At.new _ 32 rfl)
  have N1 := Lib.hid (h.but (S := fun _ => False) ((But.refl _ w).alloc (.cells r.cs 32)) (fun _ _ h => h))
  have hpl := Lib.hid hp.lt
  have O1 := Lib.hid (show ∀ k, T k → ¬ k = w.heap.size from fun k hk e => by have := h.lt k hk; omega)
  have B1 := Lib.hid ((But.refl (fun k => T k ∨ k = p) w).alloc (.cells r.cs 32))
  clear h hp
  go_enter Try.func11, Try.ntmps11
  go_wp2_with fail
  refine (tick_go p u l _ P1.out hu hl hm).mono ?_
  rintro e w2 ⟨rfl, hp2, hb2⟩
  have N2 := Lib.hid (N1.out.but hb2 (fun k hk e => N1.out.np (e ▸ hk)))
  have A2 := Lib.hid (A1.out.but hb2 (by have := hpl.out; omega))
  have P2 := Lib.hid hp2
  have B2 := Lib.hid (B1.out.trans hb2 (fun k e _ => .inr e))
  clear hp2 hb2 c0
  go_wp2_with (first
    | (refine wpList_load_part rfl 32 (.tmp 3) rfl w.heap.size 0 r.cs _ ?_ ?_ Try.underlying32 rfl root_size ?_)
    | (refine wpList_store_part rfl 32 (.tmp 12) (.tmp 10) rfl g 1 60 (ncells p s.root v s.last) r.cs ?_ ?_ ?_ root_size ?_ ?_ ?_))
  any_goals first | rfl | exact N2.out.at_ | exact rt_one _ | (show 1 + 9 ≤ 12; omega)
  · intro j hj
    rw [Nat.zero_add]
    exact A2.out.cell j
  · intro w3 hat hb
    rw [part_root] at hat
    have N3 := Lib.hid (show NvIs w3 g p T (s.set r) v L from ⟨hat, N2.out.rw.but hb (fun k hk => (N2.out.vT k hk).2) (fun x hx h0 a ha => (N2.out.dT x hx h0 a ha).2), N2.out.abs, N2.out.gT, N2.out.vT, N2.out.dT, fun k hk => Nat.lt_of_lt_of_le (N2.out.lt k hk) hb.size, N2.out.np⟩)
    have P3 := Lib.hid (show Pw w3 p (u + 1) (less l) from At.but P2.out hb (fun e => N2.out.np (e ▸ N2.out.gT)))
    have B3 := Lib.hid (B2.out.trans hb (fun k e _ => .inl (e ▸ N2.out.gT)))
    clear hat hb
    go_wp2
    go_end0
    exact ⟨rfl, ⟨v, L, N3.out⟩, P3.out, B3.out⟩
end

end Go.Proofs.Ytolienlbdfbdeaa
