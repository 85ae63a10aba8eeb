/-
  TEXTS JOINED: In, Out, Lim.
-/
import Derived.Test.YtplmdmchkaacoaaGreatJ19
import Derived.ChangeSame
import Derived.Lib.SmallJoins
import Derived.Deep.Fields
import Derived.Deep.Slices
import Derived.Test.YtplmdmchkaacoaaGreatJ04
import Derived.Test.YtplmdmchkaacoaaGreatJ08

/-
  WHAT COMES IN: six small numbers by value; a slice of stripes.
-/
namespace Go.Proofs.YtplmdmchkaacoaaGreat
open Go.RowKit Go.Sort Go.Joins Go.ChangeShapes Go.WideShapes Go.ChangeAt Go.Maps Go.Deep
set_option linter.unusedVariables false
set_option maxRecDepth 100000

theorem list6 {α : Type} {cs : List α} (h : cs.length = 6) : ∃ c0 c1 c2 c3 c4 c5, cs = [c0, c1, c2, c3, c4, c5] := by
  match cs, h with
  | [c0, c1, c2, c3, c4, c5], _ => exact ⟨c0, c1, c2, c3, c4, c5, rfl⟩

section
variable {H : Type} {enc : TypeId × Value → H} {w : World}

theorem six_of {P : Program} {t : TypeId} {f0 f1 f2 f3 f4 f5 : Field} {fuel : Nat} {cs : List Value} {y : DataW H × List MemPlace} {base : Nat} {spare : Nat → Bool} {held : Bool} (hs : P.underlying t = some (.struct #[f0, f1, f2, f3, f4, f5]))
    (hone : oneCellFields P #[f0, f1, f2, f3, f4, f5] = true) (hC : P.cellsOf t = 6) (h : DataW.trod enc P w base spare held fuel t cs = some y) :
    ∃ v0 v1 v2 v3 v4 v5 n z0 z1 z2 z3 z4 z5, cs = [v0, v1, v2, v3, v4, v5] ∧ DataW.trod enc P w base spare held n f0.type [v0] = some z0 ∧ DataW.trod enc P w base spare held n f1.type [v1] = some z1 ∧
      DataW.trod enc P w base spare held n f2.type [v2] = some z2 ∧ DataW.trod enc P w base spare held n f3.type [v3] = some z3 ∧ DataW.trod enc P w base spare held n f4.type [v4] = some z4 ∧ DataW.trod enc P w base spare held n f5.type [v5] = some z5 := by
  obtain ⟨xs, n, _, _, hlen, hxl, hf⟩ := DataW.trod_struct hs h
  rw [hC] at hlen
  obtain ⟨o0, k0⟩ := hone_of hone 0 f0 rfl
  obtain ⟨o1, k1⟩ := hone_of hone 1 f1 rfl
  obtain ⟨o2, k2⟩ := hone_of hone 2 f2 rfl
  obtain ⟨o3, k3⟩ := hone_of hone 3 f3 rfl
  obtain ⟨o4, k4⟩ := hone_of hone 4 f4 rfl
  obtain ⟨o5, k5⟩ := hone_of hone 5 f5 rfl
  obtain ⟨v0, v1, v2, v3, v4, v5, rfl⟩ := list6 hlen
  obtain ⟨z0, z1, z2, z3, z4, z5, rfl⟩ := list6 hxl
  exact ⟨v0, v1, v2, v3, v4, v5, n, z0, z1, z2, z3, z4, z5, rfl, by simpa [o0, k0] using hf 0 f0 rfl, by simpa [o1, k1] using hf 1 f1 rfl, by simpa [o2, k2] using hf 2 f2 rfl, by simpa [o3, k3] using hf 3 f3 rfl, by simpa [o4, k4] using hf 4 f4 rfl, by simpa [o5, k5] using hf 5 f5 rfl⟩

theorem cells23 : Tryz.prog.cellsOf 23 = 6 := by kernel_rfl
def Byte (x : Int) : Prop := 0 ≤ x ∧ x ≤ 255
/-- Six small numbers that come in. -/
theorem small_in {r : Reach} {base : Nat} {v : Value} {d : DataW H} {p : List MemPlace} (hv : Value.okWide Tryz.prog w r base 23 v) (h : DataW.Trod enc Tryz.prog w 0 (fun _ => true) true 23 v d p) :
    ∃ x0 x1 x2 x3 x4 x5 : Int, v = .agg #[.int .u8 x0, .int .u8 x1, .int .u8 x2, .int .u8 x3, .int .u8 x4, .int .u8 x5] ∧ Byte x0 ∧ Byte x1 ∧ Byte x2 ∧ Byte x3 ∧ Byte x4 ∧ Byte x5 := by
  obtain ⟨⟨cs⟩, rfl, hsz⟩ := okWide_struct Tryz.underlying23 hv
  obtain ⟨fuel, hf⟩ := h
  obtain ⟨v0, v1, v2, v3, v4, v5, n, z0, z1, z2, z3, z4, z5, hcs, t0, t1, t2, t3, t4, t5⟩ := six_of Tryz.underlying23 (by kernel_rfl) cells23 hf
  obtain rfl : cs = _ := hcs
  obtain ⟨a0, e0, _, w0⟩ := DataW.trod_int Tryz.underlying5 t0
  obtain ⟨a1, e1, _, w1⟩ := DataW.trod_int Tryz.underlying5 t1
  obtain ⟨a2, e2, _, w2⟩ := DataW.trod_int Tryz.underlying5 t2
  obtain ⟨a3, e3, _, w3⟩ := DataW.trod_int Tryz.underlying5 t3
  obtain ⟨a4, e4, _, w4⟩ := DataW.trod_int Tryz.underlying5 t4
  obtain ⟨a5, e5, _, w5⟩ := DataW.trod_int Tryz.underlying5 t5
  injection e0 with e0
  injection e1 with e1
  injection e2 with e2
  injection e3 with e3
  injection e4 with e4
  injection e5 with e5
  subst e0 e1 e2 e3 e4 e5
  have wf : ∀ x : Int, (Lit.int IntKind.u8 x).wf = true → Byte x := by
    intro x h
    unfold Byte
    simpa [Lit.wf, IntKind.min, IntKind.max, IntKind.signed, IntKind.bits] using h
  exact ⟨a0, a1, a2, a3, a4, a5, rfl, wf _ w0, wf _ w1, wf _ w2, wf _ w3, wf _ w4, wf _ w5⟩

theorem two_in {P : Program} {t : TypeId} {f0 f1 : Field} {fuel : Nat} {cs : List Value} {y : DataW H × List MemPlace} {base : Nat} {spare : Nat → Bool} {held : Bool} (hs : P.underlying t = some (.struct #[f0, f1]))
    (hone : oneCellFields P #[f0, f1] = true) (hC : P.cellsOf t = 2) (h : DataW.trod enc P w base spare held fuel t cs = some y) :
    ∃ v0 v1 n z0 z1, cs = [v0, v1] ∧ DataW.trod enc P w base spare held n f0.type [v0] = some z0 ∧ DataW.trod enc P w base spare held n f1.type [v1] = some z1 := by
  obtain ⟨xs, n, _, _, hlen, hxl, hf⟩ := DataW.trod_struct hs h
  rw [hC] at hlen
  obtain ⟨o0, k0⟩ := hone_of hone 0 f0 rfl
  obtain ⟨o1, k1⟩ := hone_of hone 1 f1 rfl
  match cs, xs, hlen, hxl with
  | [v0, v1], [z0, z1], _, _ =>
    exact ⟨v0, v1, n, z0, z1, rfl, by simpa [o0, k0] using hf 0 f0 rfl, by simpa [o1, k1] using hf 1 f1 rfl⟩

theorem add_lit (b o k : Nat) : (⟨b, o, none⟩ : Addr).add k = ⟨b, o + k, none⟩ := by
  unfold Addr.add
  by_cases h : k = 0 <;> simp [h]

theorem byte_bv {a : Int} (h : Byte a) : a = ((BitVec.ofNat 8 a.toNat).toNat : Int) := by
  unfold Byte at h
  rw [BitVec.toNat_ofNat]
  omega
end

end Go.Proofs.YtplmdmchkaacoaaGreat

/-
  A FLUSH WHEN THE POWER IS OUT; LIMITS; THE SAME CALLS UNDER ANY LIMIT.
-/
namespace Go.Proofs.YtplmdmchkaacoaaGreat
open Go.RowKit Go.Maps Go.Shelf
set_option linter.unusedVariables false
set_option maxRecDepth 100000

section
variable {w : World} {g p : Nat} {T : Nat → Prop} {s : DS}

theorem flush_out (u : Int) (h : Dk w g p T s) (hp : Pw w p u 0) :
    Calls Tryz.prog 180 #[.pointer (some ⟨g, 0, none⟩)] w fun e w' => e = .panicked out ∧ w' = w := by
  have HD := Lib.hid h
  have HP := Lib.hid hp
  clear h hp
  go_enter Tryz.func180, Tryz.ntmps180
  go_wp2_with fail
  refine (operate_out u HD.out HP.out).mono ?_
  rintro e w' ⟨rfl, rfl⟩
  unfold out
  go_wp2
  exact ⟨rfl, rfl, rfl⟩
end

/-- A limit is set. -/
theorem limit_any (g : Nat) (u l m : Int) (w : World) (h : Pw w g u l) : Calls Tryz.prog 37 #[.pointer (some ⟨g, 0, none⟩), .int .i64 m] w fun e w' => e = .returned (.tuple #[]) ∧ Pw w' g u m ∧ w' = w.setCell ⟨g, 1, none⟩ (.int .i64 m) := by
  have f1 := h.frozen 1
  have h1 := h.cell 1
  simp at h1
  go_enter Tryz.func37, Tryz.ntmps37
  go_wp2
  go_end0
  exact ⟨rfl, At.set h 1 _, rfl⟩

end Go.Proofs.YtplmdmchkaacoaaGreat

/-
  AN ARRAY UNDER A LIMIT OF THE POWER: what it is; a member written and flushed.
-/
namespace Go.Proofs.YtplmdmchkaacoaaGreat
open Go.RowKit Go.Maps
set_option linter.unusedVariables false
set_option maxRecDepth 100000

structure Ayl (w : World) (P : Pl) (T : Nat → Nat → Prop) (s : AS) (l : Int) : Prop where
  arr : At w P.a (acells P s) 127
  row : ∀ i, i < s.M → w.cell? ⟨P.r, i, none⟩ = some (dev (P.g i))
  pw : Pw w P.p s.u l
  nv : Nv w P.n P.p s.rt s.rv s.rl
  dk : ∀ i, i < s.M → Dk w (P.g i) P.p (T (4 + i)) (s.d i)
  ap : ∀ i j k, T i k → T j k → i = j
  t0 : T 0 P.a
  t1 : T 1 P.r
  t2 : T 2 P.p
  t3 : T 3 P.n
  lt : ∀ i k, T i k → k < w.heap.size
  wf : s.Wf

/-- The array, all its own blocks being O. -/
def Arl (w : World) (P : Pl) (O : Nat → Prop) (s : AS) (l : Int) : Prop := ∃ T, Ayl w P T s l ∧ ∀ k, O k ↔ ∃ i, T i k

section
variable {w w' : World} {P : Pl} {T : Nat → Nat → Prop} {S O : Nat → Prop} {s : AS} {l : Int}

theorem Ayl.but (h : Ayl w P T s l) (hb : But S w w') (hS : ∀ i k, T i k → ¬ S k) : Ayl w' P T s l where
  arr := h.arr.but hb (hS _ _ h.t0)
  row := fun i hi => (hb.cell (p := ⟨P.r, i, none⟩) (h.lt _ _ h.t1) (hS _ _ h.t1)).trans (h.row i hi)
  pw := At.but h.pw hb (hS _ _ h.t2)
  nv := At.but h.nv hb (hS _ _ h.t3)
  dk := fun i hi => (h.dk i hi).but hb (fun k hk => hS _ _ hk)
  ap := h.ap
  t0 := h.t0
  t1 := h.t1
  t2 := h.t2
  t3 := h.t3
  lt := fun i k hk => Nat.lt_of_lt_of_le (h.lt i k hk) hb.size
  wf := h.wf
theorem Arl.but (h : Arl w P O s l) (hb : But S w w') (hS : ∀ k, O k → ¬ S k) : Arl w' P O s l := by
  obtain ⟨T, h, hO⟩ := h
  exact ⟨T, h.but hb (fun i k hk => hS k ((hO k).2 ⟨i, hk⟩)), hO⟩
theorem Arl.lt (h : Arl w P O s l) : ∀ k, O k → k < w.heap.size := by
  obtain ⟨T, h, hO⟩ := h
  intro k hk
  obtain ⟨i, hi⟩ := (hO k).1 hk
  exact h.lt i k hi
theorem Arl.wf (h : Arl w P O s l) : s.Wf := by obtain ⟨T, h, _⟩ := h; exact h.wf
theorem Arl.up (h : Arl w P O s l) (hb : Below w.heap.size w w') : Arl w' P O s l := h.but (S := fun _ => False) (But.of_below hb) (fun _ _ h => h)
theorem Arl.alloc (h : Arl w P O s l) (o : Obj) : Arl (w.alloc o) P O s l := h.but (S := fun _ => False) ((But.refl _ _).alloc o) (fun _ _ h => h)
theorem Arl.drewN (h : Arl w P O s l) (n : Nat) : Arl (w.drewN n) P O s l := h.but (S := fun _ => False) ((But.refl _ _).drewN n) (fun _ _ h => h)
theorem Arl.drew (h : Arl w P O s l) : Arl w.drew P O s l := h.but (S := fun _ => False) ((But.refl _ _).drew) (fun _ _ h => h)
/-- The array's own cells. -/
theorem Arl.cells (h : Arl w P O s l) : w.cell? ⟨P.a, 6, none⟩ = some (.slice (some ⟨P.r, 0, none⟩) s.M P.c) ∧ w.cell? ⟨P.a, 7, none⟩ = some (.pointer (some ⟨P.n, 0, none⟩)) ∧ w.cell? ⟨P.a, 8, none⟩ = some (.bool s.broken) := by
  obtain ⟨T, h, hO⟩ := h
  exact ⟨h.arr.cell 6, h.arr.cell 7, h.arr.cell 8⟩
theorem Arl.shape (h : Arl w P O s l) : w.cell? ⟨P.a, 0, none⟩ = some (.int .i64 (s.M : Int)) ∧ w.cell? ⟨P.a, 1, none⟩ = some (.int .i64 s.b) ∧ w.cell? ⟨P.a, 2, none⟩ = some (.int .i64 s.g) ∧ w.cell? ⟨P.a, 3, none⟩ = some (.int .i64 s.s) ∧
    w.cell? ⟨P.a, 4, none⟩ = some (.int .i64 s.n) ∧ w.cell? ⟨P.a, 5, none⟩ = some (.int .i64 s.l) := by
  obtain ⟨T, h, hO⟩ := h
  exact ⟨h.arr.cell 0, h.arr.cell 1, h.arr.cell 2, h.arr.cell 3, h.arr.cell 4, h.arr.cell 5⟩
theorem Arl.frozen (h : Arl w P O s l) (j : Nat) : w.frozen? ⟨P.a, j, none⟩ = false := by
  obtain ⟨T, h, hO⟩ := h
  exact h.arr.frozen j
theorem Arl.row (h : Arl w P O s l) {i : Nat} (hi : i < s.M) : w.cell? ⟨P.r, i, none⟩ = some (dev (P.g i)) := by
  obtain ⟨T, h, hO⟩ := h
  exact h.row i hi
theorem Arl.nv (h : Arl w P O s l) : Nv w P.n P.p s.rt s.rv s.rl := by
  obtain ⟨T, h, hO⟩ := h
  exact h.nv

/-- One of the disks turned, by an operation. -/
theorem Ayl.turn {i : Nat} {T' : Nat → Prop} {d : DS} (h : Ayl w P T s l) (hi : i < s.M) (hd : Dk w' (P.g i) P.p T' d) (l2 : Int) (hp : Pw w' P.p (s.u + 1) l2) (hT : ∀ k, T' k → T (4 + i) k ∨ w.heap.size ≤ k) (hb : But (fun k => T (4 + i) k ∨ k = P.p) w w')
    (h1 : d.sectors = (s.d i).sectors) (h2 : d.size = (s.d i).size) (h3 : ∀ j, (s.d i).writes j ≤ d.writes j ∧ d.writes j ≤ (s.d i).writes j + 1) :
    Ayl w' P (fun j k => if j = 4 + i then T' k else T j k) { s with d := fun j => if j = i then d else s.d j, u := s.u + 1 } l2 := by
  have off : ∀ j, j ≠ 4 + i → j ≠ 2 → ∀ k, T j k → ¬ (T (4 + i) k ∨ k = P.p) := by
    rintro j hj h2 k hk (e | e)
    · exact hj (h.ap _ _ _ hk e)
    · exact h2 (h.ap _ _ _ hk (e ▸ h.t2))
  refine
    { arr := (h.arr.but hb (off 0 (by omega) (by omega) _ h.t0))
      row := fun j hj => (hb.cell (p := ⟨P.r, j, none⟩) (h.lt _ _ h.t1) (off 1 (by omega) (by omega) _ h.t1)).trans (h.row j hj)
      pw := hp
      nv := At.but h.nv hb (off 3 (by omega) (by omega) _ h.t3)
      dk := ?_
      ap := ?_
      t0 := by rw [if_neg (by omega)]; exact h.t0
      t1 := by rw [if_neg (by omega)]; exact h.t1
      t2 := by rw [if_neg (by omega)]; exact h.t2
      t3 := by rw [if_neg (by omega)]; exact h.t3
      lt := ?_
      wf := ⟨h.wf.small, h.wf.sect, h.wf.some_, by have := h.wf.u0; show 0 ≤ s.u + 1; omega, h.wf.st, ?_⟩ }
  · intro j hj
    by_cases e : j = i
    · subst e
      simp only [if_true]
      exact hd
    · have e1 : ¬ 4 + j = 4 + i := by omega
      simp only [e, e1, if_false]
      exact (h.dk j hj).but hb (off _ e1 (by omega))
  · intro x y k hx hy
    by_cases e1 : x = 4 + i <;> by_cases e2 : y = 4 + i
    · omega
    · simp only [e1, e2, if_true, if_false] at hx hy
      rcases hT k hx with h' | h'
      · rw [e1]; exact h.ap _ _ _ h' hy
      · have := h.lt _ _ hy; omega
    · simp only [e1, e2, if_true, if_false] at hx hy
      rcases hT k hy with h' | h'
      · rw [e2]; exact h.ap _ _ _ hx h'
      · have := h.lt _ _ hx; omega
    · simp only [e1, e2, if_false] at hx hy
      exact h.ap _ _ _ hx hy
  · intro j k hk
    by_cases e : j = 4 + i
    · simp only [e, if_true] at hk
      exact hd.lt k hk
    · simp only [e, if_false] at hk
      exact Nat.lt_of_lt_of_le (h.lt _ _ hk) hb.size
  · intro j hj
    obtain ⟨k1, k2, k3⟩ := h.wf.each j hj
    by_cases e : j = i
    · subst e
      simp only [if_true]
      exact ⟨h1.trans k1, by rw [h2]; exact k2, fun q => by have a := h3 q; have c := k3 q; show 0 ≤ d.writes q ∧ d.writes q ≤ s.u + 1; omega⟩
    · simp only [e, if_false]
      exact ⟨k1, k2, fun q => by have c := k3 q; show 0 ≤ (s.d j).writes q ∧ (s.d j).writes q ≤ s.u + 1; omega⟩

/-- The array behind a call: its blocks are those that were its own, or new ones; nothing else has turned. -/
def Dil (w : World) (P : Pl) (O : Nat → Prop) (s' : AS) (l : Int) (w' : World) : Prop := ∃ O', Arl w' P O' s' l ∧ (∀ k, O' k → O k ∨ w.heap.size ≤ k) ∧ But O w w'

theorem Arl.turn {i : Nat} {d : DS} (h : Arl w P O s l) (hi : i < s.M)
    (hd : ∀ T, Dk w (P.g i) P.p T (s.d i) → ∃ T', Dk w' (P.g i) P.p T' d ∧ (∀ k, T' k → T k ∨ w.heap.size ≤ k) ∧ But (fun k => T k ∨ k = P.p) w w') (l2 : Int) (hp : Pw w' P.p (s.u + 1) l2)
    (h1 : d.sectors = (s.d i).sectors) (h2 : d.size = (s.d i).size) (h3 : ∀ j, (s.d i).writes j ≤ d.writes j ∧ d.writes j ≤ (s.d i).writes j + 1) :
    Dil w P O { s with d := fun j => if j = i then d else s.d j, u := s.u + 1 } l2 w' := by
  obtain ⟨T, h, hO⟩ := h
  obtain ⟨T', hd', hT, hb⟩ := hd _ (h.dk i hi)
  refine ⟨fun k => ∃ j, (fun j k => if j = 4 + i then T' k else T j k) j k, ⟨_, h.turn hi hd' l2 hp hT hb h1 h2 h3, fun k => Iff.rfl⟩, ?_, hb.mono ?_⟩
  · rintro k ⟨j, hj⟩
    by_cases e : j = 4 + i
    · simp only [e, if_true] at hj
      exact (hT k hj).imp (fun h => (hO k).2 ⟨_, h⟩) id
    · simp only [e, if_false] at hj
      exact .inl ((hO k).2 ⟨_, hj⟩)
  · rintro k (e | e) _
    · exact (hO k).2 ⟨_, e⟩
    · exact (hO k).2 ⟨2, e ▸ h.t2⟩
theorem Dil.trans {O1 : Nat → Prop} {s2 : AS} {w1 w2 : World} (h1 : ∀ k, O1 k → O k ∨ w.heap.size ≤ k) (hb : But O w w1) (h : Dil w1 P O1 s2 l w2) : Dil w P O s2 l w2 := by
  obtain ⟨O2, a, b, c⟩ := h
  refine ⟨O2, a, fun k hk => ?_, hb.trans c (fun k hk hlt => ?_)⟩
  · rcases b k hk with h | h
    · exact h1 k h
    · exact .inr (Nat.le_trans hb.size h)
  · rcases h1 k hk with h | h
    · exact h
    · omega
/-- Without a limit. -/
theorem Arr.arl (h : Arr w P O s) : Arl w P O s (-1) := by
  obtain ⟨T, h, hO⟩ := h
  exact ⟨T, ⟨h.arr, h.row, h.pw, h.nv, h.dk, h.ap, h.t0, h.t1, h.t2, h.t3, h.lt, h.wf⟩, hO⟩
theorem Arl.arr (h : Arl w P O s (-1)) : Arr w P O s := by
  obtain ⟨T, h, hO⟩ := h
  exact ⟨T, ⟨h.arr, h.row, h.pw, h.nv, h.dk, h.ap, h.t0, h.t1, h.t2, h.t3, h.lt, h.wf⟩, hO⟩
/-- Another limit. -/
theorem Arl.limit {l2 : Int} (h : Arl w P O s l) (hp : Pw w' P.p s.u l2) (hb : But (fun k => k = P.p) w w') : Arl w' P O s l2 := by
  obtain ⟨T, h, hO⟩ := h
  have off : ∀ j, j ≠ 2 → ∀ k, T j k → ¬ k = P.p := fun j hj k hk e => hj (h.ap _ _ _ hk (e ▸ h.t2))
  exact ⟨T,
    { arr := h.arr.but hb (off 0 (by omega) _ h.t0)
      row := fun i hi => (hb.cell (p := ⟨P.r, i, none⟩) (h.lt _ _ h.t1) (off 1 (by omega) _ h.t1)).trans (h.row i hi)
      pw := hp
      nv := At.but h.nv hb (off 3 (by omega) _ h.t3)
      dk := fun i hi => (h.dk i hi).but hb (off _ (by omega))
      ap := h.ap
      t0 := h.t0
      t1 := h.t1
      t2 := h.t2
      t3 := h.t3
      lt := fun i k hk => Nat.lt_of_lt_of_le (h.lt i k hk) hb.size
      wf := h.wf }, hO⟩
theorem Arl.pw (h : Arl w P O s l) : Pw w P.p s.u l := by obtain ⟨T, hY, hO⟩ := h; exact hY.pw
theorem Arl.many (h : Arl w P O s l) : 3 ≤ (s.M : Int) ∧ (s.M : Int) ≤ 5 := h.wf.small.hm
theorem Arl.own (h : Arl w P O s l) : O P.a ∧ O P.r ∧ O P.p ∧ O P.n := by
  obtain ⟨T, hY, hO⟩ := h
  exact ⟨(hO _).2 ⟨_, hY.t0⟩, (hO _).2 ⟨_, hY.t1⟩, (hO _).2 ⟨_, hY.t2⟩, (hO _).2 ⟨_, hY.t3⟩⟩
end

section
variable {w w' : World} {P : Pl} {O : Nat → Prop} {s : AS} {l : Int}
theorem Ayl.did {T : Nat → Nat → Prop} {T' : Nat → Prop} {i : Nat} {d : DS} (h : Ayl w P T s l) (hO : ∀ k, O k ↔ ∃ i, T i k) (hi : i < s.M) (hd : Dk w' (P.g i) P.p T' d) (l2 : Int) (hp : Pw w' P.p (s.u + 1) l2) (hT : ∀ k, T' k → T (4 + i) k ∨ w.heap.size ≤ k) (hb : But (fun k => T (4 + i) k ∨ k = P.p) w w')
    (h1 : d.sectors = (s.d i).sectors) (h2 : d.size = (s.d i).size) (h3 : ∀ j, (s.d i).writes j ≤ d.writes j ∧ d.writes j ≤ (s.d i).writes j + 1) : Dil w P O (s.turn i d) l2 w' := by
  refine ⟨fun k => ∃ j, (fun j k => if j = 4 + i then T' k else T j k) j k, ⟨_, h.turn hi hd l2 hp hT hb h1 h2 h3, fun k => Iff.rfl⟩, ?_, hb.mono ?_⟩
  · rintro k ⟨j, hj⟩
    by_cases e : j = 4 + i
    · simp only [e, if_true] at hj
      exact (hT k hj).imp (fun h => (hO k).2 ⟨_, h⟩) id
    · simp only [e, if_false] at hj
      exact .inl ((hO k).2 ⟨_, hj⟩)
  · rintro k (e | e) _
    · exact (hO k).2 ⟨_, e⟩
    · exact (hO k).2 ⟨2, e ▸ h.t2⟩
/-- A member is flushed, under a limit. -/
theorem dflushL (m : Nat) (hm : m < s.M) (h : Arl w P O s l) (hu : s.u ≤ 900000) (hl : l ≤ 1000000) :
    Calls Tryz.prog 180 #[.pointer (some ⟨P.g m, 0, none⟩)] w fun e w' => (l ≠ 0 ∧ e = .returned (.int .i64 (err ((s.d m).op s.u).dead)) ∧ Dil w P O (s.turn m ((s.d m).fl s.u)) (less l) w') ∨ (l = 0 ∧ e = .panicked out ∧ w' = w) := by
  obtain ⟨T, hA, hO⟩ := h
  by_cases h0 : l = 0
  · subst h0
    refine (flush_out s.u (hA.dk m hm) hA.pw).mono ?_
    rintro e w' ⟨rfl, rfl⟩
    exact .inr ⟨rfl, rfl, rfl⟩
  · refine (flush_go s.u l (hA.dk m hm) hA.pw (by have := hA.wf.u0; omega) h0 (by omega)).mono ?_
    rintro e w' ⟨rfl, hd, hp, hb⟩
    have ht := fl_turns (s.d m) s.u
    have hw : ((s.d m).fl s.u).writes = (s.d m).writes := by unfold DS.fl; split <;> rfl
    exact .inl ⟨h0, rfl, hA.did hO hm hd _ hp (fun k hk => .inl hk) hb ht.sectors ht.size (fun j => by rw [hw]; omega)⟩
/-- A member is written, under a limit. -/
theorem dwriteL (m : Nat) (hm : m < s.M) (i : Int) (hi : 0 ≤ i ∧ i < (s.S : Int)) (A : Option Addr) (n cap : Nat) (b : Bytes) (hn : (n : Int) = s.b) (hb : Has w A n b) (hA : ∀ x, A = some x → ¬ O x.block) (h : Arl w P O s l) (hu : s.u ≤ 900000) (hl : l ≤ 1000000) :
    Calls Tryz.prog 182 #[.pointer (some ⟨P.g m, 0, none⟩), .int .i64 i, .slice A n cap] w fun e w' => (l ≠ 0 ∧ e = .returned (.int .i64 (err ((s.d m).op s.u).dead)) ∧ Dil w P O (s.turn m ((s.d m).put s.u i b)) (less l) w') ∨ (l = 0 ∧ e = .panicked out ∧ w' = w) := by
  obtain ⟨T, hY, hO⟩ := h
  have hw := hY.wf.each m hm
  have u0 := hY.wf.u0
  have hn' : n = (s.d m).size := by have := hw.2.1; omega
  subst hn'
  have hhas : (s.d m).has i := by unfold DS.has; rw [hw.1]; exact hi
  by_cases h0 : l = 0
  · subst h0
    refine (write_out i s.u A cap hhas (hY.dk m hm) hY.pw).mono ?_
    rintro e w' ⟨rfl, rfl⟩
    exact .inr ⟨rfl, rfl, rfl⟩
  · refine (write_go i s.u l A cap b hhas (hY.dk m hm) hY.pw hb (fun x hx => ⟨fun e => hA x hx ((hO _).2 ⟨4 + m, by rw [e]; exact (hY.dk m hm).own⟩), fun e => hA x hx ((hO _).2 ⟨2, by rw [e]; exact hY.t2⟩)⟩) (by omega) h0 (by omega) (by have := hw.2.2 i; omega)).mono ?_
    rintro e w' ⟨T', rfl, hd, hp, hT, hb⟩
    have ht := put_turns (s.d m) s.u i b
    refine .inl ⟨h0, rfl, hY.did hO hm hd _ hp hT hb ht.sectors ht.size (fun j => ?_)⟩
    unfold DS.put
    split
    · show (s.d m).writes j ≤ (s.d m).writes j ∧ _
      exact ⟨Int.le_refl _, by show (s.d m).writes j ≤ (s.d m).writes j + 1; omega⟩
    · unfold DS.write
      show (s.d m).writes j ≤ (if j = i then (s.d m).writes j + 1 else (s.d m).writes j) ∧ (if j = i then (s.d m).writes j + 1 else (s.d m).writes j) ≤ (s.d m).writes j + 1
      split <;> omega
end

end Go.Proofs.YtplmdmchkaacoaaGreat
