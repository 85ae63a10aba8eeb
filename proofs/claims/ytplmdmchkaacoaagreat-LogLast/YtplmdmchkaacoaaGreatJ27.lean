/-
  TEXTS JOINED: L7Recs, L7Nv, L7Append, L7WalkA.
-/
import Derived.Test.YtplmdmchkaacoaaGreatJ26
import Derived.Test.YtplmdmchkaacoaaGreatJ20
import Derived.Test.YtplmdmchkaacoaaGreatJ22
import Derived.Deep.MidRow
import Derived.Deep.WholeRow
import Derived.Laws.ResultCell
import Derived.Deep.RegionLaw

/-
  RECORDS, AND ROWS OF THEM: their cells; a row of the call's own that holds records; parts of a block loaded and stored.
-/
namespace Go.Proofs.YtplmdmchkaacoaaGreat.L7
open Go.RowKit
set_option linter.unusedVariables false
set_option maxRecDepth 100000

/-- A record as it lies in memory: its number, its kind, its block, where its bytes lie, and the bytes. -/
structure Rc where
  seq : Nat
  kind : Int
  lba : Int
  A : Option Addr
  n : Nat
  c : Nat
  l : List (BitVec 8)
/-- What a record says. -/
structure Rr where
  seq : Nat
  kind : Int
  lba : Int
  l : List (BitVec 8)
def Rc.abs (x : Rc) : Rr := ⟨x.seq, x.kind, x.lba, x.l⟩
def Rc.cs (x : Rc) : List Value := [.int .u64 (x.seq : Int), .int .i64 x.kind, .int .i64 x.lba, .slice x.A x.n x.c]
def flat (L : List Rc) : List Value := L.flatMap Rc.cs

theorem flat_nil : flat [] = [] := rfl
theorem flat_cons (x : Rc) (L : List Rc) : flat (x :: L) = x.cs ++ flat L := by simp [flat]
theorem flat_append (L M : List Rc) : flat (L ++ M) = flat L ++ flat M := by simp [flat]
theorem cs_len (x : Rc) : x.cs.length = 4 := rfl
theorem flat_len : ∀ L : List Rc, (flat L).length = L.length * 4
  | [] => rfl
  | x :: L => by rw [flat_cons, List.length_append, flat_len L, cs_len, List.length_cons]; omega
theorem flat_get : ∀ (L : List Rc) (i : Nat) (h : i < L.length) (j : Nat), j < 4 → (flat L)[i * 4 + j]? = L[i].cs[j]?
  | x :: L, 0, _, j, hj => by
    rw [flat_cons, List.getElem?_append_left (by rw [cs_len]; omega)]
    simp
  | x :: L, i + 1, h, j, hj => by
    rw [flat_cons, List.getElem?_append_right (by rw [cs_len]; omega), cs_len, show (i + 1) * 4 + j - 4 = i * 4 + j by omega]
    exact flat_get L i (by simpa using h) j hj
theorem flat_take (L : List Rc) (i : Nat) (h : i ≤ L.length) : (flat L).take (i * 4) = flat (L.take i) := by
  have e : flat L = flat (L.take i) ++ flat (L.drop i) := by rw [← flat_append, List.take_append_drop]
  rw [e]
  exact List.take_left' (by rw [flat_len, List.length_take]; congr 1; omega)
theorem flat_drop (L : List Rc) (i : Nat) (h : i ≤ L.length) : (flat L).drop (i * 4) = flat (L.drop i) := by
  have e : flat L = flat (L.take i) ++ flat (L.drop i) := by rw [← flat_append, List.take_append_drop]
  rw [e]
  exact List.drop_left' (by rw [flat_len, List.length_take]; congr 1; omega)
theorem flat_set (L : List Rc) (i : Nat) (x : Rc) (h : i < L.length) : (flat L).take (i * 4) ++ x.cs ++ (flat L).drop (i * 4 + 4) = flat (L.set i x) := by
  rw [flat_take L i (by omega), show i * 4 + 4 = (i + 1) * 4 by omega, flat_drop L (i + 1) (by omega), List.set_eq_take_append_cons_drop, if_pos h, flat_append, flat_cons, List.append_assoc]
theorem cs_one (x : Rc) : ∀ u ∈ x.cs, u.oneCell' = true := by
  intro u hu
  simp [Rc.cs] at hu
  rcases hu with rfl | rfl | rfl | rfl <;> rfl
theorem flat_one (L : List Rc) : ∀ u ∈ flat L, u.oneCell' = true := by
  intro u hu
  obtain ⟨x, _, hx⟩ := List.mem_flatMap.mp hu
  exact cs_one x u hx

/-- A row of the call's own holds the records L; none of their bytes lies in the row's own block. -/
structure Rw (w : World) (B : Nat) (v : Value) (L : List Rc) : Prop where
  own : w.ownsRow B 111 4 v L.length (flat L)
  has : ∀ x ∈ L, Has w x.A x.n x.l
  len : ∀ x ∈ L, x.n ≤ 100
  off : ∀ x ∈ L, 0 < x.n → ∀ a, x.A = some a → v.ownBlock ≠ some a.block

section
variable {w w' : World} {B : Nat} {v : Value} {L : List Rc} {S : Nat → Prop}
theorem Rw.nil (w : World) (B : Nat) : Rw w B (.slice none 0 0) [] :=
  ⟨World.ownsRow_nil _ _ _ _, fun x hx => (by cases hx), fun x hx => (by cases hx), fun x hx => (by cases hx)⟩
theorem Rw.slice (h : Rw w B v L) : ∃ A c, v = .slice A L.length c := by
  rcases h.own.2 with ⟨rfl, e⟩ | ⟨g, cap, cur, rfl, _⟩
  · exact ⟨none, 0, by rw [e]⟩
  · exact ⟨_, cap, rfl⟩
theorem Rw.form (h : Rw w B v L) (hn : 0 < L.length) : ∃ g cap tail, v = .slice (some ⟨g, 0, none⟩) L.length cap ∧ B ≤ g ∧ At w g (flat L ++ tail).toArray 111 ∧ (flat L ++ tail).length = cap * 4 ∧ L.length ≤ cap ∧ cap ≤ maxLen := by
  rcases h.own.2 with ⟨rfl, e⟩ | ⟨g, cap, cur, rfl, hB, hh, hnc, hcm, hcs, htk⟩
  · omega
  · have e : flat L ++ cur.toList.drop (L.length * 4) = cur.toList := by rw [← htk, List.take_append_drop]
    refine ⟨g, cap, cur.toList.drop (L.length * 4), rfl, hB, ?_, ?_, hnc, hcm⟩
    · unfold At
      rw [e, Array.toArray_toList]
      exact hh
    · rw [e, Array.length_toList, hcs]
theorem Rw.of_at {g cap : Nat} {tail : List Value} (hat : At w g (flat L ++ tail).toArray 111) (hs : (flat L ++ tail).length = cap * 4) (hnc : L.length ≤ cap) (hcm : cap ≤ maxLen) (hB : B ≤ g)
    (hh : ∀ x ∈ L, Has w x.A x.n x.l) (hl : ∀ x ∈ L, x.n ≤ 100) (ho : ∀ x ∈ L, 0 < x.n → ∀ a, x.A = some a → g ≠ a.block) : Rw w B (.slice (some ⟨g, 0, none⟩) L.length cap) L :=
  ⟨⟨flat_len L, .inr ⟨g, cap, _, rfl, hB, hat, hnc, hcm, by simpa using hs, by rw [List.take_left' (flat_len L)]⟩⟩, hh, hl, fun x hx h0 a ha e => ho x hx h0 a ha (by simpa [Value.ownBlock] using e)⟩
/-- One of the records: its cells. -/
theorem row_cells {g : Nat} {tail : List Value} (hat : At w g (flat L ++ tail).toArray 111) {i : Nat} (hi : i < L.length) : ∀ j, j < 4 → w.cell? ⟨g, i * 4 + j, none⟩ = L[i].cs[j]? := by
  intro j hj
  rw [hat.cell]
  simp only [List.getElem?_toArray]
  rw [List.getElem?_append_left (by rw [flat_len]; omega), flat_get L i hi j hj]
theorem Rw.low (h : Rw w B v L) : ∀ x ∈ L, 0 < x.n → ∀ a, x.A = some a → a.block < w.heap.size := by
  intro x hx h0 a ha
  obtain ⟨b, o, e, hb, _⟩ := (h.has x hx).2 h0
  rw [ha] at e
  injection e with e
  subst e
  exact hb
theorem _root_.Go.Proofs.YtplmdmchkaacoaaGreat.Has.apart {A : Option Addr} {n : Nat} {l : List (BitVec 8)} (h : Has w A n l) (hb : But S w w') (hn : 0 < n → ∀ x, A = some x → ¬ S x.block) : Has w' A n l :=
  ⟨h.1, fun h0 => by
    obtain ⟨b, off, e, hlt, hc⟩ := h.2 h0
    exact ⟨b, off, e, Nat.lt_of_lt_of_le hlt hb.size, fun k hk => (hb.cell (p := ⟨b, off + k, none⟩) hlt (hn h0 ⟨b, off, none⟩ e)).trans (hc k hk)⟩⟩
theorem Rw.but (h : Rw w B v L) (hb : But S w w') (hv : ∀ k, v.ownBlock = some k → ¬ S k) (hd : ∀ x ∈ L, 0 < x.n → ∀ a, x.A = some a → ¬ S a.block) : Rw w' B v L :=
  ⟨own_but h.own hb hv, fun x hx => (h.has x hx).apart hb (hd x hx), h.len, h.off⟩
theorem Rw.up (h : Rw w B v L) (hb : Below w.heap.size w w') : Rw w' B v L :=
  h.but (S := fun _ => False) (But.of_below hb) (fun _ _ h => h) (fun _ _ _ _ _ h => h)
theorem Rw.base {B' : Nat} (h : Rw w B v L) (hb : ∀ k, v.ownBlock = some k → B' ≤ k) : Rw w B' v L := ⟨own_base h.own hb, h.has, h.len, h.off⟩
/-- One more at the end. -/
theorem Rw.push {w1 : World} {A : Option Addr} {m c : Nat} {x : Rc} (h : Rw w B v L) (hown : w1.ownsRow B 111 4 (.slice A m c) m (flat (L ++ [x]))) (hg : w.grownBy w1 v.ownBlock)
    (hf : ∀ g, (Value.slice A m c).ownBlock = some g → v.ownBlock = some g ∨ w.heap.size ≤ g) (hx : Has w x.A x.n x.l) (hl : x.n ≤ 100) (ho : 0 < x.n → ∀ a, x.A = some a → v.ownBlock ≠ some a.block) : Rw w1 B (.slice A m c) (L ++ [x]) := by
  have bt : But (fun k => v.ownBlock = some k) w w1 := (But.refl _ _).grown hg (fun k hk _ => hk)
  have hm : m = (L ++ [x]).length := by have := hown.1; rw [flat_len] at this; omega
  have low : ∀ y : Rc, Has w y.A y.n y.l → 0 < y.n → ∀ a, y.A = some a → a.block < w.heap.size := by
    intro y hy h0 a ha
    obtain ⟨b, o, e, hb, _⟩ := hy.2 h0
    rw [ha] at e
    injection e with e
    subst e
    exact hb
  refine ⟨by rw [← hm]; exact hown, fun y hy => ?_, fun y hy => ?_, fun y hy h0 a ha e => ?_⟩
  · rcases List.mem_append.1 hy with hy | hy
    · exact (h.has y hy).apart bt (fun h0 a ha => h.off y hy h0 a ha)
    · simp at hy; subst hy
      exact hx.apart bt (fun h0 a ha => ho h0 a ha)
  · rcases List.mem_append.1 hy with hy | hy
    · exact h.len y hy
    · simp at hy; subst hy; exact hl
  · rcases List.mem_append.1 hy with hy | hy
    · rcases hf _ e with e | e
      · exact h.off y hy h0 a ha e
      · have := low y (h.has y hy) h0 a ha; omega
    · simp at hy; subst hy
      rcases hf _ e with e | e
      · exact ho h0 a ha e
      · have := low y hx h0 a ha; omega
end

theorem rec_info : (Tryz.prog.info? 111).map (fun i => (i.zero, i.size, i.bytes)) = some (some (.agg #[.int .u64 0, .int .i64 0, .int .i64 0, .slice none 0 0]), 4, 48) := by kernel_rfl
theorem rec_size : (Tryz.prog.info? 111).map (·.size) = some 4 := by kernel_rfl
theorem root_size : (Tryz.prog.info? 96).map (·.size) = some 9 := by kernel_rfl
end Go.Proofs.YtplmdmchkaacoaaGreat.L7

/-
  THE MEMORY: its root, its records, its last number; the walks of New, Len, Root, Set.
-/
namespace Go.Proofs.YtplmdmchkaacoaaGreat.L7
open Go.RowKit
set_option linter.unusedVariables false
set_option maxRecDepth 100000

/-- What a memory is. -/
structure NS where
  root : Rt
  last : Nat
  recs : List Rr
def NS.new : NS := ⟨⟨0, 0, 0, 0, 0, 0, 0, 0, -1⟩, 0, []⟩
def NS.set (s : NS) (r : Rt) : NS := { s with root := r }
def NS.add (s : NS) (k lba : Int) (l : List (BitVec 8)) : NS := { s with last := s.last + 1, recs := s.recs ++ [⟨s.last + 1, k, lba, l⟩] }
def NS.commit (s : NS) (d : Int) (u : Nat) : NS := { s with root := { s.root with dur := d }, recs := s.recs.filter (fun r => decide (u < r.seq)) }

/-- The memory at block g, on the power at p; T: its own blocks. -/
structure NvIs (w : World) (g p : Nat) (T : Nat → Prop) (s : NS) (v : Value) (L : List Rc) : Prop where
  at_ : At w g (ncells p s.root v s.last) 114
  rw : Rw w 0 v L
  abs : L.map Rc.abs = s.recs
  gT : T g
  vT : ∀ k, v.ownBlock = some k → T k ∧ k ≠ g
  dT : ∀ x ∈ L, 0 < x.n → ∀ a, x.A = some a → T a.block ∧ a.block ≠ g
  lt : ∀ k, T k → k < w.heap.size
  np : ¬ T p
def Nv (w : World) (g p : Nat) (T : Nat → Prop) (s : NS) : Prop := ∃ v L, NvIs w g p T s v L

section
variable {w w' : World} {g p : Nat} {T S : Nat → Prop} {s : NS} {v : Value} {L : List Rc}
theorem NvIs.but (h : NvIs w g p T s v L) (hb : But S w w') (hS : ∀ k, T k → ¬ S k) : NvIs w' g p T s v L :=
  ⟨h.at_.but hb (hS g h.gT), h.rw.but hb (fun k hk => hS k (h.vT k hk).1) (fun x hx h0 a ha => hS _ (h.dT x hx h0 a ha).1), h.abs, h.gT, h.vT, h.dT, fun k hk => Nat.lt_of_lt_of_le (h.lt k hk) hb.size, h.np⟩
theorem Nv.but (h : Nv w g p T s) (hb : But S w w') (hS : ∀ k, T k → ¬ S k) : Nv w' g p T s := by
  obtain ⟨v, L, h⟩ := h
  exact ⟨v, L, h.but hb hS⟩
theorem Nv.lt (h : Nv w g p T s) : ∀ k, T k → k < w.heap.size := by obtain ⟨v, L, h⟩ := h; exact h.lt
theorem Nv.own (h : Nv w g p T s) : T g := by obtain ⟨v, L, h⟩ := h; exact h.gT
theorem Nv.np (h : Nv w g p T s) : ¬ T p := by obtain ⟨v, L, h⟩ := h; exact h.np
theorem NvIs.len (h : NvIs w g p T s v L) : L.length = s.recs.length := by rw [← h.abs, List.length_map]
/-- What is read of the memory's own block. -/
theorem NvIs.cells (h : NvIs w g p T s v L) : w.cell? ⟨g, 0, none⟩ = some (.pointer (some ⟨p, 0, none⟩)) ∧ w.cell? ⟨g, 5, none⟩ = some (.int .i64 s.root.n) ∧ w.cell? ⟨g, 10, none⟩ = some v ∧ w.cell? ⟨g, 11, none⟩ = some (.int .u64 (s.last : Int)) :=
  ⟨h.at_.cell 0, h.at_.cell 5, h.at_.cell 10, h.at_.cell 11⟩
theorem NvIs.frozen (h : NvIs w g p T s v L) (j : Nat) : w.frozen? ⟨g, j, none⟩ = false := h.at_.frozen j

theorem new_nv (p : Nat) (w : World) (hp : p < w.heap.size) : Calls Tryz.prog 98 #[.pointer (some ⟨p, 0, none⟩)] w fun e w' => e = .returned (.pointer (some ⟨w.heap.size, 0, none⟩)) ∧ Nv w' w.heap.size p (fun k => k = w.heap.size) NS.new ∧ Below w.heap.size w w' := by
  go_enter Tryz.func98, Tryz.ntmps98
  go_wp2
  go_ret
  refine ⟨rfl, ⟨.slice none 0 0, [], At.new _ 114 rfl, Rw.nil _ _, rfl, rfl, fun k hk => by simp [Value.ownBlock] at hk, fun x hx => (by cases hx), fun k hk => by simp [hk], fun e => by omega⟩, (Below.refl _ _).alloc (Nat.le_refl _) _⟩

theorem len_any (h : Nv w g p T s) : Calls Tryz.prog 33 #[.pointer (some ⟨g, 0, none⟩)] w fun e w' => e = .returned (.int .i64 (s.recs.length : Int)) ∧ w' = w := by
  obtain ⟨v, L, h⟩ := h
  obtain ⟨A, c, rfl⟩ := h.rw.slice
  have c10 := h.cells.2.2.1
  rw [h.len] at c10
  clear h
  go_enter Tryz.func33, Tryz.ntmps33
  go_wp2
  go_ret
  exact ⟨rfl, rfl⟩

theorem root_any (h : Nv w g p T s) : Calls Tryz.prog 40 #[.pointer (some ⟨g, 0, none⟩)] w fun e w' => e = .returned (.agg s.root.cs) ∧ Below w.heap.size w w' := by
  obtain ⟨v, L, h⟩ := h
  have H := Lib.hid (h.at_.alloc (.cells #[.int .i64 0, .int .i64 0, .int .i64 0, .int .i64 0, .int .i64 0, .int .i64 0, .int .u64 0, .int .u64 0, .int .i64 0] 96))
  have hg := h.at_.lt
  clear h
  go_enter Tryz.func40, Tryz.ntmps40
  go_wp2_with (first
    | (refine wpList_load_part rfl 96 (.tmp 5) rfl g 1 s.root.cs _ ?_ ?_ Tryz.underlying96 rfl root_size ?_)
    | (refine wpList_store_part rfl 96 (.tmp 2) (.tmp 6) rfl w.heap.size 0 96 #[.int .i64 0, .int .i64 0, .int .i64 0, .int .i64 0, .int .i64 0, .int .i64 0, .int .u64 0, .int .u64 0, .int .i64 0] s.root.cs ?_ ?_ ?_ root_size ?_ ?_ ?_))
  any_goals first | rfl | exact At.new _ 96 rfl | exact rt_one _ | (show 0 + 9 ≤ 9; omega)
  · intro j hj
    rw [H.out.cell]
    match j, hj with
    | 0, _ => rfl
    | 1, _ => rfl
    | 2, _ => rfl
    | 3, _ => rfl
    | 4, _ => rfl
    | 5, _ => rfl
    | 6, _ => rfl
    | 7, _ => rfl
    | 8, _ => rfl
  · intro w2 hat hb
    have A2 := Lib.hid hat
    have B2 := Lib.hid hb
    clear hat hb
    go_wp2
    refine bodyPost_ret (results_cell_row (p := 2) (ty := 96) rfl _ w2 w.heap.size 96 s.root.cs (0, 0) _ rfl A2.out Tryz.underlying96 rfl root_size) rfl ?_
    exact ⟨rfl, ((Below.refl _ _).alloc (Nat.le_refl _) _).trans (B2.out.below (fun k e => Nat.le_of_eq e.symm) (by simp))⟩

theorem part_root (r q : Rt) (v : Value) (last : Nat) : part (ncells p q v last) 1 r.cs = ncells p r v last := rfl

theorem set_out (u : Int) (r : Rt) (h : Nv w g p T s) (hp : Pw w p u 0) : Calls Tryz.prog 99 #[.pointer (some ⟨g, 0, none⟩), .agg r.cs] w fun e w' => e = .panicked out ∧ ∃ o, w' = w.alloc o := by
  obtain ⟨v, L, h⟩ := h
  have c0 : (w.alloc (.cells r.cs 96)).cell? ⟨g, 0, none⟩ = some (.pointer (some ⟨p, 0, none⟩)) := (h.at_.alloc _).cell 0
  have P1 := Lib.hid (show Pw (w.alloc (.cells r.cs 96)) p u 0 from At.alloc hp _)
  clear h hp
  go_enter Tryz.func99, Tryz.ntmps99
  go_wp2_with fail
  refine (tick_out p u _ P1.out).mono ?_
  rintro e w' ⟨rfl, rfl⟩
  unfold out
  go_wp2
  exact ⟨rfl, rfl, _, rfl⟩

theorem set_go (u l : Int) (r : Rt) (h : Nv w g p T s) (hp : Pw w p u l) (hu : 0 ≤ u ∧ u ≤ 1000000) (hl : ¬ l = 0) (hm : l ≤ 9223372036854775807) :
    Calls Tryz.prog 99 #[.pointer (some ⟨g, 0, none⟩), .agg r.cs] w fun e w' => e = .returned (.tuple #[]) ∧ Nv w' g p T (s.set r) ∧ Pw w' p (u + 1) (less l) ∧ But (fun k => T k ∨ k = p) w w' := by
  obtain ⟨v, L, h⟩ := h
  have c0 : (w.alloc (.cells r.cs 96)).cell? ⟨g, 0, none⟩ = some (.pointer (some ⟨p, 0, none⟩)) := (h.at_.alloc _).cell 0
  have P1 := Lib.hid (show Pw (w.alloc (.cells r.cs 96)) p u l from At.alloc hp _)
  have A1 := Lib.hid (show At (w.alloc (.cells r.cs 96)) w.heap.size r.cs 96 from At.new _ 96 rfl)
  have N1 := Lib.hid (h.but (S := fun _ => False) ((But.refl _ w).alloc (.cells r.cs 96)) (fun _ _ h => h))
  have hpl := Lib.hid hp.lt
  have O1 := Lib.hid (show ∀ k, T k → ¬ k = w.heap.size from fun k hk e => by have := h.lt k hk; omega)
  have B1 := Lib.hid ((But.refl (fun k => T k ∨ k = p) w).alloc (.cells r.cs 96))
  clear h hp
  go_enter Tryz.func99, Tryz.ntmps99
  go_wp2_with fail
  refine (tick_go p u l _ P1.out hu hl hm).mono ?_
  rintro e w2 ⟨rfl, hp2, hb2⟩
  have N2 := Lib.hid (N1.out.but hb2 (fun k hk e => N1.out.np (e ▸ hk)))
  have A2 := Lib.hid (A1.out.but hb2 (by have := hpl.out; omega))
  have P2 := Lib.hid hp2
  have B2 := Lib.hid (B1.out.trans hb2 (fun k e _ => .inr e))
  clear hp2 hb2 c0
  go_wp2_with (first
    | (refine wpList_load_part rfl 96 (.tmp 3) rfl w.heap.size 0 r.cs _ ?_ ?_ Tryz.underlying96 rfl root_size ?_)
    | (refine wpList_store_part rfl 96 (.tmp 12) (.tmp 10) rfl g 1 114 (ncells p s.root v s.last) r.cs ?_ ?_ ?_ root_size ?_ ?_ ?_))
  any_goals first | rfl | exact N2.out.at_ | exact rt_one _ | (show 1 + 9 ≤ 12; omega)
  · intro j hj
    rw [Nat.zero_add]
    exact A2.out.cell j
  · intro w3 hat hb
    rw [part_root] at hat
    have N3 := Lib.hid (show NvIs w3 g p T (s.set r) v L from ⟨hat, N2.out.rw.but hb (fun k hk => (N2.out.vT k hk).2) (fun x hx h0 a ha => (N2.out.dT x hx h0 a ha).2), N2.out.abs, N2.out.gT, N2.out.vT, N2.out.dT, fun k hk => Nat.lt_of_lt_of_le (N2.out.lt k hk) hb.size, N2.out.np⟩)
    have P3 := Lib.hid (show Pw w3 p (u + 1) (less l) from At.but P2.out hb (fun e => N2.out.np (e ▸ N2.out.gT)))
    have B3 := Lib.hid (B2.out.trans hb (fun k e _ => .inl (e ▸ N2.out.gT)))
    clear hat hb
    go_wp2
    go_end0
    exact ⟨rfl, ⟨v, L, N3.out⟩, P3.out, B3.out⟩
end

end Go.Proofs.YtplmdmchkaacoaaGreat.L7

/-
  THE WALK OF Append; 'append' of records to a row.
-/
namespace Go.Proofs.YtplmdmchkaacoaaGreat.L7
open Go.RowKit
set_option linter.unusedVariables false
set_option maxRecDepth 100000

/-- Where a source of records lies. -/
def Src (w : World) (S : Addr) (m : Nat) (M : List Rc) : Prop := M.length = m ∧ ∀ j u, (flat M)[j]? = some u → w.cell? (S.add j) = some u
theorem Src.one {w : World} {g : Nat} (x : Rc) (h : At w g #[.int .u64 (x.seq : Int), .int .i64 x.kind, .int .i64 x.lba, .slice x.A x.n x.c] 111) : Src w ⟨g, 0, none⟩ 1 [x] := by
  refine ⟨rfl, fun j u hu => ?_⟩
  rw [Addr.add_mid, Nat.zero_add, h.cell]
  rw [show flat [x] = x.cs by simp [flat]] at hu
  rw [← hu]
  simp [Rc.cs]

theorem run_append_rec {w : World} {ty : TypeId} (base : Nat) (v : Value) (n : Nat) (L : List Rc) (hown : w.ownsRow base 111 4 v n (flat L)) (S : Addr) (m c : Nat) (M : List Rc) (hk : Src w S m M) (hm : n + m ≤ 1000000) (hbase : base ≤ w.heap.size) :
    ∃ A cap w', (Builtin.append_ #[40, 40] ty #[v, .slice (some S) m c]).run Tryz.prog w = .ok (.slice A (n + m) cap) w' ∧ w'.ownsRow base 111 4 (.slice A (n + m) cap) (n + m) (flat (L ++ M)) ∧ w.grownBy w' v.ownBlock ∧
      (∀ g, (Value.slice A (n + m) cap).ownBlock = some g → v.ownBlock = some g ∨ w.heap.size ≤ g) := by
  obtain ⟨i0, hi, hz0, hz1, hz2⟩ := info_parts rec_info
  obtain ⟨v', w', hr, h2, h3, h4, h5⟩ := run_append_own_at (P := Tryz.prog) w base 40 ty 111 i0 _ 4 48 Tryz.underlying40 hi hz0 hz1 hz2 rfl (by decide) v n (flat L) hown S m c (flat M) (by rw [flat_len, hk.1]) hk.2 (flat_one M) (by unfold maxLen; omega) (by omega) hbase
  obtain ⟨A, cap, rfl⟩ : ∃ A cap, v' = .slice A (n + m) cap := by
    rcases h2.2 with ⟨rfl, e⟩ | ⟨g, cap, cur, rfl, _⟩
    · exact ⟨none, 0, by rw [e]⟩
    · exact ⟨_, cap, rfl⟩
  refine ⟨A, cap, w', hr, by rw [flat_append]; exact h2, h3, fun g hg => ?_⟩
  rcases h5 with e | e
  · exact .inl (by rw [← e]; exact hg)
  · rw [e] at hg
    injection hg with hg
    exact .inr (by omega)
theorem step_append_rec {w : World} {ops : Array Oper} {o : Oper} {a : Act} {K : Act → World → Prop} {Q : Exit → Act → World → Prop} {E : Prop} (hgd : o.guard = none) (s x : Operand)
    (ho : o.op = .call { callee := .builtin .append, args := #[s, x], argTypes := #[40, 40] }) (base : Nat) (v : Value) (n : Nat) (L : List Rc) (hs : a.eval s = v) (hown : w.ownsRow base 111 4 v n (flat L))
    (S : Addr) (m c : Nat) (M : List Rc) (hx : a.eval x = .slice (some S) m c) (hk : Src w S m M) (hm : n + m ≤ 1000000) (hbase : base ≤ w.heap.size)
    (h : ∀ A cap w', w'.ownsRow base 111 4 (.slice A (n + m) cap) (n + m) (flat (L ++ M)) → w.grownBy w' v.ownBlock → (∀ g, (Value.slice A (n + m) cap).ownBlock = some g → v.ownBlock = some g ∨ w.heap.size ≤ g) → K (a.put o.dst (.slice A (n + m) cap)) w') :
    if Region.wanted o (yielded ops a.tmps) = true then Oper.wp Tryz.prog o a w K Q else E := by
  have hw : Region.wanted o (yielded ops a.tmps) = true := by simp [Region.wanted, hgd]
  rw [if_pos hw]
  obtain ⟨A, cap, w', hr, h2, h3, h4⟩ := run_append_rec (ty := o.type) base v n L hown S m c M hk hm hbase
  unfold Oper.wp execOp
  simp only [ho, resolve, invoke, builtin, Sem.run_bind, Sem.run_pure, Result.andThen_ok, List.map_toArray, List.map_cons, List.map_nil, hs, hx, hr]
  exact h A cap w' h2 h3 h4
theorem wpList_append_rec {w : World} {ops : Array Oper} {rest : List Oper} {o : Oper} {a : Act} {Q : Exit → Act → World → Prop} (hgd : o.guard = none) (s x : Operand)
    (ho : o.op = .call { callee := .builtin .append, args := #[s, x], argTypes := #[40, 40] }) (base : Nat) (v : Value) (n : Nat) (L : List Rc) (hs : a.eval s = v) (hown : w.ownsRow base 111 4 v n (flat L))
    (S : Addr) (m c : Nat) (M : List Rc) (hx : a.eval x = .slice (some S) m c) (hk : Src w S m M) (hm : n + m ≤ 1000000) (hbase : base ≤ w.heap.size)
    (h : ∀ A cap w', w'.ownsRow base 111 4 (.slice A (n + m) cap) (n + m) (flat (L ++ M)) → w.grownBy w' v.ownBlock → (∀ g, (Value.slice A (n + m) cap).ownBlock = some g → v.ownBlock = some g ∨ w.heap.size ≤ g) →
      wpList Tryz.prog ops Q rest (a.put o.dst (.slice A (n + m) cap)) w') : wpList Tryz.prog ops Q (o :: rest) a w := by
  refine wpList_plain hgd fun K hK => ?_
  obtain ⟨A, cap, w', hr, h2, h3, h4⟩ := run_append_rec (ty := o.type) base v n L hown S m c M hk hm hbase
  unfold Oper.wp execOp
  simp only [ho, resolve, invoke, builtin, Sem.run_bind, Sem.run_pure, Result.andThen_ok, List.map_toArray, List.map_cons, List.map_nil, hs, hx, hr]
  exact hK _ _ (h A cap w' h2 h3 h4)

section
variable {w : World} {g p : Nat} {T : Nat → Prop} {s : NS}

theorem append_full (k lba : Int) (A : Option Addr) (n c : Nat) (h : Nv w g p T s) (hf : s.root.n ≤ (s.recs.length : Int)) :
    Calls Tryz.prog 35 #[.pointer (some ⟨g, 0, none⟩), .int .i64 k, .int .i64 lba, .slice A n c] w (Quiet (.int .i64 7) w) := by
  obtain ⟨v, L, h⟩ := h
  obtain ⟨A2, c2, rfl⟩ := h.rw.slice
  obtain ⟨c0, c5, c10, c11⟩ := h.cells
  rw [← h.len] at hf
  clear h c0 c11
  go_enter Tryz.func35, Tryz.ntmps35
  go_wp2
  go_quiet (fail)
  go_wp2
  go_ret
  exact ⟨rfl, _, rfl⟩

theorem append_out (k lba u : Int) (A : Option Addr) (n c : Nat) (h : Nv w g p T s) (hp : Pw w p u 0) (hf : ¬ s.root.n ≤ (s.recs.length : Int)) :
    Calls Tryz.prog 35 #[.pointer (some ⟨g, 0, none⟩), .int .i64 k, .int .i64 lba, .slice A n c] w fun e w' => e = .panicked out ∧ ∃ m, w' = w.drewN m := by
  obtain ⟨v, L, h⟩ := h
  obtain ⟨A2, c2, rfl⟩ := h.rw.slice
  obtain ⟨c0, c5, c10, c11⟩ := h.cells
  rw [← h.len] at hf
  have P1 := Lib.hid hp
  clear h c11 hp
  go_enter Tryz.func35, Tryz.ntmps35
  go_wp2
  go_quiet (fail)
  go_wp2_with fail
  refine (tick_out p u _ (show Pw (w.drewN nq) p u 0 from P1.out)).mono ?_
  rintro e w' ⟨rfl, rfl⟩
  unfold out
  go_wp2
  exact ⟨rfl, rfl, _, rfl⟩
end

end Go.Proofs.YtplmdmchkaacoaaGreat.L7

/-
  THE WALKS OF slices.Clone, bytes.Clone AND slices.Equal OF BYTES.
-/
namespace Go.Proofs.YtplmdmchkaacoaaGreat.L7
set_option maxRecDepth 100000
open Go.RowKit
set_option linter.unusedVariables false

set_option maxHeartbeats 400000 in
theorem bclone_any (A : Option Addr) (n cap : Nat) (l : List (BitVec 8)) (w : World) (hn : n ≤ 1000000) (h : Has w A n l) :
    Calls Tryz.prog 55 #[.slice A n cap] w (Cloned w n l) := by
  have hnil := fun (w : World) (a : Option Addr) (n c : Nat) => Lib.run_eql_slice_nil (P := Tryz.prog) w 57 5 a n c 0 0 Tryz.underlying57
  obtain ⟨i0, hi, hz0, hz1, hz2⟩ := info_parts byte_info
  rcases A with _ | x
  · have h0 : n = 0 := by
      rcases Nat.eq_zero_or_pos n with h0 | h0
      · exact h0
      · obtain ⟨b, off, e⟩ := h.some_ h0
        cases e
    subst h0
    have hl : l = [] := List.eq_nil_of_length_eq_zero h.1
    subst hl
    clear h
    go_enter Tryz.func55, Tryz.ntmps55
    go_wp2
    go_ret
    exact ⟨_, rfl, World.ownsRow_nil _ _ _ _, Below.refl _ _⟩
  · have H := Lib.hid h
    clear h
    go_enter Tryz.func55, Tryz.ntmps55
    go_wp2_with (at_builtin; refine wpList_append_own _ rfl (.tmp 5) (.tmp 6) 57 rfl w.heap.size 5 i0 (.int .u8 0) 1 1 Tryz.underlying57 hi hz0 hz1 hz2 rfl (by decide) (.slice (some ⟨w.heap.size, 0, none⟩) 0 0) 0 [] rfl (World.ownsRow_made w #[] 0 (Nat.le_refl _) (by unfold maxLen; omega) rfl) x n cap (l.map val) rfl (by simp [H.out.1]) (H.out.below ((Below.refl _ _).alloc (Nat.le_refl _) _)).cells (val_one l) (by unfold maxLen; omega) (by omega) (by simp) ?_; intro v' w1 hown hg hx)
    go_ret
    refine ⟨_, rfl, by simpa using hown, ((Below.refl w.heap.size w).alloc (Nat.le_refl _) _).grown hg (by simp) (fun k hk => ?_)⟩
    simp [Value.ownBlock] at hk
    omega

set_option maxHeartbeats 400000 in
theorem equal_any (A B : Option Addr) (n m c d : Nat) (l k : List (BitVec 8)) (w : World) (hn : n ≤ 1000000) (hm : m ≤ 1000000) (h : Has w A n l) (g : Has w B m k) :
    Calls Tryz.prog 22 #[.slice A n c, .slice B m d] w (Quiet (.bool (decide (l = k))) w) := by
  by_cases hnm : n = m
  · subst hnm
    have H := Lib.hid h
    have G := Lib.hid g
    clear h g
    go_enter Tryz.func22, Tryz.ntmps22
    go_wp2
    go_loopw [13] (fun i wr => ∃ j q : Nat, j ≤ n ∧ i = .int .i64 j ∧ wr = w.drewN q ∧ l.take j = k.take j) (fun i _ => n - (RowKit.intOf i).toNat)
    case atStart => exact ⟨0, 0, Nat.zero_le _, rfl, rfl, rfl⟩
    case round =>
      obtain ⟨j, q, hj, rfl, rfl, hlk⟩ := hrel
      have HK := Lib.hid hlk
      clear hlk
      by_cases hlt : j < n
      · obtain ⟨b, off, rfl⟩ := H.out.some_ (by omega)
        obtain ⟨b2, off2, rfl⟩ := G.out.some_ (by omega)
        have hjl : j < l.length := by rw [H.out.1]; omega
        have hjk : j < k.length := by rw [G.out.1]; omega
        have hc : w.cell? ⟨b, off + j, none⟩ = some (.int .u8 (l[j].toNat : Int)) := H.out.cell j (by omega)
        have hc2 : w.cell? ⟨b2, off2 + j, none⟩ = some (.int .u8 (k[j].toNat : Int)) := G.out.cell j (by omega)
        go_wp2
        go_quiet (fail)
        go_wp2
        · have hne : ((l[j].toNat : Int) != (k[j].toNat : Int)) = true := by assumption
          go_ret
          exact ⟨ret_no (differ_at hjl hjk hne), _, World.drewN_drewN _ _ _⟩
        · have he : ((l[j].toNat : Int) != (k[j].toNat : Int)) = false := by assumption
          go_roundw
          case rel => exact ⟨j + 1, _, by omega, by go_num, rfl, alike_next hjl hjk he HK.out⟩
          case measure => simp [RowKit.intOf]; omega
      · have e : j = n := by omega
        subst e
        go_wp2
        go_ret
        exact ⟨ret_yes (alike_all H.out.1 G.out.1 HK.out), _, rfl⟩
  · have hd := differ_len h g hnm
    have HD := Lib.hid hd
    clear hd h g
    go_enter Tryz.func22, Tryz.ntmps22
    go_wp2
    go_ret
    exact ⟨ret_no HD.out, 0, rfl⟩
end Go.Proofs.YtplmdmchkaacoaaGreat.L7
