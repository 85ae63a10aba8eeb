/-
  TEXTS JOINED: L7Records, L7Early, L7Append2.
-/
import Derived.Test.YtplmdmchkaacoaaGreatJ27
import Derived.Test.YtplmdmchkaacoaaGreatJ20
import Derived.Test.YtplmdmchkaacoaaGreatJ22
import Derived.OrdersHeld

/-
  THE WALKS OF slices.Clone OF RECORDS AND OF Records.
-/
namespace Go.Proofs.YtplmdmchkaacoaaGreat.L7
open Go.RowKit
set_option linter.unusedVariables false
set_option maxRecDepth 100000

theorem Rw.src {w : World} {B g cap : Nat} {L : List Rc} (h : Rw w B (.slice (some ⟨g, 0, none⟩) L.length cap) L) : Src w ⟨g, 0, none⟩ L.length L :=
  ⟨rfl, h.own.cells (g := g) rfl⟩

theorem rclone_any (v : Value) (B : Nat) (L : List Rc) (w : World) (hn : L.length ≤ 1000) (h : Rw w B v L) :
    Calls Tryz.prog 54 #[v] w fun e w' => ∃ v', e = .returned v' ∧ w'.ownsRow w.heap.size 111 4 v' L.length (flat L) ∧ Below w.heap.size w w' := by
  have hnil := fun (w : World) (a : Option Addr) (n c : Nat) => Lib.run_eql_slice_nil (P := Tryz.prog) w 40 111 a n c 0 0 Tryz.underlying40
  rcases h.own.2 with ⟨rfl, h0⟩ | ⟨g, cap, cur, rfl, hg, hh, hnc, hcm, hcs, htk⟩
  · obtain rfl : L = [] := List.eq_nil_of_length_eq_zero h0
    clear h
    go_enter Tryz.func54, Tryz.ntmps54
    go_wp2
    go_ret
    exact ⟨_, rfl, World.ownsRow_nil _ _ _ _, Below.refl _ _⟩
  · have H := Lib.hid h
    have H2 := Lib.hid (h.up ((Below.refl w.heap.size w).alloc (Nat.le_refl _) (.cells #[] 111)))
    clear h hh hg hcs htk hnc hcm
    go_enter Tryz.func54, Tryz.ntmps54
    go_wp2_with (at_builtin; refine wpList_append_rec rfl (.tmp 5) (.tmp 6) rfl w.heap.size (.slice (some ⟨w.heap.size, 0, none⟩) 0 0) 0 [] rfl (World.ownsRow_made w #[] 0 (Nat.le_refl _) (by unfold maxLen; omega) rfl) ⟨g, 0, none⟩ L.length cap L rfl H2.out.src (by omega) (by simp) ?_; intro A2 c2 w1 hown hg hf)
    go_ret
    refine ⟨_, rfl, by simpa using hown, ((Below.refl w.heap.size w).alloc (Nat.le_refl _) _).grown hg (by simp) (fun k hk => ?_)⟩
    simp [Value.ownBlock] at hk
    omega

theorem flat_put (P Q : List Rc) (x : Rc) (A : Option Addr) (c : Nat) : (flat (P ++ x :: Q)).set (P.length * 4 + 3) (.slice A x.n c) = flat (P ++ { x with A := A, c := c } :: Q) := by
  rw [flat_append, flat_cons, flat_append, flat_cons, List.set_append_right _ _ (by rw [flat_len]; omega), flat_len, Nat.add_sub_cancel_left]
  simp [Rc.cs]
theorem flat_set3 (M : List Rc) (k : Nat) (hk : k < M.length) (x : Rc) (hx : M[k] = x) (A : Option Addr) (c : Nat) : (flat M).set (k * 4 + 3) (.slice A x.n c) = flat (M.set k { x with A := A, c := c }) := by
  subst hx
  have h := flat_put (M.take k) (M.drop (k + 1)) M[k] A c
  rw [show (M.take k).length = k by rw [List.length_take]; omega, List.getElem_cons_drop, List.take_append_drop] at h
  rw [h, List.set_eq_take_append_cons_drop, if_pos hk]

/-- The record's bytes lie in a block of their own, which may be written. -/
def Free (w : World) (x : Rc) : Prop := 0 < x.n → ∃ b cs, x.A = some ⟨b, 0, none⟩ ∧ At w b cs 5
theorem Free.but {w w' : World} {S : Nat → Prop} {x : Rc} (h : Free w x) (hb : But S w w') (hn : 0 < x.n → ∀ a, x.A = some a → ¬ S a.block) : Free w' x := fun h0 => by
  obtain ⟨b, cs, e, hat⟩ := h h0
  exact ⟨b, cs, e, hat.but hb (hn h0 _ e)⟩
theorem free_own {w : World} {base n c : Nat} {A : Option Addr} {xs : List Value} {x : Rc} (h : w.ownsRow base 5 1 (.slice A n c) n xs) (hn : x.n = n) (hA : x.A = A) : Free w x := fun h0 => by
  rcases h.2 with ⟨_, e⟩ | ⟨g, cap, cur, e, _, hh, _⟩
  · omega
  · injection e with e
    exact ⟨g, cur, by rw [hA, e], hh⟩

/-- A slice of records that was answered: all of it lies above B. -/
def Recs (w : World) (B : Nat) (v : Value) (R : List Rr) : Prop := ∃ L, Rw w B v L ∧ L.map Rc.abs = R ∧ (∀ x ∈ L, 0 < x.n → ∀ a, x.A = some a → B ≤ a.block) ∧ ∀ x ∈ L, Free w x

/-- Of the records M of the row v the first k have bytes of their own; the others are as L has them. -/
structure Half (w wr : World) (B : Nat) (v : Value) (L M : List Rc) (k : Nat) : Prop where
  own : wr.ownsRow B 111 4 v L.length (flat M)
  len : M.length = L.length
  abs : M.map Rc.abs = L.map Rc.abs
  has : ∀ x ∈ M.take k, Has wr x.A x.n x.l ∧ x.n ≤ 100 ∧ (0 < x.n → ∀ a, x.A = some a → B ≤ a.block ∧ v.ownBlock ≠ some a.block) ∧ Free wr x
  rest : M.drop k = L.drop k
  below : Below B w wr

theorem Half.one {w wr : World} {B k : Nat} {v : Value} {L M : List Rc} (h : Half w wr B v L M k) (hk : k < L.length) : ∃ hm : k < M.length, M[k] = L[k] := by
  have hm : k < M.length := by rw [h.len]; exact hk
  refine ⟨hm, ?_⟩
  have h1 := congrArg (fun l => l[0]?) h.rest
  simp only [List.getElem?_drop, Nat.add_zero] at h1
  rw [List.getElem?_eq_getElem hm, List.getElem?_eq_getElem hk] at h1
  injection h1

theorem Half.next {w wr wa w2 : World} {B k g c : Nat} {A2 : Option Addr} {c2 : Nat} {L M : List Rc} {x : Rc} (h : Half w wr B (.slice (some ⟨g, 0, none⟩) L.length c) L M k) (hk : k < L.length) (hx : L[k] = x)
    (ha : But (fun _ => False) wr w2) (hd : Has w2 A2 x.n x.l) (hA : ∀ a, A2 = some a → wr.heap.size ≤ a.block) (hn : x.n ≤ 100) (hB : B ≤ wr.heap.size) (hfr : Free w2 { x with A := A2, c := c2 }) :
    Half w (w2.setCell ⟨g, k * 4 + 3, none⟩ (.slice A2 x.n c2)) B (.slice (some ⟨g, 0, none⟩) L.length c) L (M.set k { x with A := A2, c := c2 }) (k + 1) := by
  obtain ⟨hm, e⟩ := h.one hk
  rw [hx] at e
  have own2 := own_but h.own ha (fun _ _ h => h)
  have bo := But.own w2 g (k * 4 + 3) (.slice A2 x.n c2)
  have hgl := (h.own.lt g rfl)
  refine ⟨?_, by rw [List.length_set]; exact h.len, ?_, ?_, ?_, ?_⟩
  · have := (own2.stored (k * 4 + 3) (.slice A2 x.n c2)).1
    rw [flat_set3 M k hm x e A2 c2] at this
    exact this
  · rw [← h.abs]
    apply List.ext_getElem
    · simp
    · intro i h1 h2
      rw [List.getElem_map, List.getElem_map, List.getElem_set]
      split
      · rename_i e'
        subst e'
        rw [e]
        rfl
      · rfl
  · intro y hy
    have hy' : y ∈ M.take k ∨ y = { x with A := A2, c := c2 } := by
      rw [List.take_set, List.take_succ_eq_append_getElem hm] at hy
      rw [List.set_append_right _ _ (by rw [List.length_take]; omega)] at hy
      rcases List.mem_append.1 hy with hy | hy
      · exact .inl hy
      · rw [List.length_take, show k - min k M.length = 0 by omega] at hy
        simp at hy
        exact .inr hy
    rcases hy' with hy | rfl
    · obtain ⟨h1, h2, h3, h4⟩ := h.has y hy
      refine ⟨(h1.apart ha (fun _ _ _ h => h)).apart bo (fun h0 a haa e => (h3 h0 a haa).2 (by rw [e]; rfl)), h2, h3, (h4.but ha (fun _ _ _ h => h)).but bo (fun h0 a haa e => (h3 h0 a haa).2 (by rw [e]; rfl))⟩
    · refine ⟨hd.apart bo (fun h0 a haa e => ?_), hn, fun h0 a haa => ⟨Nat.le_trans hB (hA a haa), fun e => ?_⟩, hfr.but bo (fun h0 a haa e => ?_)⟩
      · have := hA a haa; omega
      · simp [Value.ownBlock] at e
        have := hA a haa; omega
      · have := hA a haa; omega
  · have h1 : M.drop (k + 1) = L.drop (k + 1) := by
      have h2 := congrArg (List.drop 1) h.rest
      rw [List.drop_drop, List.drop_drop] at h2
      exact h2
    rw [← h1, List.drop_set, if_pos (by omega)]
  · exact (h.below.trans (ha.below (fun _ h => h.elim) hB)).trans (bo.below (fun i e => by rw [e]; exact hgl.1) (Nat.le_trans hB ha.size))

section
variable {w : World} {g p : Nat} {T : Nat → Prop} {s : NS}

set_option maxHeartbeats 1600000 in
theorem records_any (h : Nv w g p T s) (hn : s.recs.length ≤ 1000) : Calls Tryz.prog 18 #[.pointer (some ⟨g, 0, none⟩)] w fun e w' => ∃ v, e = .returned v ∧ Recs w' w.heap.size v s.recs ∧ Below w.heap.size w w' := by
  obtain ⟨v, L, h⟩ := h
  have hL : L.length ≤ 1000 := by rw [h.len]; exact hn
  have c10 := h.cells.2.2.1
  have AB := Lib.hid h.abs
  have R0 := Lib.hid h.rw
  clear h hn
  go_enter Tryz.func18, Tryz.ntmps18
  go_wp2_with fail
  refine (rclone_any v 0 L w hL R0.out).mono ?_
  rintro e w1 ⟨v1, rfl, hown1, hb1⟩
  obtain ⟨A1, c1, rfl⟩ : ∃ A1 c1, v1 = .slice A1 L.length c1 := by
    rcases hown1.2 with ⟨rfl, e⟩ | ⟨g, cap, cur, rfl, _⟩
    · exact ⟨none, 0, by rw [e]⟩
    · exact ⟨_, cap, rfl⟩
  have F1 := Lib.hid (show Half w w1 w.heap.size (.slice A1 L.length c1) L L 0 from ⟨hown1, rfl, rfl, fun x hx => (by simp at hx), rfl, hb1⟩)
  clear hown1 hb1 c10
  generalize hB : w.heap.size = B at F1
  have HB := Lib.hid hB
  clear hB
  go_wp2_with fail
  go_loopw [13] (fun i wr => ∃ (k : Nat) (M : List Rc), k ≤ L.length ∧ i = .int .i64 k ∧ Half w wr B (.slice A1 L.length c1) L M k) (fun i _ => L.length - (RowKit.intOf i).toNat)
  case atStart => exact ⟨0, L, Nat.zero_le _, rfl, F1.out⟩
  case round =>
    obtain ⟨k, M, hk, rfl, hF⟩ := hrel
    have F := Lib.hid hF
    by_cases hlt : k < L.length
    · obtain ⟨hm, e⟩ := hF.one hlt
      obtain ⟨g1, cap, e1, hg1, hgl⟩ := hF.own.form (by omega)
      injection e1 with e1 _ e2
      subst e1 e2
      obtain ⟨x, hx⟩ : ∃ x, L[k] = x := ⟨_, rfl⟩
      have hcell : ∀ j, j < 4 → wr.cell? ⟨g1, k * 4 + j, none⟩ = x.cs[j]? := fun j hj => by
        rw [hF.own.cellAt (k * 4 + j) (by omega), flat_get M k hm j hj, e, hx]
      have q0 : wr.cell? ⟨g1, k * 4, none⟩ = some (.int .u64 (x.seq : Int)) := hcell 0 (by omega)
      have q1 : wr.cell? ⟨g1, k * 4 + 1, none⟩ = some (.int .i64 x.kind) := hcell 1 (by omega)
      have q2 : wr.cell? ⟨g1, k * 4 + 2, none⟩ = some (.int .i64 x.lba) := hcell 2 (by omega)
      have q3 : wr.cell? ⟨g1, k * 4 + 3, none⟩ = some (.slice x.A x.n x.c) := hcell 3 (by omega)
      have HX := Lib.hid hx
      have hxL : x ∈ L := by rw [← hx]; exact List.getElem_mem hlt
      have X1 := Lib.hid ((R0.out.has x hxL).below (by rw [HB.out]; exact hF.below))
      have hxn := R0.out.len x hxL
      have U := Lib.hid (show B ≤ wr.heap.size by have := hF.below.size; have := HB.out; omega)
      clear hF hcell e hx hxL
      go_wp2_with fail
      obtain ⟨wa, hwa⟩ : ∃ wa, wa = wr.alloc (.cells #[.int .u64 (x.seq : Int), .int .i64 x.kind, .int .i64 x.lba, .slice x.A x.n x.c] 111) := ⟨_, rfl⟩
      rw [← hwa]
      have BA := Lib.hid (show But (fun _ => False) wr wa by rw [hwa]; exact (But.refl _ _).alloc _)
      clear hwa
      refine (bclone_any x.A x.n x.c x.l wa (by omega) (X1.out.apart BA.out (fun _ _ _ h => h))).mono ?_
      rintro e w2 ⟨v2, rfl, hown2, hb2⟩
      obtain ⟨A2, c2, rfl, _, _, hd2, hA2⟩ := Has.of_own hown2
      have b2 : But (fun _ => False) wr w2 := BA.out.trans (But.of_below hb2) (fun _ h _ => h)
      have q3' : w2.cell? ⟨g1, k * 4 + 3, none⟩ = some (.slice x.A x.n x.c) := (b2.cell (p := ⟨g1, k * 4 + 3, none⟩) hgl (fun h => h)).trans q3
      have z3 : w2.frozen? ⟨g1, k * 4 + 3, none⟩ = false := (own_but F.out.own b2 (fun _ _ h => h)).frozenAt (k * 4 + 3)
      have NX := Lib.hid (F.out.next (c2 := c2) (wa := wa) hlt HX.out b2 hd2 (fun a haa => by obtain ⟨i, rfl, hi⟩ := hA2 a haa; have := BA.out.size; show wr.heap.size ≤ i; omega) hxn U.out (free_own hown2 rfl rfl))
      clear hown2 hd2 hA2 hb2 b2 q0 q1 q2 q3
      go_wp2
      go_roundw
      case rel => exact ⟨k + 1, _, by omega, by go_num, NX.out⟩
      case measure => simp [RowKit.intOf]; omega
    · have e0 : k = L.length := by omega
      subst e0
      clear hF
      go_wp2
      go_ret
      have hall : M.take L.length = M := List.take_of_length_le (by rw [F.out.len]; exact Nat.le_refl _)
      have hh := F.out.has
      rw [hall] at hh
      refine ⟨_, rfl, ⟨M, ⟨by rw [F.out.len, HB.out]; exact F.out.own, fun x hx => (hh x hx).1, fun x hx => (hh x hx).2.1, fun x hx h0 a ha => ((hh x hx).2.2.1 h0 a ha).2⟩, by rw [F.out.abs, AB.out], fun x hx h0 a ha => by rw [HB.out]; exact ((hh x hx).2.2.1 h0 a ha).1, fun x hx => (hh x hx).2.2.2⟩, by rw [HB.out]; exact F.out.below⟩
end

end Go.Proofs.YtplmdmchkaacoaaGreat.L7

/-
  A REGION THAT DRAWS ITS ORDER AND ENDS IN A STORE TO A CELL THAT IT LOADS: the load may be taken first, if what it reads holds behind every operation that may come before it; of those that wait for the load (the store) nothing is asked.
-/
namespace Go.Proofs.YtplmdmchkaacoaaGreat.L7
set_option maxRecDepth 100000
open Go

section
variable {P : Program} {ops : Array Oper} {Q : Exit → Act → World → Prop} {md : Region.Mode} {S : World → Prop} {E : Nat → Bool}

end

end Go.Proofs.YtplmdmchkaacoaaGreat.L7

/-
  THE WALK OF Append, when it is done.
-/
namespace Go.Proofs.YtplmdmchkaacoaaGreat.L7
open Go.RowKit
set_option linter.unusedVariables false
set_option maxRecDepth 100000

section
variable {w : World} {g p : Nat} {T : Nat → Prop} {s : NS}

/-- The memory with its last number one more. -/
theorem NvIs.more {w2 : World} {v : Value} {L : List Rc} (h : NvIs w g p T s v L) (hat : At w2 g (ncells p s.root v (s.last + 1)) 114) (hb : But (fun k => k = g) w w2) : NvIs w2 g p T { s with last := s.last + 1 } v L :=
  ⟨hat, h.rw.but hb (fun k hk => (h.vT k hk).2) (fun x hx h0 a ha => (h.dT x hx h0 a ha).2), h.abs, h.gT, h.vT, h.dT, fun k hk => Nat.lt_of_lt_of_le (h.lt k hk) hb.size, h.np⟩

theorem NvIs.up {w2 : World} {v : Value} {L : List Rc} (h : NvIs w g p T s v L) (hb : But (fun _ => False) w w2) : NvIs w2 g p T s v L := h.but hb (fun _ _ h => h)
theorem _root_.Go.Proofs.YtplmdmchkaacoaaGreat.Has.heap {w w' : World} {A : Option Addr} {n : Nat} {l : List (BitVec 8)} (h : Has w A n l) (e : w'.heap = w.heap) : Has w' A n l :=
  h.keep (by rw [e]; exact Nat.le_refl _) (fun p _ => World.cell?_of_block (by rw [e]))
/-- The record that was made, the row that has grown: what the block of the memory reads as. -/
theorem NvIs.after {w2 : World} {v : Value} {L : List Rc} (h : NvIs w g p T s v L) (hg : w.grownBy w2 v.ownBlock) : At w2 g (ncells p s.root v s.last) 114 :=
  h.at_.but (S := fun k => v.ownBlock = some k) ((But.refl _ _).grown hg (fun k hk _ => hk)) (fun e => (h.vT g e).2 rfl)
theorem part_recs (p : Nat) (r : Rt) (v v' : Value) (last : Nat) : (ncells p r v last).setIfInBounds 10 v' = ncells p r v' last := rfl
theorem part_last (p : Nat) (r : Rt) (v : Value) (last last' : Nat) : (ncells p r v last).setIfInBounds 11 (.int .u64 (last' : Int)) = ncells p r v last' := rfl

/-- All of it, when the record lies there. -/
theorem NvIs.added {w3 wa w5 : World} {A2 A5 A4 : Option Addr} {L : List Rc} {c2 c4 c5 m n : Nat} {k lba : Int} {d : List (BitVec 8)} (h : NvIs w3 g p T s (.slice A2 L.length c2) L)
    (hb4 : But (fun _ => False) w3 wa) (hd : Has wa A4 n d) (hn : n ≤ 100) (hA4 : 0 < n → ∀ x, A4 = some x → w3.heap.size ≤ x.block)
    (hown : w5.ownsRow 0 111 4 (.slice A5 m c5) m (flat (L ++ [⟨s.last, k, lba, A4, n, c4, d⟩]))) (hg : wa.grownBy w5 (Value.slice A2 L.length c2).ownBlock)
    (hf : ∀ i, (Value.slice A5 m c5).ownBlock = some i → (Value.slice A2 L.length c2).ownBlock = some i ∨ wa.heap.size ≤ i) (hpl : p < w3.heap.size) :
    NvIs (w5.setCell ⟨g, 10, none⟩ (.slice A5 m c5)) g p (fun i => T i ∨ (w3.heap.size ≤ i ∧ i < w5.heap.size)) { s with recs := s.recs ++ [⟨s.last, k, lba, d⟩] } (.slice A5 m c5) (L ++ [⟨s.last, k, lba, A4, n, c4, d⟩]) ∧
      But T w3 (w5.setCell ⟨g, 10, none⟩ (.slice A5 m c5)) := by
  have ha := h.up hb4
  have hs4 := hb4.size
  have bt : But (fun i => (Value.slice A2 L.length c2).ownBlock = some i) wa w5 := (But.refl _ _).grown hg (fun i hi _ => hi)
  have hs5 := bt.size
  have hgl := h.lt g h.gT
  have r5 := ha.rw.push (x := ⟨s.last, k, lba, A4, n, c4, d⟩) hown hg hf hd hn (fun h0 a haa e => by
    have h1 := hA4 h0 a haa
    have h2 := h.lt _ (h.vT _ e).1
    omega)
  have v5 : ∀ i, (Value.slice A5 m c5).ownBlock = some i → (T i ∨ (w3.heap.size ≤ i ∧ i < w5.heap.size)) ∧ i ≠ g := by
    intro i hi
    rcases hf i hi with e | e
    · exact ⟨.inl (h.vT i e).1, (h.vT i e).2⟩
    · have := (r5.own.lt i hi).2
      exact ⟨.inr ⟨by omega, this⟩, by omega⟩
  have d5 : ∀ x ∈ L ++ [(⟨s.last, k, lba, A4, n, c4, d⟩ : Rc)], 0 < x.n → ∀ a, x.A = some a → (T a.block ∨ (w3.heap.size ≤ a.block ∧ a.block < w5.heap.size)) ∧ a.block ≠ g := by
    intro x hx h0 a haa
    rcases List.mem_append.1 hx with hx' | hx'
    · have := h.dT x hx' h0 a haa
      exact ⟨.inl this.1, this.2⟩
    · simp at hx'; subst hx'
      have h1 := hA4 h0 a haa
      have h2 := r5.low _ hx h0 a haa
      exact ⟨.inr ⟨h1, h2⟩, by omega⟩
  have bo := But.own w5 g 10 (.slice A5 m c5)
  refine ⟨⟨?_, r5.but bo (fun i hi => (v5 i hi).2) (fun x hx h0 a haa => (d5 x hx h0 a haa).2), ?_, .inl h.gT, v5, d5, ?_, ?_⟩, ?_⟩
  · have := (ha.after hg).set 10 (.slice A5 m c5)
    rw [part_recs] at this
    exact this
  · rw [List.map_append, h.abs]
    rfl
  · rintro i (hi | hi)
    · have := h.lt i hi
      have := bo.size
      omega
    · have := bo.size
      omega
  · rintro (hi | hi)
    · exact h.np hi
    · omega
  · exact ((hb4.mono (T := T) (fun i hi _ => hi.elim)).trans bt (fun i hi _ => (h.vT i hi).1)).trans bo (fun i hi _ => hi ▸ h.gT)

theorem wp_append_rec {w : World} {o : Oper} {a : Act} {K : Act → World → Prop} {Q : Exit → Act → World → Prop} (s x : Operand)
    (ho : o.op = .call { callee := .builtin .append, args := #[s, x], argTypes := #[40, 40] }) (base : Nat) (v : Value) (n : Nat) (L : List Rc) (hs : a.eval s = v) (hown : w.ownsRow base 111 4 v n (flat L))
    (S : Addr) (m c : Nat) (M : List Rc) (hx : a.eval x = .slice (some S) m c) (hk : Src w S m M) (hm : n + m ≤ 1000000) (hbase : base ≤ w.heap.size)
    (h : ∀ A cap w', w'.ownsRow base 111 4 (.slice A (n + m) cap) (n + m) (flat (L ++ M)) → w.grownBy w' v.ownBlock → (∀ g, (Value.slice A (n + m) cap).ownBlock = some g → v.ownBlock = some g ∨ w.heap.size ≤ g) → K (a.put o.dst (.slice A (n + m) cap)) w') :
    Oper.wp Tryz.prog o a w K Q := by
  obtain ⟨A, cap, w', hr, h2, h3, h4⟩ := run_append_rec (ty := o.type) base v n L hown S m c M hk hm hbase
  unfold Oper.wp execOp
  simp only [ho, resolve, invoke, builtin, Sem.run_bind, Sem.run_pure, Result.andThen_ok, List.map_toArray, List.map_cons, List.map_nil, hs, hx, hr]
  exact h A cap w' h2 h3 h4

set_option maxHeartbeats 1600000 in
theorem append_go (k lba u l : Int) (A : Option Addr) (n c : Nat) (d : List (BitVec 8)) (h : Nv w g p T s) (hp : Pw w p u l) (hf : ¬ s.root.n ≤ (s.recs.length : Int)) (hd : Has w A n d) (hn : n ≤ 100) (hA : 0 < n → ∀ x, A = some x → ¬ x.block = g ∧ ¬ x.block = p)
    (hfew : s.recs.length ≤ 1000) (hlast : s.last ≤ 1000000) (hu : 0 ≤ u ∧ u ≤ 1000000) (hl : ¬ l = 0) (hm : l ≤ 9223372036854775807) :
    Calls Tryz.prog 35 #[.pointer (some ⟨g, 0, none⟩), .int .i64 k, .int .i64 lba, .slice A n c] w fun e w' => ∃ T', e = .returned (.int .i64 0) ∧ Nv w' g p T' (s.add k lba d) ∧ Pw w' p (u + 1) (less l) ∧ (∀ i, T' i → T i ∨ w.heap.size ≤ i) ∧ But (fun i => T i ∨ i = p) w w' := by
  obtain ⟨v, L, h⟩ := h
  obtain ⟨A2, c2, rfl⟩ := h.rw.slice
  obtain ⟨c0, c5, c10, c11⟩ := h.cells
  have LN := Lib.hid h.len
  rw [← h.len] at hf
  have P1 := Lib.hid hp
  have N1 := Lib.hid h
  have D1 := Lib.hid hd
  have HA := Lib.hid hA
  have HF := Lib.hid hfew
  clear h c11 hp hd hA hfew
  go_enter Tryz.func35, Tryz.ntmps35
  go_wp2
  go_quiet (fail)
  go_wp2_with fail
  obtain ⟨w1, hw1⟩ : ∃ w1, w1 = w.drewN nq := ⟨_, rfl⟩
  rw [← hw1]
  have N1 := Lib.hid (show NvIs w1 g p T s (.slice A2 L.length c2) L by rw [hw1]; exact N1.out.but (S := fun _ => False) ((But.refl _ _).drewN _) (fun _ _ h => h))
  have P1 := Lib.hid (show Pw w1 p u l by rw [hw1]; exact P1.out)
  have D1 := Lib.hid (show Has w1 A n d by rw [hw1]; exact D1.out)
  have B1 := Lib.hid (show But (fun i => T i ∨ i = p) w w1 by rw [hw1]; exact (But.refl _ _).drewN _)
  clear hw1 c0 c5 c10
  refine (tick_go p u l _ P1.out hu hl hm).mono ?_
  rintro e w2 ⟨rfl, hp2, hb2⟩
  have N2 := Lib.hid (N1.out.but hb2 (fun k hk e => N1.out.np (e ▸ hk)))
  have P2 := Lib.hid hp2
  have D2 := Lib.hid (D1.out.apart hb2 (fun h0 x hx => (HA.out h0 x hx).2))
  have B2 := Lib.hid (B1.out.trans hb2 (fun k e _ => .inr e))
  obtain ⟨c0, c5, c10, c11⟩ := N2.out.cells
  have f11 := N2.out.frozen 11
  clear hp2 hb2 N1 P1 D1 B1 c0 c5 c10
  go_wp2_with fail
  obtain ⟨q, hq⟩ : ∃ q : Nat, q = s.last + 1 := ⟨_, rfl⟩
  have hqi : (s.last : Int) + 1 = (q : Int) := by omega
  rw [hqi]
  obtain ⟨w3, hw3⟩ : ∃ w3, w3 = w2.setCell ⟨g, 11, none⟩ (.int .u64 (q : Int)) := ⟨_, rfl⟩
  rw [← hw3]
  have hb3 : But (fun k => k = g) w2 w3 := by rw [hw3]; exact But.own _ _ _ _
  have hat3 : At w3 g (ncells p s.root (.slice A2 L.length c2) (s.last + 1)) 114 := by
    have := N2.out.at_.set 11 (.int .u64 (q : Int))
    rw [part_last, hq] at this
    rw [hw3, hq]
    exact this
  have N3 := Lib.hid (N2.out.more hat3 hb3)
  have P3 := Lib.hid (show Pw w3 p (u + 1) (less l) from At.but P2.out hb3 (fun e => N2.out.np (e ▸ N2.out.gT)))
  have D3 := Lib.hid (D2.out.apart hb3 (fun h0 x hx => (HA.out h0 x hx).1))
  have B3 := Lib.hid (B2.out.trans hb3 (fun k e _ => .inl (e ▸ N2.out.gT)))
  clear hat3 hb3 hw3 N2 P2 D2 B2 c11 f11 hqi
  obtain ⟨c0, c5, c10, d11⟩ := N3.out.cells
  have c11 : w3.cell? ⟨g, 11, none⟩ = some (.int .u64 (q : Int)) := by rw [hq]; exact d11
  clear d11
  have HQ := Lib.hid hq
  clear hq c0 c5
  have S3 : (fun w' : World => w'.cell? ⟨g, 10, none⟩ = some (.slice A2 L.length c2) ∧ w'.cell? ⟨g, 11, none⟩ = some (.int .u64 (q : Int))) w3.drew := ⟨c10, c11⟩
  refine wp_region_early (fun w' => w'.cell? ⟨g, 10, none⟩ = some (.slice A2 L.length c2) ∧ w'.cell? ⟨g, 11, none⟩ = some (.int .u64 (q : Int))) (fun j => decide (j < 16)) (by kernel_rfl) ?_
  change wpEarly _ _ _ _ _ _ 19 (Array.replicate 19 false) _ w3.drew
  refine early_take (i := 0) 33 (.pointer (some ⟨g, 0, none⟩)) rfl rfl (by kernel_rfl) (by kernel_rfl) (by kernel_rfl) (by kernel_rfl) rfl (fun _ _ _ h => h) (fun w' hw' => rfl) S3 ?_
  simp only [Act.put, List.setIfInBounds_toArray, List.set_cons_zero, List.set_cons_succ]
  refine early_take (i := 1) 34 (.pointer (some ⟨g, 0, none⟩)) rfl rfl (by kernel_rfl) (by kernel_rfl) (by kernel_rfl) (by kernel_rfl) rfl (fun _ _ _ h => h) (fun w' hw' => rfl) S3 ?_
  simp only [Act.put, List.setIfInBounds_toArray, List.set_cons_zero, List.set_cons_succ]
  refine early_take (i := 2) 35 (.pointer (some ⟨g, 0, none⟩)) rfl rfl (by kernel_rfl) (by kernel_rfl) (by kernel_rfl) (by kernel_rfl) rfl (fun _ _ _ h => h) (fun w' hw' => rfl) S3 ?_
  simp only [Act.put, List.setIfInBounds_toArray, List.set_cons_zero, List.set_cons_succ]
  refine early_take (i := 3) 36 (.pointer (some ⟨g, 10, none⟩)) rfl rfl (by kernel_rfl) (by kernel_rfl) (by kernel_rfl) (by kernel_rfl) rfl (fun _ _ _ h => h) (fun w' hw' => rfl) S3 ?_
  simp only [Act.put, List.setIfInBounds_toArray, List.set_cons_zero, List.set_cons_succ]
  refine early_take (i := 4) 37 (.slice A2 L.length c2) rfl rfl (by kernel_rfl) (by kernel_rfl) (by kernel_rfl) (by kernel_rfl) rfl (fun _ _ _ h => h) (fun w' hw' => by obtain ⟨h1, h2⟩ := hw'; go_simp) S3 ?_
  simp only [Act.put, List.setIfInBounds_toArray, List.set_cons_zero, List.set_cons_succ]
  refine early_take (i := 5) 38 (.pointer (some ⟨g, 0, none⟩)) rfl rfl (by kernel_rfl) (by kernel_rfl) (by kernel_rfl) (by kernel_rfl) rfl (fun _ _ _ h => h) (fun w' hw' => rfl) S3 ?_
  simp only [Act.put, List.setIfInBounds_toArray, List.set_cons_zero, List.set_cons_succ]
  refine early_take (i := 6) 39 (.pointer (some ⟨g, 0, none⟩)) rfl rfl (by kernel_rfl) (by kernel_rfl) (by kernel_rfl) (by kernel_rfl) rfl (fun _ _ _ h => h) (fun w' hw' => rfl) S3 ?_
  simp only [Act.put, List.setIfInBounds_toArray, List.set_cons_zero, List.set_cons_succ]
  refine early_take (i := 7) 40 (.pointer (some ⟨g, 11, none⟩)) rfl rfl (by kernel_rfl) (by kernel_rfl) (by kernel_rfl) (by kernel_rfl) rfl (fun _ _ _ h => h) (fun w' hw' => rfl) S3 ?_
  simp only [Act.put, List.setIfInBounds_toArray, List.set_cons_zero, List.set_cons_succ]
  refine early_take (i := 8) 41 (.int .u64 (q : Int)) rfl rfl (by kernel_rfl) (by kernel_rfl) (by kernel_rfl) (by kernel_rfl) rfl (fun _ _ _ h => h) (fun w' hw' => by obtain ⟨h1, h2⟩ := hw'; go_simp) S3 ?_
  simp only [Act.put, List.setIfInBounds_toArray, List.set_cons_zero, List.set_cons_succ]
  refine early_take (i := 9) 42 (.int .i64 k) rfl rfl (by kernel_rfl) (by kernel_rfl) (by kernel_rfl) (by kernel_rfl) rfl (fun _ _ _ h => h) (fun w' hw' => rfl) S3 ?_
  simp only [Act.put, List.setIfInBounds_toArray, List.set_cons_zero, List.set_cons_succ]
  refine early_take (i := 10) 43 (.int .i64 lba) rfl rfl (by kernel_rfl) (by kernel_rfl) (by kernel_rfl) (by kernel_rfl) rfl (fun _ _ _ h => h) (fun w' hw' => rfl) S3 ?_
  simp only [Act.put, List.setIfInBounds_toArray, List.set_cons_zero, List.set_cons_succ]
  refine early_take (i := 11) 44 (.slice A n c) rfl rfl (by kernel_rfl) (by kernel_rfl) (by kernel_rfl) (by kernel_rfl) rfl (fun _ _ _ h => h) (fun w' hw' => rfl) S3 ?_
  simp only [Act.put, List.setIfInBounds_toArray, List.set_cons_zero, List.set_cons_succ]
  refine early_only (i := 12) (by kernel_rfl) rfl (fun K hK => ?_)
  simp only [opWp, List.getElem?_toArray, List.getElem?_cons_succ, List.getElem?_cons_zero]
  go_simp
  go_at_call 55
  refine (bclone_any A n c d _ (by omega) (D3.out.heap (by rfl))).mono ?_
  rintro e w4 ⟨v4, rfl, hown4, hb4⟩
  obtain ⟨A4, c4, rfl, _, _, hd4, hA4⟩ := Has.of_own hown4
  have BN := Lib.hid (show But (fun _ => False) w3 w4 from ((But.refl _ _).drew).trans (But.of_below hb4) (fun _ h _ => h))
  have D4 := Lib.hid hd4
  have H4 := Lib.hid (show ∀ x, A4 = some x → w3.heap.size ≤ x.block from fun x hx => by obtain ⟨i, rfl, hi⟩ := hA4 x hx; exact hi)
  have N4 := Lib.hid (N3.out.up BN.out)
  have S4 : (fun w' : World => w'.cell? ⟨g, 10, none⟩ = some (.slice A2 L.length c2) ∧ w'.cell? ⟨g, 11, none⟩ = some (.int .u64 (q : Int))) w4 := ⟨N4.out.cells.2.2.1, by rw [HQ.out]; exact N4.out.cells.2.2.2⟩
  clear hown4 hb4 hd4 hA4
  refine hK _ _ (fun _ => S4) ?_
  refine early_take (i := 13) 46 (.agg #[.int .u64 (q : Int), .int .i64 k, .int .i64 lba, .slice A4 n c4]) rfl rfl (by kernel_rfl) (by kernel_rfl) (by kernel_rfl) (by kernel_rfl) rfl (fun _ _ _ h => h) (fun w' hw' => by go_simp) S4 ?_
  simp only [Act.put, List.setIfInBounds_toArray, List.set_cons_zero, List.set_cons_succ]
  refine early_only (i := 14) (by kernel_rfl) rfl (fun K hK => ?_)
  simp only [opWp, List.getElem?_toArray, List.getElem?_cons_succ, List.getElem?_cons_zero]
  go_simp
  have BA := Lib.hid (BN.out.alloc (.cells #[.int .u64 (q : Int), .int .i64 k, .int .i64 lba, .slice A4 n c4] 111))
  have NA := Lib.hid (N3.out.up BA.out)
  refine hK _ _ (fun _ => ⟨NA.out.cells.2.2.1, NA.out.cells.2.2.2.trans (by rw [HQ.out])⟩) ?_
  refine early_only (i := 15) (by kernel_rfl) rfl (fun K hK => ?_)
  simp only [opWp, List.getElem?_toArray, List.getElem?_cons_succ, List.getElem?_cons_zero]
  refine wp_append_rec (.tmp 37) (.tmp 47) rfl 0 (.slice A2 L.length c2) L.length L rfl NA.out.rw.own ⟨w4.heap.size, 0, none⟩ 1 1 [⟨q, k, lba, A4, n, c4, d⟩] rfl (Src.one _ (At.new _ 111 rfl)) (by have := HF.out; have := LN.out; omega) (Nat.zero_le _) ?_
  intro A5 c5 w5 hown5 hg5 hf5
  have a5 := NA.out.after hg5
  have e10 : w5.cell? ⟨g, 10, none⟩ = some (.slice A2 L.length c2) := a5.cell 10
  have z10 := a5.frozen 10
  refine hK _ _ (fun _ => ⟨e10, by rw [HQ.out]; exact a5.cell 11⟩) ?_
  simp only [Act.put, List.setIfInBounds_toArray, List.set_cons_zero, List.set_cons_succ]
  refine early_only (i := 16) (by kernel_rfl) rfl (fun K hK => ?_)
  simp only [opWp, List.getElem?_toArray, List.getElem?_cons_succ, List.getElem?_cons_zero]
  go_simp
  refine hK _ _ (fun h => absurd h (by decide)) ?_
  refine early_only (i := 17) (by kernel_rfl) rfl (fun K hK => ?_)
  simp only [opWp, List.getElem?_toArray, List.getElem?_cons_succ, List.getElem?_cons_zero]
  go_simp
  refine hK _ _ (fun h => absurd h (by decide)) ?_
  refine early_only (i := 18) (by kernel_rfl) rfl (fun K hK => ?_)
  simp only [opWp, List.getElem?_toArray, List.getElem?_cons_succ, List.getElem?_cons_zero]
  go_simp
  refine hK _ _ (fun h => absurd h (by decide)) ?_
  refine early_done (by kernel_rfl) ?_
  have eq := HQ.out
  subst eq
  have R := Lib.hid (N3.out.added BA.out (D4.out.apart ((But.refl (fun _ => False) w4).alloc _) (fun _ _ _ h => h)) hn (fun _ x hx => H4.out x hx) hown5 hg5 hf5 P3.out.lt)
  clear hown5 hg5 hf5 a5 e10 z10 S3 S4 c10 c11
  go_wp2
  go_ret
  exact ⟨rfl, _, ⟨_, _, R.out.1⟩, At.but P3.out (But.mono (T := fun i => T i) R.out.2 (fun i hi _ => hi)) N3.out.np, fun i hi => hi.elim .inl (fun h => .inr (Nat.le_trans B3.out.size h.1)), B3.out.trans R.out.2 (fun i hi _ => .inl hi)⟩
end

end Go.Proofs.YtplmdmchkaacoaaGreat.L7
