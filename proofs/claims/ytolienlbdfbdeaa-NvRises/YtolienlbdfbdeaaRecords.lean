/-
  THE WALKS OF slices.Clone OF RECORDS AND OF Records.
-/
import Derived.Test.YtolienlbdfbdeaaAppend
import Derived.Test.YtolienlbdfbdeaaWalkA
namespace Go.Proofs.Ytolienlbdfbdeaa
open Go.RowKit
set_option linter.unusedVariables false
set_option maxRecDepth 100000

theorem Rw.src {w : World} {B g cap : Nat} {L : List Rc} (h : Rw w B (.slice (some ⟨g, 0, none⟩) L.length cap) L) : Src w ⟨g, 0, none⟩ L.length L :=
  ⟨rfl, h.own.cells (g := g) rfl⟩

theorem rclone_any (v : Value) (B : Nat) (L : List Rc) (w : World) (hn : L.length ≤ 1000) (h : Rw w B v L) :
    Calls Try.prog 27 #[v] w fun e w' => ∃ v', e = .returned v' ∧ w'.ownsRow w.heap.size 40 4 v' L.length (flat L) ∧ Below w.heap.size w w' := by
  have hnil := fun (w : World) (a : Option Addr) (n c : Nat) => Lib.run_eql_slice_nil (P := Try.prog) w 33 40 a n c 0 0 Try.underlying33
  rcases h.own.2 with ⟨rfl, h0⟩ | ⟨g, cap, cur, rfl, hg, hh, hnc, hcm, hcs, htk⟩
  · obtain rfl : L = [] := List.eq_nil_of_length_eq_zero h0
    clear h
    go_enter Try.func27, Try.ntmps27
    go_wp2
    go_ret
    exact ⟨_, rfl, World.ownsRow_nil _ _ _ _, Below.refl _ _⟩
  · have H := Lib.hid h
    have H2 := Lib.hid (h.up ((Below.refl w.heap.size w).alloc (Nat.le_refl _) (.cells #[] 40)))
    clear h hh hg hcs htk hnc hcm
    go_enter Try.func27, Try.ntmps27
    go_wp2_with (at_builtin; refine wpList_append_rec rfl (.tmp 5) (.tmp 6) rfl w.heap.size (.slice (some ⟨w.heap.size, 0, none⟩) 0 0) 0 [] rfl (World.ownsRow_made w #[] 0 (Nat.le_refl _) (by unfold maxLen; omega) rfl) ⟨g, 0, none⟩ L.length cap L rfl H2.out.src (by omega) (by simp) ?_; intro A2 c2 w1 hown hg hf)
    go_ret
    refine ⟨_, rfl, by simpa using hown, ((Below.refl w.heap.size w).alloc (Nat.le_refl _) _).grown hg (by simp) (fun k hk => ?_)⟩
    simp [Value.ownBlock] at hk
    omega

theorem flat_put (P Q : List Rc) (x : Rc) (A : Option Addr) (c : Nat) : (flat (P ++ x :: Q)).set (P.length * 4 + 3) (.slice A x.n c) = flat (P ++ { x with A := A, c := c } :: Q) := by
  rw [flat_append, flat_cons, flat_append, flat_cons, List.set_append_right _ _ (by rw [flat_len]; omega), flat_len, Nat.add_sub_cancel_left]
  simp [Rc.cs]
theorem flat_set3 (M : List Rc) (k : Nat) (hk : k < M.length) (x : Rc) (hx : M[k] = x) (A : Option Addr) (c : Nat) : (flat M).set (k * 4 + 3) (.slice A x.n c) = flat (M.set k { x with A := A, c := c }) := by
  subst hx
  have h := flat_put (M.take k) (M.drop (k + 1)) M[k] A c
  rw [show (M.take k).length = k by rw [List.length_take]; omega, List.getElem_cons_drop, List.take_append_drop] at h
  rw [h, List.set_eq_take_append_cons_drop, if_pos hk]

/-- The record's bytes lie in a block of their own, which may be written. -/
def Free (w : World) (x : Rc) : Prop := 0 < x.n → ∃ b cs, x.A = some ⟨b, 0, none⟩ ∧ At w b cs 5
theorem Free.but {w w' : World} {S : Nat → Prop} {x : Rc} (h : Free w x) (hb : But S w w') (hn : 0 < x.n → ∀ a, x.A = some a → ¬ S a.block) : Free w' x := fun h0 => by
  obtain ⟨b, cs, e, hat⟩ := h h0
  exact ⟨b, cs, e, hat.but hb (hn h0 _ e)⟩
theorem free_own {w : World} {base n c : Nat} {A : Option Addr} {xs : List Value} {x : Rc} (h : w.ownsRow base 5 1 (.slice A n c) n xs) (hn : x.n = n) (hA : x.A = A) : Free w x := fun h0 => by
  rcases h.2 with ⟨_, e⟩ | ⟨g, cap, cur, e, _, hh, _⟩
  · omega
  · injection e with e
    exact ⟨g, cur, by rw [hA, e], hh⟩

/-- A slice of records that was answered: all of it lies above B. -/
def Recs (w : World) (B : Nat) (v : Value) (R : List Rr) : Prop := ∃ L, Rw w B v L ∧ L.map Rc.abs = R ∧ (∀ x ∈ L, 0 < x.n → ∀ a, x.A = some a → B ≤ a.block) ∧ ∀ x ∈ L, Free w x

/-- Of the records M of the row v the first k have bytes of their own; the others are as L has them. -/
structure Half (w wr : World) (B : Nat) (v : Value) (L M : List Rc) (k : Nat) : Prop where
  own : wr.ownsRow B 40 4 v L.length (flat M)
  len : M.length = L.length
  abs : M.map Rc.abs = L.map Rc.abs
  has : ∀ x ∈ M.take k, Has wr x.A x.n x.l ∧ x.n ≤ 100 ∧ (0 < x.n → ∀ a, x.A = some a → B ≤ a.block ∧ v.ownBlock ≠ some a.block) ∧ Free wr x
  rest : M.drop k = L.drop k
  below : Below B w wr

theorem Half.one {w wr : World} {B k : Nat} {v : Value} {L M : List Rc} (h : Half w wr B v L M k) (hk : k < L.length) : ∃ hm : k < M.length, M[k] = L[k] := by
  have hm : k < M.length := by rw [h.len]; exact hk
  refine ⟨hm, ?_⟩
  have h1 := congrArg (fun l => l[0]?) h.rest
  simp only [List.getElem?_drop, Nat.add_zero] at h1
  rw [List.getElem?_eq_getElem hm, List.getElem?_eq_getElem hk] at h1
  injection h1

theorem Half.next {w wr wa w2 : World} {B k g c : Nat} {A2 : Option Addr} {c2 : Nat} {L M : List Rc} {x : Rc} (h : Half w wr B (.slice (some ⟨g, 0, none⟩) L.length c) L M k) (hk : k < L.length) (hx : L[k] = x)
    (ha : But (fun _ => False) wr w2) (hd : Has w2 A2 x.n x.l) (hA : ∀ a, A2 = some a → wr.heap.size ≤ a.block) (hn : x.n ≤ 100) (hB : B ≤ wr.heap.size) (hfr : Free w2 { x with A := A2, c := c2 }) :
    Half w (w2.setCell ⟨g, k * 4 + 3, none⟩ (.slice A2 x.n c2)) B (.slice (some ⟨g, 0, none⟩) L.length c) L (M.set k { x with A := A2, c := c2 }) (k + 1) := by
  obtain ⟨hm, e⟩ := h.one hk
  rw [hx] at e
  have own2 := own_but h.own ha (fun _ _ h => h)
  have bo := But.own w2 g (k * 4 + 3) (.slice A2 x.n c2)
  have hgl := (h.own.lt g rfl)
  refine ⟨?_, by rw [List.length_set]; exact h.len, ?_, ?_, ?_, ?_⟩
  · have := (own2.stored (k * 4 + 3) (.slice A2 x.n c2)).1
    rw [flat_set3 M k hm x e A2 c2] at this
    exact this
  · rw [← h.abs]
    apply List.ext_getElem
    · simp
    · intro i h1 h2
      rw [List.getElem_map, List.getElem_map, List.getElem_set]
      split
      · rename_i e'
        subst e'
        rw [e]
        rfl
      · rfl
  · intro y hy
    have hy' : y ∈ M.take k ∨ y = { x with A := A2, c := c2 } := by
      rw [List.take_set, List.take_succ_eq_append_getElem hm] at hy
      rw [List.set_append_right _ _ (by rw [List.length_take]; omega)] at hy
      rcases List.mem_append.1 hy with hy | hy
      · exact .inl hy
      · rw [List.length_take, show k - min k M.length = 0 by omega] at hy
        simp at hy
        exact .inr hy
    rcases hy' with hy | rfl
    · obtain ⟨h1, h2, h3, h4⟩ := h.has y hy
      refine ⟨(h1.apart ha (fun _ _ _ h => h)).apart bo (fun h0 a haa e => (h3 h0 a haa).2 (by rw [e]; rfl)), h2, h3, (h4.but ha (fun _ _ _ h => h)).but bo (fun h0 a haa e => (h3 h0 a haa).2 (by rw [e]; rfl))⟩
    · refine ⟨hd.apart bo (fun h0 a haa e => ?_), hn, fun h0 a haa => ⟨Nat.le_trans hB (hA a haa), fun e => ?_⟩, hfr.but bo (fun h0 a haa e => ?_)⟩
      · have := hA a haa; omega
      · simp [Value.ownBlock] at e
        have := hA a haa; omega
      · have := hA a haa; omega
  · have h1 : M.drop (k + 1) = L.drop (k + 1) := by
      have h2 := congrArg (List.drop 1) h.rest
      rw [List.drop_drop, List.drop_drop] at h2
      exact h2
    rw [← h1, List.drop_set, if_pos (by omega)]
  · exact (h.below.trans (ha.below (fun _ h => h.elim) hB)).trans (bo.below (fun i e => by rw [e]; exact hgl.1) (Nat.le_trans hB ha.size))

section
variable {w : World} {g p : Nat} {T : Nat → Prop} {s : NS}

set_option maxHeartbeats 1600000 in
theorem records_any (h : Nv w g p T s) (hn : s.recs.length ≤ 1000) : Calls Try.prog 17 #[.pointer (some ⟨g, 0, none⟩)] w fun e w' => ∃ v, e = .returned v ∧ Recs w' w.heap.size v s.recs ∧ Below w.heap.size w w' := by
  obtain ⟨v, L, h⟩ := h
  have hL : L.length ≤ 1000 := by rw [h.len]; exact hn
  have c10 := h.cells.2.2.1
  have AB := Lib.hid h.abs
  have R0 := Lib.hid h.rw
  clear h hn
  go_enter Try.func17, Try.ntmps17
  go_wp2_with fail
  refine (rclone_any v 0 L w hL R0.out).mono ?_
  rintro e w1 ⟨v1, rfl, hown1, hb1⟩
  obtain ⟨A1, c1, rfl⟩ : ∃ A1 c1, v1 = .slice A1 L.length c1 := by
    rcases hown1.2 with ⟨rfl, e⟩ | ⟨g, cap, cur, rfl, _⟩
    · exact ⟨none, 0, by rw [e]⟩
    · exact ⟨_, cap, rfl⟩
  have F1 := Lib.hid (show Half w w1 w.heap.size (.slice A1 L.length c1) L L 0 from ⟨hown1, rfl, rfl, fun x hx => (by simp at hx), rfl, hb1⟩)
  clear hown1 hb1 c10
  generalize hB : w.heap.size = B at F1
  have HB := Lib.hid hB
  clear hB
  go_wp2_with fail
  go_loopw [13] (fun i wr => ∃ (k : Nat) (M : List Rc), k ≤ L.length ∧ i = .int .i64 k ∧ Half w wr B (.slice A1 L.length c1) L M k) (fun i _ => L.length - (intOf i).toNat)
  case atStart => exact ⟨0, L, Nat.zero_le _, rfl, F1.out⟩
  case round =>
    obtain ⟨k, M, hk, rfl, hF⟩ := hrel
    have F := Lib.hid hF
    by_cases hlt : k < L.length
    · obtain ⟨hm, e⟩ := hF.one hlt
      obtain ⟨g1, cap, e1, hg1, hgl⟩ := hF.own.form (by omega)
      injection e1 with e1 _ e2
      subst e1 e2
      obtain ⟨x, hx⟩ : ∃ x, L[k] = x := ⟨_, rfl⟩
      have hcell : ∀ j, j < 4 → wr.cell? ⟨g1, k * 4 + j, none⟩ = x.cs[j]? := fun j hj => by
        rw [hF.own.cellAt (k * 4 + j) (by omega), flat_get M k hm j hj, e, hx]
      have q0 : wr.cell? ⟨g1, k * 4, none⟩ = some (.int .u64 (x.seq : Int)) := hcell 0 (by omega)
      have q1 : wr.cell? ⟨g1, k * 4 + 1, none⟩ = some (.int .i64 x.kind) := hcell 1 (by omega)
      have q2 : wr.cell? ⟨g1, k * 4 + 2, none⟩ = some (.int .i64 x.lba) := hcell 2 (by omega)
      have q3 : wr.cell? ⟨g1, k * 4 + 3, none⟩ = some (.slice x.A x.n x.c) := hcell 3 (by omega)
      have HX := Lib.hid hx
      have hxL : x ∈ L := by rw [← hx]; exact List.getElem_mem hlt
      have X1 := Lib.hid ((R0.out.has x hxL).below (by rw [HB.out]; exact hF.below))
      have hxn := R0.out.len x hxL
      have U := Lib.hid (show B ≤ wr.heap.size by have := hF.below.size; have := HB.out; omega)
      clear hF hcell e hx hxL
      go_wp2_with fail
      obtain ⟨wa, hwa⟩ : ∃ wa, wa = wr.alloc (.cells #[.int .u64 (x.seq : Int), .int .i64 x.kind, .int .i64 x.lba, .slice x.A x.n x.c] 40) := ⟨_, rfl⟩
      rw [← hwa]
      have BA := Lib.hid (show But (fun _ => False) wr wa by rw [hwa]; exact (But.refl _ _).alloc _)
      clear hwa
      refine (bclone_any x.A x.n x.c x.l wa (by omega) (X1.out.apart BA.out (fun _ _ _ h => h))).mono ?_
      rintro e w2 ⟨v2, rfl, hown2, hb2⟩
      obtain ⟨A2, c2, rfl, _, _, hd2, hA2⟩ := Has.of_own hown2
      have b2 : But (fun _ => False) wr w2 := BA.out.trans (But.of_below hb2) (fun _ h _ => h)
      have q3' : w2.cell? ⟨g1, k * 4 + 3, none⟩ = some (.slice x.A x.n x.c) := (b2.cell (p := ⟨g1, k * 4 + 3, none⟩) hgl (fun h => h)).trans q3
      have z3 : w2.frozen? ⟨g1, k * 4 + 3, none⟩ = false := (own_but F.out.own b2 (fun _ _ h => h)).frozenAt (k * 4 + 3)
      have NX := Lib.hid (F.out.next (c2 := c2) (wa := wa) hlt HX.out b2 hd2 (fun a haa => by obtain ⟨i, rfl, hi⟩ := hA2 a haa; have := BA.out.size; show wr.heap.size ≤ i; omega) hxn U.out (free_own hown2 rfl rfl))
      clear hown2 hd2 hA2 hb2 b2 q0 q1 q2 q3
      go_wp2
      go_roundw
      case rel => exact ⟨k + 1, _, by omega, by go_num, NX.out⟩
      case measure => simp [intOf]; omega
    · have e0 : k = L.length := by omega
      subst e0
      clear hF
      go_wp2
      go_ret
      have hall : M.take L.length = M := List.take_of_length_le (by rw [F.out.len]; exact Nat.le_refl _)
      have hh := F.out.has
      rw [hall] at hh
      refine ⟨_, rfl, ⟨M, ⟨by rw [F.out.len, HB.out]; exact F.out.own, fun x hx => (hh x hx).1, fun x hx => (hh x hx).2.1, fun x hx h0 a ha => ((hh x hx).2.2.1 h0 a ha).2⟩, by rw [F.out.abs, AB.out], fun x hx h0 a ha => by rw [HB.out]; exact ((hh x hx).2.2.1 h0 a ha).1, fun x hx => (hh x hx).2.2.2⟩, by rw [HB.out]; exact F.out.below⟩
end

end Go.Proofs.Ytolienlbdfbdeaa
