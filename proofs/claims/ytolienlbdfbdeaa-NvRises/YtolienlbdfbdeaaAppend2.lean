/-
  THE WALK OF Append, when it is done.
-/
import Derived.Test.YtolienlbdfbdeaaAppend
import Derived.Test.YtolienlbdfbdeaaWalkA
import Derived.Test.YtolienlbdfbdeaaEarly
namespace Go.Proofs.Ytolienlbdfbdeaa
open Go.RowKit
set_option linter.unusedVariables false
set_option maxRecDepth 100000

section
variable {w : World} {g p : Nat} {T : Nat → Prop} {s : NS}

/-- The memory with its last number one more. -/
theorem NvIs.more {w2 : World} {v : Value} {L : List Rc} (h : NvIs w g p T s v L) (hat : At w2 g (ncells p s.root v (s.last + 1)) 60) (hb : But (fun k => k = g) w w2) : NvIs w2 g p T { s with last := s.last + 1 } v L :=
  ⟨hat, h.rw.but hb (fun k hk => (h.vT k hk).2) (fun x hx h0 a ha => (h.dT x hx h0 a ha).2), h.abs, h.gT, h.vT, h.dT, fun k hk => Nat.lt_of_lt_of_le (h.lt k hk) hb.size, h.np⟩

theorem NvIs.up {w2 : World} {v : Value} {L : List Rc} (h : NvIs w g p T s v L) (hb : But (fun _ => False) w w2) : NvIs w2 g p T s v L := h.but hb (fun _ _ h => h)
theorem Has.heap {w w' : World} {A : Option Addr} {n : Nat} {l : List (BitVec 8)} (h : Has w A n l) (e : w'.heap = w.heap) : Has w' A n l :=
  h.keep (by rw [e]; exact Nat.le_refl _) (fun p _ => World.cell?_of_block (by rw [e]))
/-- The record that was made, the row that has grown: what the block of the memory reads as. -/
theorem NvIs.after {w2 : World} {v : Value} {L : List Rc} (h : NvIs w g p T s v L) (hg : w.grownBy w2 v.ownBlock) : At w2 g (ncells p s.root v s.last) 60 :=
  h.at_.but (S := fun k => v.ownBlock = some k) ((But.refl _ _).grown hg (fun k hk _ => hk)) (fun e => (h.vT g e).2 rfl)
theorem part_recs (p : Nat) (r : Rt) (v v' : Value) (last : Nat) : (ncells p r v last).setIfInBounds 10 v' = ncells p r v' last := rfl
theorem part_last (p : Nat) (r : Rt) (v : Value) (last last' : Nat) : (ncells p r v last).setIfInBounds 11 (.int .u64 (last' : Int)) = ncells p r v last' := rfl

/-- All of it, when the record lies there. -/
theorem NvIs.added {w3 wa w5 : World} {A2 A5 A4 : Option Addr} {L : List Rc} {c2 c4 c5 m n : Nat} {k lba : Int} {d : List (BitVec 8)} (h : NvIs w3 g p T s (.slice A2 L.length c2) L)
    (hb4 : But (fun _ => False) w3 wa) (hd : Has wa A4 n d) (hn : n ≤ 100) (hA4 : 0 < n → ∀ x, A4 = some x → w3.heap.size ≤ x.block)
    (hown : w5.ownsRow 0 40 4 (.slice A5 m c5) m (flat (L ++ [⟨s.last, k, lba, A4, n, c4, d⟩]))) (hg : wa.grownBy w5 (Value.slice A2 L.length c2).ownBlock)
    (hf : ∀ i, (Value.slice A5 m c5).ownBlock = some i → (Value.slice A2 L.length c2).ownBlock = some i ∨ wa.heap.size ≤ i) (hpl : p < w3.heap.size) :
    NvIs (w5.setCell ⟨g, 10, none⟩ (.slice A5 m c5)) g p (fun i => T i ∨ (w3.heap.size ≤ i ∧ i < w5.heap.size)) { s with recs := s.recs ++ [⟨s.last, k, lba, d⟩] } (.slice A5 m c5) (L ++ [⟨s.last, k, lba, A4, n, c4, d⟩]) ∧
      But T w3 (w5.setCell ⟨g, 10, none⟩ (.slice A5 m c5)) := by
  have ha := h.up hb4
  have hs4 := hb4.size
  have bt : But (fun i => (Value.slice A2 L.length c2).ownBlock = some i) wa w5 := (But.refl _ _).grown hg (fun i hi _ => hi)
  have hs5 := bt.size
  have hgl := h.lt g h.gT
  have r5 := ha.rw.push (x := ⟨s.last, k, lba, A4, n, c4, d⟩) hown hg hf hd hn (fun h0 a haa e => by
    have h1 := hA4 h0 a haa
    have h2 := h.lt _ (h.vT _ e).1
    omega)
  have v5 : ∀ i, (Value.slice A5 m c5).ownBlock = some i → (T i ∨ (w3.heap.size ≤ i ∧ i < w5.heap.size)) ∧ i ≠ g := by
    intro i hi
    rcases hf i hi with e | e
    · exact ⟨.inl (h.vT i e).1, (h.vT i e).2⟩
    · have := (r5.own.lt i hi).2
      exact ⟨.inr ⟨by omega, this⟩, by omega⟩
  have d5 : ∀ x ∈ L ++ [(⟨s.last, k, lba, A4, n, c4, d⟩ : Rc)], 0 < x.n → ∀ a, x.A = some a → (T a.block ∨ (w3.heap.size ≤ a.block ∧ a.block < w5.heap.size)) ∧ a.block ≠ g := by
    intro x hx h0 a haa
    rcases List.mem_append.1 hx with hx' | hx'
    · have := h.dT x hx' h0 a haa
      exact ⟨.inl this.1, this.2⟩
    · simp at hx'; subst hx'
      have h1 := hA4 h0 a haa
      have h2 := r5.low _ hx h0 a haa
      exact ⟨.inr ⟨h1, h2⟩, by omega⟩
  have bo := But.own w5 g 10 (.slice A5 m c5)
  refine ⟨⟨?_, r5.but bo (fun i hi => (v5 i hi).2) (fun x hx h0 a haa => (d5 x hx h0 a haa).2), ?_, .inl h.gT, v5, d5, ?_, ?_⟩, ?_⟩
  · have := (ha.after hg).set 10 (.slice A5 m c5)
    rw [part_recs] at this
    exact this
  · rw [List.map_append, h.abs]
    rfl
  · rintro i (hi | hi)
    · have := h.lt i hi
      have := bo.size
      omega
    · have := bo.size
      omega
  · rintro (hi | hi)
    · exact h.np hi
    · omega
  · exact ((hb4.mono (T := T) (fun i hi _ => hi.elim)).trans bt (fun i hi _ => (h.vT i hi).1)).trans bo (fun i hi _ => hi ▸ h.gT)

theorem wp_append_rec {w : World} {o : Oper} {a : Act} {K : Act → World → Prop} {Q : Exit → Act → World → Prop} (s x : Operand)
    (ho : o.op = .call { callee := .builtin .append, args := #[s, x], argTypes := #[33, 33] }) (base : Nat) (v : Value) (n : Nat) (L : List Rc) (hs : a.eval s = v) (hown : w.ownsRow base 40 4 v n (flat L))
    (S : Addr) (m c : Nat) (M : List Rc) (hx : a.eval x = .slice (some S) m c) (hk : Src w S m M) (hm : n + m ≤ 1000000) (hbase : base ≤ w.heap.size)
    (h : ∀ A cap w', w'.ownsRow base 40 4 (.slice A (n + m) cap) (n + m) (flat (L ++ M)) → w.grownBy w' v.ownBlock → (∀ g, (Value.slice A (n + m) cap).ownBlock = some g → v.ownBlock = some g ∨ w.heap.size ≤ g) → K (a.put o.dst (.slice A (n + m) cap)) w') :
    Oper.wp Try.prog o a w K Q := by
  obtain ⟨A, cap, w', hr, h2, h3, h4⟩ := run_append_rec (ty := o.type) base v n L hown S m c M hk hm hbase
  unfold Oper.wp execOp
  simp only [ho, resolve, invoke, builtin, Sem.run_bind, Sem.run_pure, Result.andThen_ok, List.map_toArray, List.map_cons, List.map_nil, hs, hx, hr]
  exact h A cap w' h2 h3 h4

set_option maxHeartbeats 1600000 in
theorem append_go (k lba u l : Int) (A : Option Addr) (n c : Nat) (d : List (BitVec 8)) (h : Nv w g p T s) (hp : Pw w p u l) (hf : ¬ s.root.n ≤ (s.recs.length : Int)) (hd : Has w A n d) (hn : n ≤ 100) (hA : 0 < n → ∀ x, A = some x → ¬ x.block = g ∧ ¬ x.block = p)
    (hfew : s.recs.length ≤ 1000) (hlast : s.last ≤ 1000000) (hu : 0 ≤ u ∧ u ≤ 1000000) (hl : ¬ l = 0) (hm : l ≤ 9223372036854775807) :
    Calls Try.prog 12 #[.pointer (some ⟨g, 0, none⟩), .int .i64 k, .int .i64 lba, .slice A n c] w fun e w' => ∃ T', e = .returned (.int .i64 0) ∧ Nv w' g p T' (s.add k lba d) ∧ Pw w' p (u + 1) (less l) ∧ (∀ i, T' i → T i ∨ w.heap.size ≤ i) ∧ But (fun i => T i ∨ i = p) w w' := by
  obtain ⟨v, L, h⟩ := h
  obtain ⟨A2, c2, rfl⟩ := h.rw.slice
  obtain ⟨c0, c5, c10, c11⟩ := h.cells
  have LN := Lib.hid h.len
  rw [← h.len] at hf
  have P1 := Lib.hid hp
  have N1 := Lib.hid h
  have D1 := Lib.hid hd
  have HA := Lib.hid hA
  have HF := Lib.hid hfew
  clear h c11 hp hd hA hfew
  go_enter Try.func12, Try.ntmps12
  go_wp2
  go_quiet (fail)
  go_wp2_with fail
  obtain ⟨w1, hw1⟩ : ∃ w1, w1 = w.drewN nq := ⟨_, rfl⟩
  rw [← hw1]
  have N1 := Lib.hid (show NvIs w1 g p T s (.slice A2 L.length c2) L by rw [hw1]; exact N1.out.but (S := fun _ => False) ((But.refl _ _).drewN _) (fun _ _ h => h))
  have P1 := Lib.hid (show Pw w1 p u l by rw [hw1]; exact P1.out)
  have D1 := Lib.hid (show Has w1 A n d by rw [hw1]; exact D1.out)
  have B1 := Lib.hid (show But (fun i => T i ∨ i = p) w w1 by rw [hw1]; exact (But.refl _ _).drewN _)
  clear hw1 c0 c5 c10
  refine (tick_go p u l _ P1.out hu hl hm).mono ?_
  rintro e w2 ⟨rfl, hp2, hb2⟩
  have N2 := Lib.hid (N1.out.but hb2 (fun k hk e => N1.out.np (e ▸ hk)))
  have P2 := Lib.hid hp2
  have D2 := Lib.hid (D1.out.apart hb2 (fun h0 x hx => (HA.out h0 x hx).2))
  have B2 := Lib.hid (B1.out.trans hb2 (fun k e _ => .inr e))
  obtain ⟨c0, c5, c10, c11⟩ := N2.out.cells
  have f11 := N2.out.frozen 11
  clear hp2 hb2 N1 P1 D1 B1 c0 c5 c10
  go_wp2_with fail
  obtain ⟨q, hq⟩ : ∃ q : Nat, q = s.last + 1 := ⟨_, rfl⟩
  have hqi : (s.last : Int) + 1 = (q : Int) := by omega
  rw [hqi]
  obtain ⟨w3, hw3⟩ : ∃ w3, w3 = w2.setCell ⟨g, 11, none⟩ (.int .u64 (q : Int)) := ⟨_, rfl⟩
  rw [← hw3]
  have hb3 : But (fun k => k = g) w2 w3 := by rw [hw3]; exact But.own _ _ _ _
  have hat3 : At w3 g (ncells p s.root (.slice A2 L.length c2) (s.last + 1)) 60 := by
    have := N2.out.at_.set 11 (.int .u64 (q : Int))
    rw [part_last, hq] at this
    rw [hw3, hq]
    exact this
  have N3 := Lib.hid (N2.out.more hat3 hb3)
  have P3 := Lib.hid (show Pw w3 p (u + 1) (less l) from At.but P2.out hb3 (fun e => N2.out.np (e ▸ N2.out.gT)))
  have D3 := Lib.hid (D2.out.apart hb3 (fun h0 x hx => (HA.out h0 x hx).1))
  have B3 := Lib.hid (B2.out.trans hb3 (fun k e _ => .inl (e ▸ N2.out.gT)))
  clear hat3 hb3 hw3 N2 P2 D2 B2 c11 f11 hqi
  obtain ⟨c0, c5, c10, d11⟩ := N3.out.cells
  have c11 : w3.cell? ⟨g, 11, none⟩ = some (.int .u64 (q : Int)) := by rw [hq]; exact d11
  clear d11
  have HQ := Lib.hid hq
  clear hq c0 c5
  have S3 : (fun w' : World => w'.cell? ⟨g, 10, none⟩ = some (.slice A2 L.length c2) ∧ w'.cell? ⟨g, 11, none⟩ = some (.int .u64 (q : Int))) w3.drew := ⟨c10, c11⟩
  refine wp_region_early (fun w' => w'.cell? ⟨g, 10, none⟩ = some (.slice A2 L.length c2) ∧ w'.cell? ⟨g, 11, none⟩ = some (.int .u64 (q : Int))) (fun j => decide (j < 16)) (by kernel_rfl) ?_
  change wpEarly _ _ _ _ _ _ 19 (Array.replicate 19 false) _ w3.drew
  refine early_take (i := 0) 33 (.pointer (some ⟨g, 0, none⟩)) rfl rfl (by kernel_rfl) (by kernel_rfl) (by kernel_rfl) (by kernel_rfl) rfl (fun _ _ _ h => h) (fun w' hw' => rfl) S3 ?_
  simp only [Act.put, List.setIfInBounds_toArray, List.set_cons_zero, List.set_cons_succ]
  refine early_take (i := 1) 34 (.pointer (some ⟨g, 0, none⟩)) rfl rfl (by kernel_rfl) (by kernel_rfl) (by kernel_rfl) (by kernel_rfl) rfl (fun _ _ _ h => h) (fun w' hw' => rfl) S3 ?_
  simp only [Act.put, List.setIfInBounds_toArray, List.set_cons_zero, List.set_cons_succ]
  refine early_take (i := 2) 35 (.pointer (some ⟨g, 0, none⟩)) rfl rfl (by kernel_rfl) (by kernel_rfl) (by kernel_rfl) (by kernel_rfl) rfl (fun _ _ _ h => h) (fun w' hw' => rfl) S3 ?_
  simp only [Act.put, List.setIfInBounds_toArray, List.set_cons_zero, List.set_cons_succ]
  refine early_take (i := 3) 36 (.pointer (some ⟨g, 10, none⟩)) rfl rfl (by kernel_rfl) (by kernel_rfl) (by kernel_rfl) (by kernel_rfl) rfl (fun _ _ _ h => h) (fun w' hw' => rfl) S3 ?_
  simp only [Act.put, List.setIfInBounds_toArray, List.set_cons_zero, List.set_cons_succ]
  refine early_take (i := 4) 37 (.slice A2 L.length c2) rfl rfl (by kernel_rfl) (by kernel_rfl) (by kernel_rfl) (by kernel_rfl) rfl (fun _ _ _ h => h) (fun w' hw' => by obtain ⟨h1, h2⟩ := hw'; go_simp) S3 ?_
  simp only [Act.put, List.setIfInBounds_toArray, List.set_cons_zero, List.set_cons_succ]
  refine early_take (i := 5) 38 (.pointer (some ⟨g, 0, none⟩)) rfl rfl (by kernel_rfl) (by kernel_rfl) (by kernel_rfl) (by kernel_rfl) rfl (fun _ _ _ h => h) (fun w' hw' => rfl) S3 ?_
  simp only [Act.put, List.setIfInBounds_toArray, List.set_cons_zero, List.set_cons_succ]
  refine early_take (i := 6) 39 (.pointer (some ⟨g, 0, none⟩)) rfl rfl (by kernel_rfl) (by kernel_rfl) (by kernel_rfl) (by kernel_rfl) rfl (fun _ _ _ h => h) (fun w' hw' => rfl) S3 ?_
  simp only [Act.put, List.setIfInBounds_toArray, List.set_cons_zero, List.set_cons_succ]
  refine early_take (i := 7) 40 (.pointer (some ⟨g, 11, none⟩)) rfl rfl (by kernel_rfl) (by kernel_rfl) (by kernel_rfl) (by kernel_rfl) rfl (fun _ _ _ h => h) (fun w' hw' => rfl) S3 ?_
  simp only [Act.put, List.setIfInBounds_toArray, List.set_cons_zero, List.set_cons_succ]
  refine early_take (i := 8) 41 (.int .u64 (q : Int)) rfl rfl (by kernel_rfl) (by kernel_rfl) (by kernel_rfl) (by kernel_rfl) rfl (fun _ _ _ h => h) (fun w' hw' => by obtain ⟨h1, h2⟩ := hw'; go_simp) S3 ?_
  simp only [Act.put, List.setIfInBounds_toArray, List.set_cons_zero, List.set_cons_succ]
  refine early_take (i := 9) 42 (.int .i64 k) rfl rfl (by kernel_rfl) (by kernel_rfl) (by kernel_rfl) (by kernel_rfl) rfl (fun _ _ _ h => h) (fun w' hw' => rfl) S3 ?_
  simp only [Act.put, List.setIfInBounds_toArray, List.set_cons_zero, List.set_cons_succ]
  refine early_take (i := 10) 43 (.int .i64 lba) rfl rfl (by kernel_rfl) (by kernel_rfl) (by kernel_rfl) (by kernel_rfl) rfl (fun _ _ _ h => h) (fun w' hw' => rfl) S3 ?_
  simp only [Act.put, List.setIfInBounds_toArray, List.set_cons_zero, List.set_cons_succ]
  refine early_take (i := 11) 44 (.slice A n c) rfl rfl (by kernel_rfl) (by kernel_rfl) (by kernel_rfl) (by kernel_rfl) rfl (fun _ _ _ h => h) (fun w' hw' => rfl) S3 ?_
  simp only [Act.put, List.setIfInBounds_toArray, List.set_cons_zero, List.set_cons_succ]
  refine early_only (i := 12) (by kernel_rfl) rfl (fun K hK => ?_)
  simp only [opWp, List.getElem?_toArray, List.getElem?_cons_succ, List.getElem?_cons_zero]
  go_simp
  go_at_call 26
  refine (bclone_any A n c d _ (by omega) (D3.out.heap (by rfl))).mono ?_
  rintro e w4 ⟨v4, rfl, hown4, hb4⟩
  obtain ⟨A4, c4, rfl, _, _, hd4, hA4⟩ := Has.of_own hown4
  have BN := Lib.hid (show But (fun _ => False) w3 w4 from ((But.refl _ _).drew).trans (But.of_below hb4) (fun _ h _ => h))
  have D4 := Lib.hid hd4
  have H4 := Lib.hid (show ∀ x, A4 = some x → w3.heap.size ≤ x.block from fun x hx => by obtain ⟨i, rfl, hi⟩ := hA4 x hx; exact hi)
  have N4 := Lib.hid (N3.out.up BN.out)
  have S4 : (fun w' : World => w'.cell? ⟨g, 10, none⟩ = some (.slice A2 L.length c2) ∧ w'.cell? ⟨g, 11, none⟩ = some (.int .u64 (q : Int))) w4 := ⟨N4.out.cells.2.2.1, by rw [HQ.out]; exact N4.out.cells.2.2.2⟩
  clear hown4 hb4 hd4 hA4
  refine hK _ _ (fun _ => S4) ?_
  refine early_take (i := 13) 46 (.agg #[.int .u64 (q : Int), .int .i64 k, .int .i64 lba, .slice A4 n c4]) rfl rfl (by kernel_rfl) (by kernel_rfl) (by kernel_rfl) (by kernel_rfl) rfl (fun _ _ _ h => h) (fun w' hw' => by go_simp) S4 ?_
  simp only [Act.put, List.setIfInBounds_toArray, List.set_cons_zero, List.set_cons_succ]
  refine early_only (i := 14) (by kernel_rfl) rfl (fun K hK => ?_)
  simp only [opWp, List.getElem?_toArray, List.getElem?_cons_succ, List.getElem?_cons_zero]
  go_simp
  have BA := Lib.hid (BN.out.alloc (.cells #[.int .u64 (q : Int), .int .i64 k, .int .i64 lba, .slice A4 n c4] 40))
  have NA := Lib.hid (N3.out.up BA.out)
  refine hK _ _ (fun _ => ⟨NA.out.cells.2.2.1, NA.out.cells.2.2.2.trans (by rw [HQ.out])⟩) ?_
  refine early_only (i := 15) (by kernel_rfl) rfl (fun K hK => ?_)
  simp only [opWp, List.getElem?_toArray, List.getElem?_cons_succ, List.getElem?_cons_zero]
  refine wp_append_rec (.tmp 37) (.tmp 47) rfl 0 (.slice A2 L.length c2) L.length L rfl NA.out.rw.own ⟨w4.heap.size, 0, none⟩ 1 1 [⟨q, k, lba, A4, n, c4, d⟩] rfl (Src.one _ (At.new _ 40 rfl)) (by have := HF.out; have := LN.out; omega) (Nat.zero_le _) ?_
  intro A5 c5 w5 hown5 hg5 hf5
  have a5 := NA.out.after hg5
  have e10 : w5.cell? ⟨g, 10, none⟩ = some (.slice A2 L.length c2) := a5.cell 10
  have z10 := a5.frozen 10
  refine hK _ _ (fun _ => ⟨e10, by rw [HQ.out]; exact a5.cell 11⟩) ?_
  simp only [Act.put, List.setIfInBounds_toArray, List.set_cons_zero, List.set_cons_succ]
  refine early_only (i := 16) (by kernel_rfl) rfl (fun K hK => ?_)
  simp only [opWp, List.getElem?_toArray, List.getElem?_cons_succ, List.getElem?_cons_zero]
  go_simp
  refine hK _ _ (fun h => absurd h (by decide)) ?_
  refine early_only (i := 17) (by kernel_rfl) rfl (fun K hK => ?_)
  simp only [opWp, List.getElem?_toArray, List.getElem?_cons_succ, List.getElem?_cons_zero]
  go_simp
  refine hK _ _ (fun h => absurd h (by decide)) ?_
  refine early_only (i := 18) (by kernel_rfl) rfl (fun K hK => ?_)
  simp only [opWp, List.getElem?_toArray, List.getElem?_cons_succ, List.getElem?_cons_zero]
  go_simp
  refine hK _ _ (fun h => absurd h (by decide)) ?_
  refine early_done (by kernel_rfl) ?_
  have eq := HQ.out
  subst eq
  have R := Lib.hid (N3.out.added BA.out (D4.out.apart ((But.refl (fun _ => False) w4).alloc _) (fun _ _ _ h => h)) hn (fun _ x hx => H4.out x hx) hown5 hg5 hf5 P3.out.lt)
  clear hown5 hg5 hf5 a5 e10 z10 S3 S4 c10 c11
  go_wp2
  go_ret
  exact ⟨rfl, _, ⟨_, _, R.out.1⟩, At.but P3.out (But.mono (T := fun i => T i) R.out.2 (fun i hi _ => hi)) N3.out.np, fun i hi => hi.elim .inl (fun h => .inr (Nat.le_trans B3.out.size h.1)), B3.out.trans R.out.2 (fun i hi _ => .inl hi)⟩
end

end Go.Proofs.Ytolienlbdfbdeaa
