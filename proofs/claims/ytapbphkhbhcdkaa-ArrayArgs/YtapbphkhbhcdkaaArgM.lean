/-
  THE CALLS OF AN ARRAY, whatever their arguments.
-/
import Derived.Test.YtapbphkhbhcdkaaBrk
import Derived.Deep.CutRange
namespace Go.Proofs.Ytapbphkhbhcdkaa
open Go.RowKit Go.Maps
set_option linter.unusedVariables false
set_option maxRecDepth 100000

section
variable {w w' : World} {P : Pl} {O : Nat → Prop} {s : AS}
theorem Chunk_arg (t k : Int) (ha : ¬ (0 ≤ t ∧ t < s.N ∧ 0 ≤ k ∧ k < (s.M : Int) - 1)) (h : Arr w P O s) :
    Calls Try.prog 21 #[ptr P.a, .int .i64 t, .int .i64 k] w fun e w' => e = .returned (.tuple #[.slice none 0 0, .int .i64 1]) ∧ Below w.heap.size w w' := by
  have HA := Lib.hid h
  obtain ⟨c0, c1, c2, c3, c4, c5⟩ := h.shape
  clear h
  go_enter Try.func21, Try.ntmps21
  go_wp2_with fail
  refine (all_call HA.out.wf w).mono ?_
  rintro e w1 ⟨rfl, hb⟩
  have A1 := Lib.hid (HA.out.up hb)
  have B1 := Lib.hid hb
  clear hb c0 c1 c2 c3 c4 c5
  go_wp2_with fail
  refine (inside_any t s.N w1).mono ?_
  rintro e w2 ⟨rfl, hw2⟩
  rw [hw2]
  clear hw2
  by_cases ht : 0 ≤ t ∧ t < s.N
  · rw [decide_eq_true ht]
    have t2 : decide (0 ≤ k ∧ k < (s.M : Int) - 1) = false := decide_eq_false (fun e => ha ⟨ht.1, ht.2, e.1, e.2⟩)
    clear ha ht
    go_wp2_with fail
    refine (chunks_any A1.out).mono ?_
    rintro e w2 ⟨rfl, hw2⟩
    rw [hw2]
    clear hw2
    go_wp2_with fail
    refine (inside_any k ((s.M : Int) - 1) w1).mono ?_
    rintro e w2 ⟨rfl, hw2⟩
    rw [hw2, t2]
    clear t2 hw2
    go_wp2
    go_ret2
    exact ⟨rfl, B1.out⟩
  · rw [decide_eq_false ht]
    clear ha ht
    go_wp2
    go_ret2
    exact ⟨rfl, B1.out⟩
theorem Mend_arg (t : Int) (ha : ¬ (0 ≤ t ∧ t < s.N)) (h : Arr w P O s) : Calls Try.prog 24 #[ptr P.a, .int .i64 t] w fun e w' => e = .returned (.int .i64 1) ∧ Below w.heap.size w w' := by
  have HA := Lib.hid h
  have t1 : decide (0 ≤ t ∧ t < s.N) = false := decide_eq_false ha
  obtain ⟨c0, c1, c2, c3, c4, c5⟩ := h.shape
  clear h ha
  go_enter Try.func24, Try.ntmps24
  go_wp2_with fail
  refine (all_call HA.out.wf w).mono ?_
  rintro e w1 ⟨rfl, hbl⟩
  have B1 := Lib.hid hbl
  clear hbl c0 c1 c2 c3 c4 c5
  go_wp2_with fail
  refine (inside_any t s.N w1).mono ?_
  rintro e w2 ⟨rfl, hw2⟩
  rw [hw2, t1]
  clear t1 hw2
  go_wp2
  go_ret
  exact ⟨rfl, B1.out⟩
theorem Same_arg (i : Int) (ha : ¬ (0 ≤ i ∧ i < (s.S : Int))) (h : Arr w P O s) : Calls Try.prog 22 #[ptr P.a, .int .i64 i] w fun e w' => e = .returned (.tuple #[.slice none 0 0, .int .i64 1]) ∧ Below w.heap.size w w' := by
  have HA := Lib.hid h
  have t1 : decide (0 ≤ i ∧ i < (s.S : Int)) = false := decide_eq_false ha
  obtain ⟨c0, c1, c2, c3, c4, c5⟩ := h.shape
  clear h ha
  go_enter Try.func22, Try.ntmps22
  go_wp2_with fail
  refine (sectors_call HA.out.wf w).mono ?_
  rintro e w1 ⟨rfl, hbl⟩
  have B1 := Lib.hid hbl
  clear hbl c0 c1 c2 c3 c4 c5
  go_wp2_with fail
  refine (inside_any i (s.S : Int) w1).mono ?_
  rintro e w2 ⟨rfl, hw2⟩
  rw [hw2, t1]
  clear t1 hw2
  go_wp2
  go_ret2
  exact ⟨rfl, B1.out⟩
theorem Replace_arg (m : Int) (ha : ¬ (0 ≤ m ∧ m < (s.M : Int) ∧ m = s.stale)) (hb : s.broken = false) (h : Arr w P O s) : Calls Try.prog 25 #[ptr P.a, .int .i64 m] w fun e w' => e = .returned (.int .i64 1) ∧ Below w.heap.size w w' := by
  have HA := Lib.hid h
  obtain ⟨c6, c7, c8⟩ := h.cells
  rw [hb] at c8
  clear h c7 hb
  go_enter Try.func25, Try.ntmps25
  go_wp2_with fail
  refine (inside_any m (s.M : Int) w).mono ?_
  rintro e w1 ⟨rfl, hw1⟩
  rw [hw1]
  clear hw1 c6 c8
  by_cases hm : 0 ≤ m ∧ m < (s.M : Int)
  · rw [decide_eq_true hm]
    have hne : ¬ m = s.stale := fun e => ha ⟨hm.1, hm.2, e⟩
    clear ha hm
    go_wp2_with fail
    refine (stale_any HA.out).mono ?_
    rintro e w2 ⟨rfl, hbl⟩
    have B2 := Lib.hid hbl
    clear hbl
    go_wp2
    go_ret
    exact ⟨rfl, B2.out⟩
  · rw [decide_eq_false hm]
    clear ha hm
    go_wp2
    go_ret
    exact ⟨rfl, Below.refl _ _⟩
theorem Finish_arg (A : Option Addr) (n c : Nat) (b : Bytes) (hn : (n : Int) ≠ s.b) (h48 : n ≤ 1000) (hl : Has w A n b) (h : Arr w P O s) : Calls Try.prog 29 #[ptr P.a, .slice A n c] w fun e w' => e = .returned (.int .i64 1) ∧ Below w.heap.size w w' := by
  have HA := Lib.hid h
  have HL := Lib.hid hl
  have HN := Lib.hid hn
  clear h hl hn
  go_enter Try.func29, Try.ntmps29
  go_wp2_with fail
  have L1 := Lib.hid (show Ln (w.alloc (.cells #[.slice A n c] 46)) (some ⟨w.heap.size, 0, none⟩) 1 [⟨A, n, c, b⟩] from
    ⟨⟨rfl, fun _ => ⟨w.heap.size, 0, rfl, by simp, fun k hk => by
      have hk0 : k = 0 := by simpa using hk
      subst hk0
      exact (At.new #[.slice A n c] 46 rfl).cell 0⟩⟩, fun x hx => by simp at hx; subst hx; exact HL.out.below ((Below.refl _ _).alloc (Nat.le_refl _) _), fun x hx => by simp at hx; subst hx; show n ≤ 140737488355328; omega, by decide⟩)
  have A1 := Lib.hid (HA.out.alloc (.cells #[.slice A n c] 46))
  have B1 := Lib.hid ((Below.refl w.heap.size w).alloc (Nat.le_refl _) (.cells #[.slice A n c] 46))
  refine (blocks_any (some ⟨w.heap.size, 0, none⟩) 1 1 _ A1.out L1.out).mono ?_
  rintro e w1 ⟨rfl, hbl⟩
  have B2 := Lib.hid (B1.out.trans (hbl.mono B1.out.size))
  rw [decide_eq_false (show ¬ Fits [⟨A, n, c, b⟩] s.b from fun h => HN.out (h ⟨A, n, c, b⟩ (by simp)))]
  clear hbl
  go_wp2
  go_ret
  exact ⟨rfl, B2.out⟩
/-- Chunks too few or too many, too short or too long, or a stripe that there is not. -/
theorem Put_arg (t : Int) (A : Option Addr) (KC c : Nat) (L : List Sl) (hKC : KC ≤ 100) (hL : Ln w A KC L) (ha : ¬ ((KC : Int) = (s.M : Int) - 1 ∧ Fits L s.b ∧ 0 ≤ t ∧ t < s.N)) (h : Arr w P O s) :
    Calls Try.prog 37 #[ptr P.a, .int .i64 t, .slice A KC c] w fun e w' => e = .returned (.int .i64 1) ∧ Below w.heap.size w w' := by
  obtain ⟨W, hW⟩ : ∃ W, W = w.alloc (.cells #[ptr P.a] 35) := ⟨_, rfl⟩
  have bel : Below w.heap.size w W := by rw [hW]; exact (Below.refl _ _).alloc (Nat.le_refl _) _
  have BB := Lib.hid bel
  have HA := Lib.hid (show Arr W P O s by rw [hW]; exact h.alloc _)
  have HL := Lib.hid (hL.below bel)
  have hbx : Box W w.heap.size P O := by rw [hW]; exact box_new h
  have BX := Lib.hid hbx
  have d1 := hbx.1.cell 0
  rw [hW] at d1
  have HW := Lib.hid hW
  clear h hL bel hbx hW
  go_enter Try.func37, Try.ntmps37
  go_wp2_with fail
  rw [← HW.out]
  refine (chunks_any HA.out).mono ?_
  rintro e w1 ⟨rfl, hw1⟩
  rw [hw1]
  rw [← HW.out] at d1
  clear hw1
  by_cases hk : (KC : Int) = (s.M : Int) - 1
  · have tK : ((KC : Int) != (s.M : Int) - 1) = false := by simp [hk]
    go_wp2_with fail
    refine (blocks_any A KC c L HA.out HL.out).mono ?_
    rintro e w2 ⟨rfl, hb⟩
    have A2 := Lib.hid (HA.out.up hb)
    have C2 := Lib.hid (BB.out.trans (hb.mono BB.out.size))
    have X2 := Lib.hid (show Box w2 w.heap.size P O from ⟨BX.out.1.below hb BX.out.1.lt, BX.out.2⟩)
    clear hb d1 tK
    by_cases hf : Fits L s.b
    · rw [decide_eq_true hf]
      have t1 : decide (0 ≤ t ∧ t < s.N) = false := decide_eq_false (fun e => ha ⟨hk, hf, e.1, e.2⟩)
      have d1 := X2.out.1.cell 0
      obtain ⟨c0, c1, c2, c3, c4, c5⟩ := A2.out.shape
      clear ha hf hk
      go_wp2_with fail
      refine (all_call A2.out.wf w2).mono ?_
      rintro e w3 ⟨rfl, hb⟩
      have C3 := Lib.hid (C2.out.trans (hb.mono C2.out.size))
      clear hb d1 c0 c1 c2 c3 c4 c5
      go_wp2_with fail
      refine (inside_any t s.N w3).mono ?_
      rintro e w4 ⟨rfl, hw4⟩
      rw [hw4, t1]
      clear hw4 t1
      go_wp2
      go_ret
      exact ⟨rfl, C3.out⟩
    · rw [decide_eq_false hf]
      clear ha hf hk
      go_wp2
      go_ret
      exact ⟨rfl, C2.out⟩
  · have tK : ((KC : Int) != (s.M : Int) - 1) = true := by simp [hk]
    clear ha d1
    go_wp2
    go_ret
    exact ⟨rfl, BB.out⟩
end

section
variable {P : Program} {ops : Array Oper} {Q : Exit → Act → World → Prop} {md : Region.Mode} {S : World → Prop} {E : Nat → Bool}
/-- Number i is not wanted: its slot stays undefined. -/
theorem early_pass {i : Nat} {oi : Oper} {fuel : Nat} {listed : Array Bool} {a : Act} {w : World} (t : Nat) (hi : ops[i]? = some oi) (hd : oi.dst = some t) (hE : named md ops E i = true)
    (hs : Region.noSelect ops = true) (hf : Region.free md ops listed i = true) (hr : (Region.ready md ops listed).contains i = true) (hg : Region.wanted oi (yielded ops a.tmps) = false)
    (hQ : ∀ c a w, Q (.panic c) (a.put (some t) undef) w → Q (.panic c) a w) (hS : S w)
    (h : wpEarly P md ops Q S E fuel (listed.setIfInBounds i true) (a.put (some t) undef) w) : wpEarly P md ops Q S E (fuel + 1) listed a w := by
  rw [← hd] at hQ h
  exact early_first hi (Region.noSelect_spec hs) hE hQ fuel listed a w (Region.free_spec hi hf) (by simpa using hr) (.inr ⟨hg, rfl⟩) hS h
/-- The same, where it alone may come. -/
theorem early_lone {i : Nat} {oi : Oper} {fuel : Nat} {listed : Array Bool} {a : Act} {w : World} (t : Nat) (hi : ops[i]? = some oi) (hd : oi.dst = some t) (hr : Region.ready md ops listed = [i]) (hg : Region.wanted oi (yielded ops a.tmps) = false) (hS : S w)
    (h : wpEarly P md ops Q S E fuel (listed.setIfInBounds i true) (a.put (some t) undef) w) : wpEarly P md ops Q S E (fuel + 1) listed a w := by
  refine ⟨fun h0 => (by rw [hr] at h0; cases h0), fun j hj => ?_⟩
  rw [hr] at hj
  obtain rfl : j = i := by simpa using hj
  rw [← hd] at h
  exact YieldsIf.wpOp (S := S) hi (.inr ⟨hg, rfl⟩) hS ⟨fun _ => hS, h⟩
end
section
variable {w w' : World} {P : Pl} {O : Nat → Prop} {s : AS}
set_option maxHeartbeats 1600000 in
theorem PutSame_arg (i : Int) (A : Option Addr) (n c : Nat) (b : Bytes) (h1000 : n ≤ 1000) (ha : ¬ ((0 ≤ i ∧ i < (s.S : Int)) ∧ (n : Int) = s.b)) (hb : Has w A n b) (hA : ∀ x, A = some x → ¬ O x.block) (h : Arr w P O s) :
    Calls Try.prog 27 #[.pointer (some ⟨P.a, 0, none⟩), .int .i64 i, .slice A n c] w fun e w' => e = .returned (.int .i64 1) ∧ But (fun _ => False) w w' := by
  have hmf : ∀ (fn : Fn) (first cap : Array Value) (w : World), (Instr.makeFunc fn first cap).run Try.prog w = .ok (.func fn first cap) w := fun _ _ _ _ => rfl
  have b48 := h.wf.small.hb
  obtain ⟨W, hW⟩ : ∃ W, W = ((w.alloc (.cells #[.pointer (some ⟨P.a, 0, none⟩)] 35)).alloc (.cells #[.int .i64 i] 3)).alloc (.cells #[.slice A n c] 46) := ⟨_, rfl⟩
  have B1 := Lib.hid (show But (fun _ => False) w W by rw [hW]; exact ((((But.refl (fun _ => False) w).alloc _).alloc _).alloc _))
  have HA := Lib.hid (show Arr W P O s by rw [hW]; exact (((h.alloc _).alloc _).alloc _))
  have HS := Lib.hid (show Sm W P O w.heap.size (w.heap.size + 1) (w.heap.size + 1 + 1) i A n c b by
    have hlt := h.lt
    have bel : Below w.heap.size w W := by rw [hW]; exact (((Below.refl _ _).alloc (Nat.le_refl _) _).alloc (by simp) _).alloc (by simp; omega) _
    refine ⟨⟨?_, fun e => by have := hlt _ e; omega⟩, ?_, ?_, hb.below bel, fun e => by have := hlt _ e; omega, fun e => by have := hlt _ e; omega, hA⟩
    · rw [hW]; exact ((At.new _ 35 rfl).alloc _).alloc _
    · rw [hW]; exact (At.new _ 3 (by simp)).alloc _
    · rw [hW]; exact At.new _ 46 (by simp))
  clear h hb hA
  go_enter Try.func27, Try.ntmps27
  go_wp2_with fail
  rw [← hW]
  clear hW
  have S0 : (fun w' : World => Arr w' P O s ∧ Sm w' P O w.heap.size (w.heap.size + 1) (w.heap.size + 1 + 1) i A n c b) W.drew := ⟨HA.out.drew, HS.out.drew⟩
  refine wp_region_early (fun w' : World => Arr w' P O s ∧ Sm w' P O w.heap.size (w.heap.size + 1) (w.heap.size + 1 + 1) i A n c b) (fun _ => true) (by kernel_rfl) ?_
  change wpEarly _ _ _ _ _ _ 15 (Array.replicate 15 false) _ W.drew
  refine early_take (i := 0) 7 (.int .i64 i) rfl rfl (by kernel_rfl) (by kernel_rfl) (by kernel_rfl) (by kernel_rfl) rfl (fun _ _ _ h => h) (fun w' hw' => by obtain ⟨hA, hS⟩ := hw'; have k := hS.at2.cell 0; go_simp) S0 ?_
  simp only [Act.put, List.setIfInBounds_toArray, List.set_cons_zero, List.set_cons_succ]
  refine early_take (i := 1) 8 (.pointer (some ⟨P.a, 0, none⟩)) rfl rfl (by kernel_rfl) (by kernel_rfl) (by kernel_rfl) (by kernel_rfl) rfl (fun _ _ _ h => h) (fun w' hw' => by obtain ⟨hA, hS⟩ := hw'; have k := hS.box.1.cell 0; go_simp) S0 ?_
  simp only [Act.put, List.setIfInBounds_toArray, List.set_cons_zero, List.set_cons_succ]
  refine early_take (i := 2) 9 (.pointer (some ⟨P.a, 0, none⟩)) rfl rfl (by kernel_rfl) (by kernel_rfl) (by kernel_rfl) (by kernel_rfl) rfl (fun _ _ _ h => h) (fun w' hw' => by go_simp) S0 ?_
  simp only [Act.put, List.setIfInBounds_toArray, List.set_cons_zero, List.set_cons_succ]
  refine early_take (i := 3) 10 (.pointer (some ⟨P.a, 0, none⟩)) rfl rfl (by kernel_rfl) (by kernel_rfl) (by kernel_rfl) (by kernel_rfl) rfl (fun _ _ _ h => h) (fun w' hw' => by go_simp) S0 ?_
  simp only [Act.put, List.setIfInBounds_toArray, List.set_cons_zero, List.set_cons_succ]
  refine early_take (i := 4) 11 (sv (s.M : Int) s.b s.g s.s s.n s.l) rfl rfl (by kernel_rfl) (by kernel_rfl) (by kernel_rfl) (by kernel_rfl) rfl (fun _ _ _ h => h) (fun w' hw' => exec_shape (x := .tmp 10) rfl rfl hw'.1.range) S0 ?_
  simp only [Act.put, List.setIfInBounds_toArray, List.set_cons_zero, List.set_cons_succ]
  refine early_only (i := 5) (by kernel_rfl) rfl (fun K hK => ?_)
  simp only [opWp, List.getElem?_toArray, List.getElem?_cons_succ, List.getElem?_cons_zero]
  go_simp
  go_at_call 38
  refine (sectors_call HA.out.wf _).mono ?_
  rintro e w2 ⟨rfl, hb2⟩
  have S2 : (fun w' : World => Arr w' P O s ∧ Sm w' P O w.heap.size (w.heap.size + 1) (w.heap.size + 1 + 1) i A n c b) w2 := ⟨S0.1.up hb2, S0.2.up hb2⟩
  have C2 := Lib.hid (B1.out.trans (But.of_drewN 1 (But.of_below (S := fun _ => False) hb2)) (fun _ h _ => h.elim))
  clear hb2
  refine hK _ _ (fun _ => S2) ?_
  refine early_only (i := 6) (by kernel_rfl) rfl (fun K hK => ?_)
  simp only [opWp, List.getElem?_toArray, List.getElem?_cons_succ, List.getElem?_cons_zero]
  go_simp
  go_at_call 47
  refine (inside_any i (s.S : Int) w2).mono ?_
  rintro e w3 ⟨rfl, hw3⟩
  rw [hw3]
  clear hw3
  by_cases hi : 0 ≤ i ∧ i < (s.S : Int)
  · rw [decide_eq_true hi]
    have HN := Lib.hid (show ¬ (n : Int) = s.b from fun e => ha ⟨hi, e⟩)
    clear ha hi
    refine hK _ _ (fun _ => S2) ?_
    refine early_take (i := 7) 14 (.bool false) rfl rfl (by kernel_rfl) (by kernel_rfl) (by kernel_rfl) (by kernel_rfl) rfl (fun _ _ _ h => h) (fun w' hw' => by go_simp) S2 ?_
    simp only [Act.put, List.setIfInBounds_toArray, List.set_cons_zero, List.set_cons_succ]
    refine early_take (i := 8) 15 (.bool false) rfl rfl (by kernel_rfl) (by kernel_rfl) (by kernel_rfl) (by kernel_rfl) rfl (fun _ _ _ h => h) (fun w' hw' => by go_simp) S2 ?_
    simp only [Act.put, List.setIfInBounds_toArray, List.set_cons_zero, List.set_cons_succ]
    refine early_take (i := 9) 16 (.pointer (some ⟨P.a, 0, none⟩)) rfl rfl (by kernel_rfl) (by kernel_rfl) (by kernel_rfl) (by kernel_rfl) rfl (fun _ _ _ h => h) (fun w' hw' => by obtain ⟨hA, hS⟩ := hw'; have k := hS.box.1.cell 0; go_simp) S2 ?_
    simp only [Act.put, List.setIfInBounds_toArray, List.set_cons_zero, List.set_cons_succ]
    refine early_take (i := 10) 17 (.slice A n c) rfl rfl (by kernel_rfl) (by kernel_rfl) (by kernel_rfl) (by kernel_rfl) rfl (fun _ _ _ h => h) (fun w' hw' => by obtain ⟨hA, hS⟩ := hw'; have k := hS.at3.cell 0; go_simp) S2 ?_
    simp only [Act.put, List.setIfInBounds_toArray, List.set_cons_zero, List.set_cons_succ]
    refine early_only (i := 11) (by kernel_rfl) rfl (fun K hK => ?_)
    simp only [opWp, List.getElem?_toArray, List.getElem?_cons_succ, List.getElem?_cons_zero]
    go_simp
    have bel4 : Below w2.heap.size w2 (w2.alloc (.cells #[.slice A n c] 46)) := (Below.refl _ _).alloc (Nat.le_refl _) _
    have S4 : (fun w' : World => Arr w' P O s ∧ Sm w' P O w.heap.size (w.heap.size + 1) (w.heap.size + 1 + 1) i A n c b) (w2.alloc (.cells #[.slice A n c] 46)) := ⟨S2.1.up bel4, S2.2.up bel4⟩
    have C4 := Lib.hid (C2.out.trans (But.of_below (S := fun _ => False) bel4) (fun _ h _ => h.elim))
    have L4 := Lib.hid (one_ln A n c b S2.2.has (by omega))
    clear bel4
    refine hK _ _ (fun _ => S4) ?_
    refine early_only (i := 12) (by kernel_rfl) rfl (fun K hK => ?_)
    simp only [opWp, List.getElem?_toArray, List.getElem?_cons_succ, List.getElem?_cons_zero]
    go_simp
    go_at_call 56
    refine (blocks_any _ 1 1 _ S4.1 L4.out).mono ?_
    rintro e w5 ⟨rfl, hbl⟩
    have S5 : (fun w' : World => Arr w' P O s ∧ Sm w' P O w.heap.size (w.heap.size + 1) (w.heap.size + 1 + 1) i A n c b) w5 := ⟨S4.1.up hbl, S4.2.up hbl⟩
    have C5 := Lib.hid (C4.out.trans (But.of_below (S := fun _ => False) hbl) (fun _ h _ => h.elim))
    rw [decide_eq_false (show ¬ Fits [⟨A, n, c, b⟩] s.b from fun h => HN.out ((one_fits A n c b s.b).1 h))]
    clear hbl
    refine hK _ _ (fun _ => S5) ?_
    refine early_take (i := 13) 20 (.bool true) rfl rfl (by kernel_rfl) (by kernel_rfl) (by kernel_rfl) (by kernel_rfl) rfl (fun _ _ _ h => h) (fun w' hw' => by go_simp) S5 ?_
    simp only [Act.put, List.setIfInBounds_toArray, List.set_cons_zero, List.set_cons_succ]
    refine early_take (i := 14) 21 (.bool true) rfl rfl (by kernel_rfl) (by kernel_rfl) (by kernel_rfl) (by kernel_rfl) rfl (fun _ _ _ h => h) (fun w' hw' => by go_simp) S5 ?_
    simp only [Act.put, List.setIfInBounds_toArray, List.set_cons_zero, List.set_cons_succ]
    refine early_done (by kernel_rfl) ?_
    clear S0 S2 S4 S5
    go_wp2
    go_ret
    exact ⟨rfl, C5.out⟩
  · rw [decide_eq_false hi]
    clear ha hi
    refine hK _ _ (fun _ => S2) ?_
    refine early_take (i := 7) 14 (.bool true) rfl rfl (by kernel_rfl) (by kernel_rfl) (by kernel_rfl) (by kernel_rfl) rfl (fun _ _ _ h => h) (fun w' hw' => by go_simp) S2 ?_
    simp only [Act.put, List.setIfInBounds_toArray, List.set_cons_zero, List.set_cons_succ]
    refine early_take (i := 8) 15 (.bool true) rfl rfl (by kernel_rfl) (by kernel_rfl) (by kernel_rfl) (by kernel_rfl) rfl (fun _ _ _ h => h) (fun w' hw' => by go_simp) S2 ?_
    simp only [Act.put, List.setIfInBounds_toArray, List.set_cons_zero, List.set_cons_succ]
    refine early_pass (i := 9) 16 rfl rfl (by kernel_rfl) (by kernel_rfl) (by kernel_rfl) (by kernel_rfl) rfl (fun _ _ _ h => h) S2 ?_
    simp only [Act.put, List.setIfInBounds_toArray, List.set_cons_zero, List.set_cons_succ]
    refine early_pass (i := 10) 17 rfl rfl (by kernel_rfl) (by kernel_rfl) (by kernel_rfl) (by kernel_rfl) rfl (fun _ _ _ h => h) S2 ?_
    simp only [Act.put, List.setIfInBounds_toArray, List.set_cons_zero, List.set_cons_succ]
    refine early_lone (i := 11) 18 rfl rfl (by kernel_rfl) rfl S2 ?_
    simp only [Act.put, List.setIfInBounds_toArray, List.set_cons_zero, List.set_cons_succ]
    refine early_lone (i := 12) 19 rfl rfl (by kernel_rfl) rfl S2 ?_
    simp only [Act.put, List.setIfInBounds_toArray, List.set_cons_zero, List.set_cons_succ]
    refine early_lone (i := 13) 20 rfl rfl (by kernel_rfl) rfl S2 ?_
    simp only [Act.put, List.setIfInBounds_toArray, List.set_cons_zero, List.set_cons_succ]
    refine early_take (i := 14) 21 (.bool true) rfl rfl (by kernel_rfl) (by kernel_rfl) (by kernel_rfl) (by kernel_rfl) rfl (fun _ _ _ h => h) (fun w' hw' => by go_simp) S2 ?_
    simp only [Act.put, List.setIfInBounds_toArray, List.set_cons_zero, List.set_cons_succ]
    refine early_done (by kernel_rfl) ?_
    clear S0 S2
    go_wp2
    go_ret
    exact ⟨rfl, C2.out⟩
end

/-- A device that is no Blanker. -/
abbrev plv (g : Nat) : Value := .iface 68 (.agg #[.pointer (some ⟨g, 0, none⟩)])
theorem plv_nil (x : Value) (w : World) : (binOp .eql 96 (.iface 68 x) .nilIface).run Try.prog w = .ok (.bool false) w := by rfl
theorem nobody_pl (g : Nat) (w : World) : Calls Try.prog 73 #[plv g] w fun e w' => e = .returned (.bool false) ∧ w' = w := by
  have h := plv_nil
  go_enter Try.func73, Try.ntmps73
  go_wp2
  go_ret
  exact ⟨rfl, rfl⟩
/-- A row of disks, as devices. -/
def Dvp (w : World) (r M : Nat) (g : Nat → Nat) : Prop := r < w.heap.size ∧ ∀ i, i < M → w.cell? ⟨r, i, none⟩ = some (plv (g i))
theorem Dvp.below {w w' : World} {r M : Nat} {g : Nat → Nat} (h : Dvp w r M g) (hb : Below w.heap.size w w') : Dvp w' r M g :=
  ⟨Nat.lt_of_lt_of_le h.1 hb.size, fun i hi => (hb.cell (p := ⟨r, i, none⟩) h.1).trans (h.2 i hi)⟩
theorem enters73p (g : Nat) (w : World) : (callFunc 73 #[plv g]).run Try.prog w = .ok (.enter 73 #[plv g]) w := by kernel_rfl

theorem search_pl (r M c : Nat) (g : Nat → Nat) (hM : 3 ≤ M ∧ M ≤ 5) (w : World) (h : Dvp w r M g) : Calls Try.prog 89 #[.slice (some ⟨r, 0, none⟩) M c, .func (.func 73) #[] #[]] w fun e w' => e = .returned (.int .i64 (-1)) ∧ w' = w := by
  have hcf := enters73p
  have H := Lib.hid h
  clear h
  go_enter Try.func89, Try.ntmps89
  go_wp2_with fail
  go_loopw [8] (fun i wr => ∃ j : Nat, j ≤ M ∧ i = .int .i64 (j : Int) ∧ wr = w) (fun i _ => M - (RowKit.intOf i).toNat)
  case atStart => exact ⟨0, Nat.zero_le _, rfl, rfl⟩
  case round =>
    obtain ⟨j, hj, rfl, rfl⟩ := hrel
    by_cases hlt : j < M
    · have hc := H.out.2 j hlt
      go_wp2_with fail
      refine (nobody_pl (g j) wr).mono ?_
      rintro e wr ⟨rfl, rfl⟩
      go_wp2
      go_roundw
      case rel => exact ⟨j + 1, by omega, by go_num, trivial⟩
      case measure => simp [RowKit.intOf]; omega
    · obtain rfl : j = M := by omega
      go_wp2
      go_ret
      exact ⟨rfl, rfl⟩
theorem contains_pl (r M c : Nat) (g : Nat → Nat) (hM : 3 ≤ M ∧ M ≤ 5) (w : World) (h : Dvp w r M g) : Calls Try.prog 72 #[.slice (some ⟨r, 0, none⟩) M c, .func (.func 73) #[] #[]] w fun e w' => e = .returned (.bool false) ∧ w' = w := by
  go_enter Try.func72, Try.ntmps72
  go_wp2_with fail
  refine (search_pl r M c g hM w h).mono ?_
  rintro e w' ⟨rfl, rfl⟩
  go_wp2
  go_ret
  exact ⟨rfl, rfl⟩
theorem plv_one (g : Nat → Nat) (M : Nat) : ∀ u ∈ (List.range M).map (fun i => plv (g i)), u.oneCell' = true := by
  intro u hu
  obtain ⟨x, _, rfl⟩ := List.mem_map.mp hu
  rfl
theorem devs_pl (r M c : Nat) (g : Nat → Nat) (hM : 3 ≤ M ∧ M ≤ 5) (w : World) (h : Dvp w r M g) : Calls Try.prog 74 #[.slice (some ⟨r, 0, none⟩) M c] w fun e w' => ∃ q cap, e = .returned (.slice (some ⟨q, 0, none⟩) M cap) ∧ Dvp w' q M g ∧ w.heap.size ≤ q ∧ Below w.heap.size w w' := by
  have hnil := fun (w : World) (a : Option Addr) (n c : Nat) => Lib.run_eql_slice_nil (P := Try.prog) w 66 96 a n c 0 0 Try.underlying66
  obtain ⟨i0, hi, hz0, hz1, hz2⟩ := info_parts dev_info
  have hcells : ∀ j u, ((List.range M).map (fun i => plv (g i)))[j]? = some u → (w.alloc (.cells #[] 96)).cell? ((⟨r, 0, none⟩ : Addr).add j) = some u := by
    intro j u hu
    have hj : j < M := by have := (List.getElem?_eq_some_iff.1 hu).1; simpa using this
    have e1 : (⟨r, 0, none⟩ : Addr).add j = ⟨r, j, none⟩ := by
      unfold Addr.add
      by_cases h : j = 0 <;> simp [h]
    rw [e1]
    have h2 := (h.below (w' := w.alloc (.cells #[] 96)) ((Below.refl _ _).alloc (Nat.le_refl _) _)).2 j hj
    rw [h2]
    simpa [hj] using hu
  have HC := Lib.hid hcells
  have HD := Lib.hid h
  clear h hcells
  go_enter Try.func74, Try.ntmps74
  go_wp2_with (at_builtin; refine wpList_append_own _ rfl (.tmp 5) (.tmp 6) 66 rfl w.heap.size 96 i0 .nilIface 1 16 Try.underlying66 hi hz0 hz1 hz2 rfl (by decide) (.slice (some ⟨w.heap.size, 0, none⟩) 0 0) 0 [] rfl (World.ownsRow_made w #[] 0 (Nat.le_refl _) (by unfold maxLen; omega) rfl) ⟨r, 0, none⟩ M c ((List.range M).map (fun i => plv (g i))) rfl (by simp) HC.out (plv_one g M) (by unfold maxLen; omega) (by omega) (by simp) ?_; intro v' w1 hown hg hx; have O1 := Lib.hid hown; have B1 := Lib.hid (show Below w.heap.size w w1 from ((Below.refl w.heap.size w).alloc (Nat.le_refl _) _).grown hg (by simp) (fun k hk => by simp [Value.ownBlock] at hk; omega)); clear hown hg hx)
  go_ret
  have hown := O1.out
  rcases hown.2 with ⟨e, hn⟩ | ⟨q, cap, cur, e, hq, hh, hnc, hcm, hcs, htk⟩
  · simp at hn; omega
  · subst e
    refine ⟨q, cap, by simp, ⟨?_, fun i hi => ?_⟩, hq, B1.out⟩
    · exact (hown.lt q rfl).2
    · have := hown.cellAt (g := q) (cap := cap) i (by simp; omega)
      rw [this]
      simp [hi]

set_option maxHeartbeats 1600000 in
theorem new_pl (r c n p M : Nat) (b g s nv l st : Int) (gs : Nat → Nat) (hs : Small (M : Int) b g s nv l) (w : World) (h : Dvp w r M gs) (hn : Nv w n p ⟨(M : Int), b, g, s, nv, l, 0, 0, st⟩) :
    Calls Try.prog 40 #[.slice (some ⟨r, 0, none⟩) M c, .pointer (some ⟨n, 0, none⟩)] w fun e w' => ∃ a q cap, e = .returned (.tuple #[.pointer (some ⟨a, 0, none⟩), .int .i64 0]) ∧
      At w' a #[.int .i64 (M : Int), .int .i64 b, .int .i64 g, .int .i64 s, .int .i64 nv, .int .i64 l, .slice (some ⟨q, 0, none⟩) M cap, .pointer (some ⟨n, 0, none⟩), .bool false] 91 ∧ Dvp w' q M gs ∧ w.heap.size ≤ a ∧ w.heap.size ≤ q ∧ ¬ a = q ∧ Below w.heap.size w w' := by
  have hf := field_shape
  have HD := Lib.hid h
  have HN := Lib.hid hn
  have HS := Lib.hid hs
  have hM := hs.hm
  clear h hn hs
  go_enter Try.func40, Try.ntmps40
  go_wp2_with fail
  refine (root_any HN.out).mono ?_
  rintro e w1 ⟨rfl, hb⟩
  unfold Rt.cs
  have D1 := Lib.hid (HD.out.below hb)
  have B1 := Lib.hid hb
  clear hb
  go_wp2_with fail
  have at2 : At (w1.alloc (.cells #[.int .i64 (M : Int), .int .i64 b, .int .i64 g, .int .i64 s, .int .i64 nv, .int .i64 l] 30)) w1.heap.size #[.int .i64 (M : Int), .int .i64 b, .int .i64 g, .int .i64 s, .int .i64 nv, .int .i64 l] 30 := At.new _ 30 rfl
  have bel : Below w1.heap.size w1 (w1.alloc (.cells #[.int .i64 (M : Int), .int .i64 b, .int .i64 g, .int .i64 s, .int .i64 nv, .int .i64 l] 30)) := (Below.refl _ _).alloc (Nat.le_refl _) _
  have B2 := Lib.hid (B1.out.trans (bel.mono B1.out.size))
  have D2 := Lib.hid (D1.out.below bel)
  have Z1 := Lib.hid B1.out.size
  generalize w1.alloc (.cells #[.int .i64 (M : Int), .int .i64 b, .int .i64 g, .int .i64 s, .int .i64 nv, .int .i64 l] 30) = V at *
  generalize w1.heap.size = bx at *
  have A2 := Lib.hid at2
  clear at2 bel
  refine (check_ok (M : Int) b g s nv l HS.out.ok V).mono ?_
  rintro e w3 ⟨rfl, hb⟩
  have A3 := Lib.hid (A2.out.below hb A2.out.lt)
  have D3 := Lib.hid (D2.out.below hb)
  have B3 := Lib.hid (B2.out.trans (hb.mono B2.out.size))
  clear hb
  have k0 := A3.out.cell 0
  go_wp2_with fail
  refine (contains_pl r M c gs (by omega) w3 D3.out).mono ?_
  rintro e w3 ⟨rfl, rfl⟩
  clear k0
  go_wp2_with fail
  have S0 : (fun w' : World => At w' bx #[.int .i64 (M : Int), .int .i64 b, .int .i64 g, .int .i64 s, .int .i64 nv, .int .i64 l] 30 ∧ Dvp w' r M gs) w3.drew := ⟨A3.out, ⟨D3.out.1, D3.out.2⟩⟩
  refine wp_region_early (fun w' : World => At w' bx #[.int .i64 (M : Int), .int .i64 b, .int .i64 g, .int .i64 s, .int .i64 nv, .int .i64 l] 30 ∧ Dvp w' r M gs) (fun _ => true) (by kernel_rfl) ?_
  change wpEarly _ _ _ _ _ _ 8 (Array.replicate 8 false) _ w3.drew
  refine early_take (i := 0) 24 (sv (M : Int) b g s nv l) rfl rfl (by kernel_rfl) (by kernel_rfl) (by kernel_rfl) (by kernel_rfl) rfl (fun _ _ _ h => h) (fun w' hw' => exec_load_whole (x := .tmp 6) rfl rfl hw'.1 Try.underlying30 shape_size) S0 ?_
  simp only [Act.put, List.setIfInBounds_toArray, List.set_cons_zero, List.set_cons_succ]
  refine early_take (i := 1) 25 (.slice (some ⟨r, 0, none⟩) M c) rfl rfl (by kernel_rfl) (by kernel_rfl) (by kernel_rfl) (by kernel_rfl) rfl (fun _ _ _ h => h) (fun w' hw' => by go_simp) S0 ?_
  simp only [Act.put, List.setIfInBounds_toArray, List.set_cons_zero, List.set_cons_succ]
  refine early_take (i := 3) 27 (.pointer (some ⟨n, 0, none⟩)) rfl rfl (by kernel_rfl) (by kernel_rfl) (by kernel_rfl) (by kernel_rfl) rfl (fun _ _ _ h => h) (fun w' hw' => by go_simp) S0 ?_
  simp only [Act.put, List.setIfInBounds_toArray, List.set_cons_zero, List.set_cons_succ]
  refine early_only (i := 2) (by kernel_rfl) rfl (fun K hK => ?_)
  simp only [opWp, List.getElem?_toArray, List.getElem?_cons_succ, List.getElem?_cons_zero]
  go_simp
  go_at_call 74
  refine (devs_pl r M c gs (by omega) _ S0.2).mono ?_
  rintro e w4 ⟨q, cap, rfl, hq, hlo, hb⟩
  have S1 : (fun w' : World => At w' bx #[.int .i64 (M : Int), .int .i64 b, .int .i64 g, .int .i64 s, .int .i64 nv, .int .i64 l] 30 ∧ Dvp w' r M gs) w4 := ⟨S0.1.below hb S0.1.lt, S0.2.below hb⟩
  have D4 := Lib.hid hq
  have B4 := Lib.hid (show Below w.heap.size w w4 from B3.out.trans (show Below w.heap.size w3 w4 from ⟨hb.os, hb.tape, hb.output, hb.size, fun k hk => hb.block k (Nat.lt_of_lt_of_le hk B3.out.size)⟩))
  have Q4 := Lib.hid (Nat.le_trans B3.out.size hlo)
  clear hq hlo hb
  refine hK _ _ (fun _ => S1) ?_
  refine early_take (i := 4) 28 (.agg #[.int .i64 (M : Int), .int .i64 b, .int .i64 g, .int .i64 s, .int .i64 nv, .int .i64 l, .slice (some ⟨q, 0, none⟩) M cap, .pointer (some ⟨n, 0, none⟩), .bool false]) rfl rfl (by kernel_rfl) (by kernel_rfl) (by kernel_rfl) (by kernel_rfl) rfl (fun _ _ _ h => h) (fun w' hw' => by go_simp) S1 ?_
  simp only [Act.put, List.setIfInBounds_toArray, List.set_cons_zero, List.set_cons_succ]
  refine early_only (i := 5) (by kernel_rfl) rfl (fun K hK => ?_)
  simp only [opWp, List.getElem?_toArray, List.getElem?_cons_succ, List.getElem?_cons_zero]
  go_simp
  have bel : Below w4.heap.size w4 (w4.alloc (.cells #[.int .i64 (M : Int), .int .i64 b, .int .i64 g, .int .i64 s, .int .i64 nv, .int .i64 l, .slice (some ⟨q, 0, none⟩) M cap, .pointer (some ⟨n, 0, none⟩), .bool false] 91)) := (Below.refl _ _).alloc (Nat.le_refl _) _
  have S2 : (fun w' : World => At w' bx #[.int .i64 (M : Int), .int .i64 b, .int .i64 g, .int .i64 s, .int .i64 nv, .int .i64 l] 30 ∧ Dvp w' r M gs) (w4.alloc (.cells #[.int .i64 (M : Int), .int .i64 b, .int .i64 g, .int .i64 s, .int .i64 nv, .int .i64 l, .slice (some ⟨q, 0, none⟩) M cap, .pointer (some ⟨n, 0, none⟩), .bool false] 91)) := ⟨S1.1.below bel S1.1.lt, S1.2.below bel⟩
  have A5 := Lib.hid (show At (w4.alloc (.cells #[.int .i64 (M : Int), .int .i64 b, .int .i64 g, .int .i64 s, .int .i64 nv, .int .i64 l, .slice (some ⟨q, 0, none⟩) M cap, .pointer (some ⟨n, 0, none⟩), .bool false] 91)) w4.heap.size #[.int .i64 (M : Int), .int .i64 b, .int .i64 g, .int .i64 s, .int .i64 nv, .int .i64 l, .slice (some ⟨q, 0, none⟩) M cap, .pointer (some ⟨n, 0, none⟩), .bool false] 91 from At.new _ 91 rfl)
  have D5 := Lib.hid (D4.out.below bel)
  have B5 := Lib.hid (B4.out.trans (bel.mono B4.out.size))
  have Z4 := Lib.hid B4.out.size
  have Z5 := Lib.hid D4.out.1
  clear bel
  refine hK _ _ (fun _ => S2) ?_
  refine early_take (i := 6) 4 (.pointer (some ⟨w4.heap.size, 0, none⟩)) rfl rfl (by kernel_rfl) (by kernel_rfl) (by kernel_rfl) (by kernel_rfl) rfl (fun _ _ _ h => h) (fun w' hw' => by go_simp) S2 ?_
  simp only [Act.put, List.setIfInBounds_toArray, List.set_cons_zero, List.set_cons_succ]
  refine early_take (i := 7) 5 (.int .i64 0) rfl rfl (by kernel_rfl) (by kernel_rfl) (by kernel_rfl) (by kernel_rfl) rfl (fun _ _ _ h => h) (fun w' hw' => by go_simp) S2 ?_
  simp only [Act.put, List.setIfInBounds_toArray, List.set_cons_zero, List.set_cons_succ]
  refine early_done (by kernel_rfl) ?_
  clear S0 S1 S2
  go_wp2
  go_ret2
  exact ⟨_, rfl, q, ⟨cap, A5.out⟩, D5.out, Z4.out, Q4.out, fun e => by have := Z5.out; omega, B5.out⟩

theorem part_some (p : String → Bool) (f : String → String) (s : String) : ∃ m, (Go.Instr.least ([s].partition p).2 <|> Go.Instr.least (([s].partition p).1.map f)) = some m := by
  rw [List.partition_eq_filter_filter]
  cases hp : p s
  · exact ⟨s, by simp [hp, Go.Instr.least]⟩
  · exact ⟨f s, by simp [hp, Go.Instr.least]⟩
theorem missing_some (got : Array Method) (h : got.any (fun m => m.name == "Blank" && m.sig == 1) = false) : ∃ m, Go.Instr.missingMethod #[("Blank", 1)] got = some m := by
  have e : ((#[("Blank", 1)] : Array (String × TypeId)).toList.filter fun (x : String × TypeId) => !got.any fun m => m.name == x.1 && m.sig == x.2).map (·.1) = ["Blank"] := by
    simp [h]
  unfold Go.Instr.missingMethod
  simp only [e]
  exact part_some _ _ _
theorem plv_has : (Try.prog.info? 68).map (fun i => i.methods.any (fun m => m.name == "Blank" && m.sig == 1)) = some false := by kernel_rfl
theorem bl_zero : (Try.prog.info? 99).map (fun i => i.zero) = some (some .nilIface) := by kernel_rfl
theorem plv_assert (g : Nat) (w : World) : (Instr.typeAssert (plv g) 96 99 true).run Try.prog w = .ok (.tuple #[.nilIface, .bool false]) w := by
  obtain ⟨i, hi, h1⟩ := Option.map_eq_some_iff.1 plv_has
  obtain ⟨j, hj, h2⟩ := Option.map_eq_some_iff.1 bl_zero
  obtain ⟨m, hm⟩ := missing_some i.methods h1
  simp [Instr.typeAssert, run_underlying Try.underlying99, typeInfo, hi, hm, zeroValue, hj, h2]
set_option maxHeartbeats 1600000 in
/-- As many devices as the shape does not have. -/
theorem new_few (A : Option Addr) (k c n p M : Nat) (b g s nv l st : Int) (hk : k ≠ M) (hk2 : k ≤ 1000) (hs : Small (M : Int) b g s nv l) (w : World) (hn : Nv w n p ⟨(M : Int), b, g, s, nv, l, 0, 0, st⟩) :
    Calls Try.prog 40 #[.slice A k c, .pointer (some ⟨n, 0, none⟩)] w fun e w' => e = .returned (.tuple #[.pointer none, .int .i64 1]) ∧ Below w.heap.size w w' := by
  have hf := field_shape
  have HN := Lib.hid hn
  have HS := Lib.hid hs
  have hM := hs.hm
  clear hn hs
  go_enter Try.func40, Try.ntmps40
  go_wp2_with fail
  refine (root_any HN.out).mono ?_
  rintro e w1 ⟨rfl, hb⟩
  unfold Rt.cs
  have B1 := Lib.hid hb
  clear hb
  go_wp2_with fail
  have at2 : At (w1.alloc (.cells #[.int .i64 (M : Int), .int .i64 b, .int .i64 g, .int .i64 s, .int .i64 nv, .int .i64 l] 30)) w1.heap.size #[.int .i64 (M : Int), .int .i64 b, .int .i64 g, .int .i64 s, .int .i64 nv, .int .i64 l] 30 := At.new _ 30 rfl
  have bel : Below w1.heap.size w1 (w1.alloc (.cells #[.int .i64 (M : Int), .int .i64 b, .int .i64 g, .int .i64 s, .int .i64 nv, .int .i64 l] 30)) := (Below.refl _ _).alloc (Nat.le_refl _) _
  have B2 := Lib.hid (B1.out.trans (bel.mono B1.out.size))
  generalize w1.alloc (.cells #[.int .i64 (M : Int), .int .i64 b, .int .i64 g, .int .i64 s, .int .i64 nv, .int .i64 l] 30) = V at *
  generalize w1.heap.size = bx at *
  have A2 := Lib.hid at2
  clear at2 bel
  refine (check_ok (M : Int) b g s nv l HS.out.ok V).mono ?_
  rintro e w3 ⟨rfl, hb⟩
  have A3 := Lib.hid (A2.out.below hb A2.out.lt)
  have B3 := Lib.hid (B2.out.trans (hb.mono B2.out.size))
  clear hb
  have k0 := A3.out.cell 0
  have hne : ((k : Int) != (M : Int)) = true := by simp; omega
  go_wp2
  go_ret2
  exact ⟨rfl, B3.out⟩

set_option maxHeartbeats 1600000 in
/-- A member that is no Blanker. -/
theorem Replace_pl (a q cap n p M : Nat) (b g s nv l : Int) (gs : Nat → Nat) (hM : 3 ≤ M ∧ M ≤ 5) (w : World) (ha : At w a #[.int .i64 (M : Int), .int .i64 b, .int .i64 g, .int .i64 s, .int .i64 nv, .int .i64 l, .slice (some ⟨q, 0, none⟩) M cap, .pointer (some ⟨n, 0, none⟩), .bool false] 91) (hd : Dvp w q M gs)
    (hn : Nv w n p ⟨(M : Int), b, g, s, nv, l, 0, 0, 1⟩) : Calls Try.prog 25 #[ptr a, .int .i64 1] w fun e w' => e = .returned (.int .i64 1) ∧ Below w.heap.size w w' := by
  have HN := Lib.hid hn
  have HD := Lib.hid hd
  have HA := Lib.hid ha
  have c6 := ha.cell 6
  have c8 := ha.cell 8
  clear hn hd ha
  go_enter Try.func25, Try.ntmps25
  go_wp2_with fail
  refine (inside_any 1 (M : Int) w).mono ?_
  rintro e w1 ⟨rfl, hw1⟩
  rw [hw1, decide_eq_true (show (0 : Int) ≤ 1 ∧ (1 : Int) < (M : Int) by omega)]
  clear hw1 c6 c8
  have c7 := HA.out.cell 7
  have hf := field_stale
  go_wp2_with fail
  refine (show Calls Try.prog 18 #[.pointer (some ⟨a, 0, none⟩)] w fun e w' => e = .returned (.int .i64 1) ∧ Below w.heap.size w w' from by
    have N := HN
    clear HN HD HA
    go_enter Try.func18, Try.ntmps18
    go_wp2_with fail
    refine (root_any N.out).mono ?_
    rintro e w' ⟨rfl, hb⟩
    unfold Rt.cs
    go_wp2
    go_ret
    exact ⟨rfl, hb⟩).mono ?_
  rintro e w2 ⟨rfl, hb⟩
  have c6 := (HA.out.below hb HA.out.lt).cell 6
  have d1 := (HD.out.below hb).2 1 (by omega)
  have B2 := Lib.hid hb
  have hta := plv_assert (gs 1)
  clear hb c7
  go_wp2
  go_ret
  exact ⟨rfl, B2.out⟩


/-- ErrArg, or not. -/
def no (b : Bool) : Int := if b then 0 else 1
/-- Mend of an array whose members are all current: ErrState, or ErrArg. -/
def no10 (b : Bool) : Int := if b then 10 else 1
/-- Behind a call: the array stands, its members are all current; at most c operations. -/
def Went (c : Int) (w : World) (P : Pl) (O : Nat → Prop) (s : AS) (w' : World) : Prop := ∃ O' s', Arr w' P O' s' ∧ (∀ k, O' k → O k ∨ w.heap.size ≤ k) ∧ But O w w' ∧ Same s s' ∧ Calm s' ∧ s'.u ≤ s.u + c
section
variable {w w' : World} {P : Pl} {O : Nat → Prop} {s : AS}
theorem lose_first (k : Nat) (h : s.stale = -1) : s.lose k = { s with stale := (k : Int), u := s.u + 1 } ∧ s.loss k = 0 := by
  unfold AS.lose AS.loss
  rw [if_neg (by omega), if_pos h, if_neg (by omega), if_pos h]
  exact ⟨rfl, rfl⟩
theorem Went.still {c : Int} (h : Arr w P O s) (hc : Calm s) (hb : Below w.heap.size w w') (h0 : 0 ≤ c) : Went c w P O s w' := ⟨O, s, h.up hb, fun _ h => .inl h, But.of_below hb, Same.refl s, hc, by omega⟩
theorem Calm.gone {c : Int} {s' : AS} (h : Calm s) (k : Gone c s s') : False := k.unsound 0 (h 0)
theorem chunk_went (t k : Int) (h : Arr w P O s) (hc : Calm s) (hu : s.u ≤ 700000) :
    Calls Try.prog 21 #[ptr P.a, .int .i64 t, .int .i64 k] w fun e w' => ∃ v, e = .returned (.tuple #[v, .int .i64 (no (decide (0 ≤ t ∧ t < s.N) && decide (0 ≤ k ∧ k < (s.M : Int) - 1)))]) ∧ Went 12 w P O s w' := by
  by_cases ht : 0 ≤ t ∧ t < s.N
  · by_cases hk : 0 ≤ k ∧ k < (s.M : Int) - 1
    · have hM := h.many
      rw [decide_eq_true ht, decide_eq_true hk]
      refine (Chunk_any t k ((t + 1 + k) % (s.M : Int)).toNat ht hk (by have := Int.emod_nonneg (t + 1 + k) (show (s.M : Int) ≠ 0 by omega); omega) h hu).mono ?_
      rintro e w' ⟨v, er, s', rfl, ha, hb, hx⟩
      cases hx with
      | got _ hr _ _ _ _ => exact ⟨v, rfl, O, s', ha, fun _ h => .inl h, hb, hr.same, hc.rel hr, hr.u.2⟩
      | rest _ hr _ _ => exact ⟨v, rfl, O, s', ha, fun _ h => .inl h, hb, hr.same, hc.rel hr, hr.u.2⟩
      | gone hg => exact (hc.gone hg).elim
    · rw [decide_eq_true ht, decide_eq_false hk]
      refine (Chunk_arg t k (fun e => hk ⟨e.2.2.1, e.2.2.2⟩) h).mono ?_
      rintro e w' ⟨rfl, hb⟩
      exact ⟨_, rfl, Went.still h hc hb (by omega)⟩
  · rw [decide_eq_false ht, Bool.false_and]
    refine (Chunk_arg t k (fun e => ht ⟨e.1, e.2.1⟩) h).mono ?_
    rintro e w' ⟨rfl, hb⟩
    exact ⟨_, rfl, Went.still h hc hb (by omega)⟩
theorem put_went (t : Int) (A : Option Addr) (KC c : Nat) (L : List Sl) (mz : Bool) (hKC : KC ≤ 100) (hL : Ln w A KC L) (hO : ∀ x ∈ L, ∀ a, x.A = some a → ¬ O a.block) (hm : ((KC : Int) = (s.M : Int) - 1 ∧ Fits L s.b) ↔ mz = true) (h : Arr w P O s) (hc : Calm s) (hu : s.u ≤ 700000) :
    Calls Try.prog 37 #[ptr P.a, .int .i64 t, .slice A KC c] w fun e w' => e = .returned (.int .i64 (no (decide (0 ≤ t ∧ t < s.N) && mz))) ∧ Went 20 w P O s w' := by
  by_cases ht : 0 ≤ t ∧ t < s.N
  · rw [decide_eq_true ht, Bool.true_and]
    cases mz with
    | true =>
      obtain ⟨hk, hf⟩ := hm.2 rfl
      refine (Put_any t ht A KC c L hk hL hf hO h hu).mono ?_
      rintro e w' ⟨er, s', rfl, ⟨O', h1, h2, h3⟩, hx⟩
      cases hx with
      | done hr _ => exact ⟨rfl, O', s', h1, h2, h3, hr.same, hc.rel hr, hr.u.2⟩
      | gone hg => exact (hc.gone hg).elim
    | false =>
      refine (Put_arg t A KC c L hKC hL (fun e => by have := hm.1 ⟨e.1, e.2.1⟩; cases this) h).mono ?_
      rintro e w' ⟨rfl, hb⟩
      exact ⟨rfl, Went.still h hc hb (by omega)⟩
  · rw [decide_eq_false ht, Bool.false_and]
    refine (Put_arg t A KC c L hKC hL (fun e => ht e.2.2) h).mono ?_
    rintro e w' ⟨rfl, hb⟩
    exact ⟨rfl, Went.still h hc hb (by omega)⟩
theorem Calm.can (hc : Calm s) : s.can = 10 := by
  unfold AS.can
  rw [hc.whole, hc.stale]
  rfl
theorem mend_went (t : Int) (h : Arr w P O s) (hc : Calm s) : Calls Try.prog 24 #[ptr P.a, .int .i64 t] w fun e w' => e = .returned (.int .i64 (no10 (decide (0 ≤ t ∧ t < s.N)))) ∧ Went 0 w P O s w' := by
  by_cases ht : 0 ≤ t ∧ t < s.N
  · rw [decide_eq_true ht]
    refine (Mend_not t ht h (by rw [hc.can]; decide)).mono ?_
    rintro e w' ⟨rfl, hb⟩
    exact ⟨by rw [hc.can]; rfl, Went.still h hc hb (by omega)⟩
  · rw [decide_eq_false ht]
    refine (Mend_arg t ht h).mono ?_
    rintro e w' ⟨rfl, hb⟩
    exact ⟨rfl, Went.still h hc hb (by omega)⟩
theorem same_went (i : Int) (h : Arr w P O s) (hc : Calm s) (hu : s.u ≤ 700000) :
    Calls Try.prog 22 #[ptr P.a, .int .i64 i] w fun e w' => ∃ v, e = .returned (.tuple #[v, .int .i64 (no (decide (0 ≤ i ∧ i < (s.S : Int))))]) ∧ Went 4 w P O s w' := by
  by_cases hi : 0 ≤ i ∧ i < (s.S : Int)
  · rw [decide_eq_true hi]
    refine (Same_any i hi h hu).mono ?_
    rintro e w' ⟨v, er, s', rfl, ha, hb, hx⟩
    cases hx with
    | got _ m _ hr _ _ => exact ⟨v, rfl, O, s', ha, fun _ h => .inl h, hb, hr.same, hc.rel hr, hr.u.2⟩
    | gone hg => exact (hc.gone hg).elim
  · rw [decide_eq_false hi]
    refine (Same_arg i hi h).mono ?_
    rintro e w' ⟨rfl, hb⟩
    exact ⟨_, rfl, Went.still h hc hb (by omega)⟩
theorem putSame_went (i : Int) (A : Option Addr) (n c : Nat) (b : Bytes) (h1000 : n ≤ 1000) (hn : (n : Int) = s.b) (hb : Has w A n b) (hA : ∀ x, A = some x → ¬ O x.block) (h : Arr w P O s) (hc : Calm s) (hu : s.u ≤ 700000) :
    Calls Try.prog 27 #[ptr P.a, .int .i64 i, .slice A n c] w fun e w' => e = .returned (.int .i64 (no (decide (0 ≤ i ∧ i < (s.S : Int))))) ∧ Went 10 w P O s w' := by
  by_cases hi : 0 ≤ i ∧ i < (s.S : Int)
  · rw [decide_eq_true hi]
    refine (PutSame_any i hi A n c b hn hb hA h (by omega)).mono ?_
    rintro e w' ⟨er, s', rfl, ⟨O', h1, h2, h3⟩, hx⟩
    cases hx with
    | done hr _ => exact ⟨rfl, O', s', h1, h2, h3, hr.same, hc.rel hr, hr.u.2⟩
    | gone hg => exact (hc.gone hg).elim
  · rw [decide_eq_false hi]
    refine (PutSame_arg i A n c b h1000 (fun e => hi e.1) hb hA h).mono ?_
    rintro e w' ⟨rfl, hbl⟩
    exact ⟨rfl, Went.still h hc (hbl.below (fun k h => h.elim) (Nat.le_refl _)) (by omega)⟩
theorem lose_went (m : Int) (h : Arr w P O s) (hc : Calm s) (hu : s.u ≤ 700000) :
    Calls Try.prog 26 #[ptr P.a, .int .i64 m] w fun e w' => e = .returned (.int .i64 (no (decide (0 ≤ m ∧ m < (s.M : Int))))) ∧ ∃ s', Arr w' P O s' ∧ But O w w' ∧ Same s s' ∧ s'.u ≤ s.u + 1 := by
  by_cases hm : 0 ≤ m ∧ m < (s.M : Int)
  · rw [decide_eq_true hm]
    obtain ⟨j, rfl⟩ : ∃ j : Nat, m = (j : Int) := ⟨m.toNat, by omega⟩
    refine (Lose_any j (by omega) h (by omega)).mono ?_
    rintro e w' hx
    obtain ⟨e1, e2⟩ := lose_first j hc.stale
    rw [e1, e2] at hx
    rcases hx with ⟨e3, _⟩ | ⟨_, rfl, e4, e5⟩
    · rw [hc.whole] at e3; cases e3
    · exact ⟨rfl, _, e4, e5, rfl, Int.le_refl _⟩
  · rw [decide_eq_false hm]
    refine (Lose_arg m hm h).mono ?_
    rintro e w' ⟨rfl, rfl⟩
    exact ⟨rfl, s, h, But.refl _ _, Same.refl s, by omega⟩
end
section
variable {B : Nat} {w0 w w' : World} {R q cap : Nat} {P : Pl} {O : Nat → Prop} {s : AS}
theorem Sys.went {c : Int} (h : Sys B w0 w R q cap P O s) (k : Went c w P O s w') : ∃ O' s', Sys B w0 w' R q cap P O' s' ∧ (∀ k, O' k → O k ∨ w.heap.size ≤ k) ∧ But O w w' ∧ Same s s' ∧ Calm s' ∧ s'.u ≤ s.u + c := by
  obtain ⟨O', s', k1, k2, k3, k4, k5, k6⟩ := k
  obtain ⟨O2, j1, j2, j3⟩ := h.did k4 ⟨O', k1, k2, k3⟩
  exact ⟨O2, s', j1, j2, j3, k4, k5, k6⟩
/-- Chunks that lie apart from the array. -/
structure Cz (w : World) (A : Option Addr) (n : Nat) (L : List Sl) (O : Nat → Prop) : Prop where
  ln : Ln w A n L
  row : ∀ x, A = some x → ¬ O x.block ∧ x.block < w.heap.size
  each : ∀ x ∈ L, ∀ a, x.A = some a → ¬ O a.block ∧ a.block < w.heap.size
theorem Ln.but {S : Nat → Prop} {A : Option Addr} {n : Nat} {L : List Sl} (h : Ln w A n L) (hb : But S w w') (hr : ∀ x, A = some x → ¬ S x.block) (he : ∀ x ∈ L, ∀ a, x.A = some a → ¬ S a.block) : Ln w' A n L :=
  ⟨⟨h.row.1, fun h0 => by
    obtain ⟨b, off, e, hlt, hc⟩ := h.row.2 h0
    exact ⟨b, off, e, Nat.lt_of_lt_of_le hlt hb.size, fun k hk => (hb.cell (p := ⟨b, off + k, none⟩) hlt (hr ⟨b, off, none⟩ e)).trans (hc k hk)⟩⟩, fun x hx => (h.has x hx).but hb (he x hx), h.cap, h.few⟩
theorem Cz.went {O' : Nat → Prop} {A : Option Addr} {n : Nat} {L : List Sl} (h : Cz w A n L O) (hb : But O w w') (ho : ∀ k, O' k → O k ∨ w.heap.size ≤ k) : Cz w' A n L O' :=
  ⟨h.ln.but hb (fun x hx => (h.row x hx).1) (fun x hx a ha => (h.each x hx a ha).1), fun x hx => ⟨fun e => (ho _ e).elim (h.row x hx).1 (fun e => by have := (h.row x hx).2; omega), Nat.lt_of_lt_of_le (h.row x hx).2 hb.size⟩,
    fun x hx a ha => ⟨fun e => (ho _ e).elim (h.each x hx a ha).1 (fun e => by have := (h.each x hx a ha).2; omega), Nat.lt_of_lt_of_le (h.each x hx a ha).2 hb.size⟩⟩
theorem Cz.up {A : Option Addr} {n : Nat} {L : List Sl} (h : Cz w A n L O) (hb : Below w.heap.size w w') : Cz w' A n L O :=
  ⟨h.ln.below hb, fun x hx => ⟨(h.row x hx).1, Nat.lt_of_lt_of_le (h.row x hx).2 hb.size⟩, fun x hx a ha => ⟨(h.each x hx a ha).1, Nat.lt_of_lt_of_le (h.each x hx a ha).2 hb.size⟩⟩
end
set_option maxHeartbeats 1600000 in
theorem Chunks_cap (M : Nat) (b g s n l : Int) (nb : Nat) (hb : b = (nb : Int)) (h48 : 32 ≤ nb ∧ nb ≤ 48) (hM : 3 ≤ M ∧ M ≤ 5) (f : BitVec 8) (F : Int) (hF : F = (f.toNat : Int)) (w : World) : Calls Try.prog 35 #[sv (M : Int) b g s n l, .int .u8 F] w fun e w' =>
    ∃ v L, e = .returned v ∧ Cl w' w.heap.size v L ∧ L.length = M - 1 ∧ L.map Sl.l = (List.range (M - 1)).map (chunkB nb f) ∧ (∀ x ∈ L, x.n = nb ∧ x.c = nb) ∧ Below w.heap.size w w' := by
  have E := Lib.hid hb
  subst hF
  obtain ⟨W, hW⟩ : ∃ W, W = w.alloc (.cells #[.int .i64 (M : Int), .int .i64 b, .int .i64 g, .int .i64 s, .int .i64 n, .int .i64 l] 30) := ⟨_, rfl⟩
  have at0 : At W w.heap.size #[.int .i64 (M : Int), .int .i64 b, .int .i64 g, .int .i64 s, .int .i64 n, .int .i64 l] 30 := by rw [hW]; exact At.new _ 30 rfl
  have A0 := Lib.hid at0
  have bel : Below w.heap.size w W := by rw [hW]; exact (Below.refl _ _).alloc (Nat.le_refl _) _
  have B0 := Lib.hid bel
  have Z0 := Lib.hid (show W.heap.size = w.heap.size + 1 by rw [hW]; simp)
  have HW := Lib.hid hW
  clear hb at0 bel hW
  generalize hN : M - 1 = N
  have NM := Lib.hid (show (M : Int) - 1 = (N : Int) by omega)
  have n4 : N ≤ 4 := by omega
  clear hN
  unfold sv
  go_enter Try.func35, Try.ntmps35
  go_wp2_with fail
  rw [← HW.out]
  rw [NM.out]
  go_loopw [5, 10] (fun v q wr => ∃ (j : Nat) (L : List Sl), q = .int .i64 (j : Int) ∧ j ≤ N ∧ L.length = j ∧ Below W.heap.size W wr ∧ Cl wr W.heap.size v L ∧ L.map Sl.l = (List.range j).map (chunkB nb f) ∧ ∀ x ∈ L, x.n = nb ∧ x.c = nb) (fun _ q _ => N - (RowKit.intOf q).toNat)
  case atStart => exact ⟨0, [], rfl, Nat.zero_le _, rfl, Below.refl _ _, Cl.nil _ _, rfl, fun x hx => by cases hx⟩
  case round =>
    obtain ⟨j, L, rfl, hj, hl, k1, k2, k3, k4⟩ := hrel
    have B1 := Lib.hid k1
    have C1 := Lib.hid k2
    have M1 := Lib.hid k3
    have N1 := Lib.hid k4
    have L1 := Lib.hid hl
    clear k1 k2 k3 k4 hl
    by_cases hlt : j < N
    · have A1 := A0.out.below B1.out (by have := Z0.out; omega)
      have d0 := A1.cell 0
      have d1 := A1.cell 1
      have d2 := A1.cell 2
      have d3 := A1.cell 3
      have d4 := A1.cell 4
      have d5 := A1.cell 5
      clear A1
      go_wp2_with fail
      refine (Block_any (M : Int) b g s n l nb E.out h48 (fillAt f j) _ (fill_at f j) wr).mono ?_
      rintro e w2 ⟨B, rfl, hown, hb⟩
      obtain ⟨hh, _, ha⟩ := own_slice hown
      have H2 := Lib.hid hh
      have HQ := Lib.hid ha
      have X2 := Lib.hid hb
      have bel : Below w2.heap.size w2 (w2.alloc (.cells #[.slice (some ⟨B, 0, none⟩) nb nb] 46)) := (Below.refl _ _).alloc (Nat.le_refl _) _
      have BL := Lib.hid bel
      have sz := Lib.hid (Nat.le_trans B1.out.size hb.size)
      have OW := Lib.hid (own_below (own_below C1.out.own hb) bel)
      clear hown hb hh ha bel d0 d1 d2 d3 d4 d5
      go_wp2_with (at_builtin; refine wpList_append_ln rfl (.tmp 13) (.tmp 21) rfl W.heap.size u5 L.length L rfl OW.out ⟨w2.heap.size, 0, none⟩ 1 1 [⟨some ⟨B, 0, none⟩, nb, nb, chunkB nb f j⟩] rfl (one_row ⟨some ⟨B, 0, none⟩, nb, nb, chunkB nb f j⟩ (At.new #[.slice (some ⟨B, 0, none⟩) nb nb] 46 rfl)) (by have := L1.out; omega) (by have := sz.out; simp; omega) ?_; intro A3 c3 w3 hown3 hg3 hf3; have C3 := Lib.hid (C1.out.push (S := fun _ => False) (w1 := w2.alloc (.cells #[.slice (some ⟨B, 0, none⟩) nb nb] 46)) (x := ⟨some ⟨B, 0, none⟩, nb, nb, chunkB nb f j⟩) ((But.of_below X2.out).trans (But.of_below (S := fun _ => False) BL.out) (fun _ h _ => h)) (fun _ _ h => h) B1.out.size (H2.out.below BL.out) (by show nb ≤ 48; omega) (fun a ha => by have := HQ.out a ha; simp; omega) hown3 hg3 hf3); have B3 := Lib.hid (show Below W.heap.size W w3 from ((B1.out.trans (X2.out.mono B1.out.size)).trans (BL.out.mono sz.out)).grown hg3 (by have := sz.out; simp; omega) (fun k hk => (C1.out.own.lt k hk).1)); clear hown3 hg3 hf3)
      go_roundw
      case rel =>
        refine ⟨j + 1, L ++ [⟨some ⟨B, 0, none⟩, nb, nb, chunkB nb f j⟩], by go_num, by omega, by simp [L1.out], B3.out, C3.out, ?_, ?_⟩
        · rw [List.map_append, M1.out, List.range_succ, List.map_append]; rfl
        · intro x hx
          rcases List.mem_append.1 hx with h | h
          · exact N1.out x h
          · simp at h; subst h; exact ⟨rfl, rfl⟩
      case measure => simp [RowKit.intOf]; omega
    · obtain rfl : j = N := by omega
      go_wp2
      go_ret
      have sz1 := B0.out.size
      refine ⟨_, L, rfl, ⟨own_base C1.out.own (fun k hk => Nat.le_trans sz1 (C1.out.own.lt k hk).1), C1.out.has, C1.out.len, fun x hx a ha => ?_⟩, L1.out, M1.out, N1.out, B0.out.trans (B1.out.mono sz1)⟩
      obtain ⟨q1, q2, q3⟩ := C1.out.off x hx a ha
      exact ⟨q1, by omega, q3⟩

theorem Cz.of_cl {w : World} {B : Nat} {A : Option Addr} {n c : Nat} {L : List Sl} {O : Nat → Prop} (h : Cl w B (.slice A n c) L) (hn : L.length = n) (h100 : n ≤ 100) (hO : ∀ k, B ≤ k → ¬ O k) : Cz w A n L O := by
  obtain ⟨A2, c2, e, hl⟩ := h.ln (by omega)
  injection e with e1 e2 e3
  subst e1
  rw [hn] at hl
  refine ⟨hl, fun x hx => ?_, fun x hx a ha => ?_⟩
  · rcases h.own.2 with ⟨e, _⟩ | ⟨g, cp, cur, e, hg, hh, _⟩
    · injection e with e; rw [e] at hx; cases hx
    · injection e with e; rw [e] at hx; injection hx with hx; subst hx; exact ⟨hO _ hg, (h.own.lt g (by rw [e]; rfl)).2⟩
  · obtain ⟨_, h2, h3⟩ := h.off x hx a ha
    exact ⟨hO _ h2, h3⟩
/-- The first of the rows, and its block. -/
theorem Cl.first {w : World} {B : Nat} {A : Option Addr} {n c : Nat} {L : List Sl} (h : Cl w B (.slice A n c) L) (h0 : 0 < L.length) : ∃ g cur x R, L = x :: R ∧ A = some ⟨g, 0, none⟩ ∧ B ≤ g ∧ At w g cur 46 ∧ cur[0]? = some (.slice x.A x.n x.c) ∧ cur.toList.take L.length = L.map Sl.v ∧ L.length = n := by
  rcases h.own.2 with ⟨e, e2⟩ | ⟨g, cp, cur, e, hg, hh, h1, h2, h3, h4⟩
  · omega
  · injection e with e1 e2 e3
    subst e1
    cases L with
    | nil => simp at h0
    | cons x R =>
      refine ⟨g, cur, x, R, rfl, rfl, hg, hh, ?_, by simpa using h4, by omega⟩
      have h5 : (cur.toList.take ((x :: R).length * 1))[0]? = some (.slice x.A x.n x.c) := by rw [h4]; rfl
      rw [List.getElem?_take, if_pos (by simp)] at h5
      simpa using h5
/-- The first of the rows is stored anew. -/
theorem Cz.set {w w' : World} {A : Option Addr} {g n : Nat} {x y : Sl} {R : List Sl} {cur : Array Value} {O : Nat → Prop} (h : Cz w A n (x :: R) O) (hA : A = some ⟨g, 0, none⟩) (hat : At w g cur 46) (hc : cur.toList.take (x :: R).length = (x :: R).map Sl.v) (hy : Has w y.A y.n y.l) (hyn : y.n ≤ 100) (hyo : ∀ a, y.A = some a → ¬ O a.block ∧ a.block < w.heap.size ∧ a.block ≠ g)
    (hx : ∀ z ∈ R, ∀ a, z.A = some a → a.block ≠ g) : Cz (w.setCell ⟨g, 0, none⟩ (.slice y.A y.n y.c)) A n (y :: R) O := by
  subst hA
  have bo := (But.refl (fun k => k = g) w).setCell (p := ⟨g, 0, none⟩) (fun _ => rfl) (.slice y.A y.n y.c)
  have hn : n = R.length + 1 := by have := h.ln.len; simp at this; omega
  have ha2 := hat.set 0 (.slice y.A y.n y.c)
  have sz : (w.setCell ⟨g, 0, none⟩ (.slice y.A y.n y.c)).heap.size = w.heap.size := by simp [World.setCell]
  refine ⟨⟨⟨by simp [hn], fun _ => ⟨g, 0, rfl, ha2.lt, fun k hk => ?_⟩⟩, fun z hz => ?_, fun z hz => ?_, h.ln.few⟩, fun a ha => ?_, fun z hz a ha => ?_⟩
  · rw [Nat.zero_add, ha2.cell]
    cases k with
    | zero =>
      have h5 : (cur.toList.take (x :: R).length)[0]? = some x.v := by rw [hc]; rfl
      rw [List.getElem?_take, if_pos (by simp)] at h5
      have h6 : 0 < cur.size := by
        rcases Nat.eq_zero_or_pos cur.size with e | e
        · rw [List.getElem?_eq_none (by simp [e])] at h5; cases h5
        · exact e
      rw [Array.getElem?_setIfInBounds_self_of_lt h6]
      rfl
    | succ k =>
      have h5 : (cur.toList.take (x :: R).length)[k + 1]? = ((x :: R).map Sl.v)[k + 1]? := by rw [hc]
      have hk2 : k < R.length := by simpa using hk
      rw [List.getElem?_take, if_pos (by simp; omega)] at h5
      rw [Array.getElem?_setIfInBounds_ne (by omega)]
      have h6 : cur[k + 1]? = ((x :: R).map Sl.v)[k + 1]? := by simpa using h5
      rw [h6]
      simp [hk2]
  · rcases List.mem_cons.1 hz with rfl | hz
    · exact hy.but bo (fun a ha e => (hyo a ha).2.2 e)
    · exact (h.ln.has z (List.mem_cons_of_mem _ hz)).but bo (fun a ha e => hx z hz a ha e)
  · rcases List.mem_cons.1 hz with rfl | hz
    · omega
    · exact h.ln.cap z (List.mem_cons_of_mem _ hz)
  · have := h.row a ha
    rw [sz]; exact this
  · rw [sz]
    rcases List.mem_cons.1 hz with rfl | hz
    · exact ⟨(hyo a ha).1, (hyo a ha).2.1⟩
    · exact h.each z (List.mem_cons_of_mem _ hz) a ha

/-- A rig of which no member fails; its shape is s0's. -/
structure Ri (B : Nat) (w0 : World) (R q cap : Nat) (P : Pl) (s0 : AS) (U : Int) (w : World) (O : Nat → Prop) (s : AS) : Prop where
  sys : Sys B w0 w R q cap P O s
  calm : Calm s
  same : Same s0 s
  u : s.u ≤ U
/-- Behind a call. -/
def Next (B : Nat) (w0 : World) (R q cap : Nat) (P : Pl) (s0 : AS) (U : Int) (w : World) (O : Nat → Prop) (w' : World) : Prop := ∃ O' s', Ri B w0 R q cap P s0 U w' O' s' ∧ (∀ k, O' k → O k ∨ w.heap.size ≤ k) ∧ But O w w'
section
variable {B : Nat} {w0 w w' : World} {R q cap : Nat} {P : Pl} {O : Nat → Prop} {s0 s : AS} {U : Int}
theorem Ri.up (h : Ri B w0 R q cap P s0 U w O s) (hb : Below w.heap.size w w') : Ri B w0 R q cap P s0 U w' O s := ⟨h.sys.up hb, h.calm, h.same, h.u⟩
theorem Ri.drew (h : Ri B w0 R q cap P s0 U w O s) : Ri B w0 R q cap P s0 U w.drew O s := ⟨h.sys.drewN 1, h.calm, h.same, h.u⟩
theorem Ri.went {c : Int} (h : Ri B w0 R q cap P s0 U w O s) (k : Went c w P O s w') (hc : c ≤ 20) : Next B w0 R q cap P s0 (U + 20) w O w' := by
  obtain ⟨O', s', k1, k2, k3, k4, k5, k6⟩ := h.sys.went k
  exact ⟨O', s', ⟨k1, k5, h.same.trans k4, by have := h.u; omega⟩, k2, k3⟩
theorem Same.shape (h : Same s0 s) : s.M = s0.M ∧ s.N = s0.N ∧ s.S = s0.S ∧ s.b = s0.b := ⟨h.M, h.N, h.S, h.b⟩
theorem chunk_ri (t k : Int) (h : Ri B w0 R q cap P s0 U w O s) (hU : U ≤ 600000) : Calls Try.prog 21 #[ptr P.a, .int .i64 t, .int .i64 k] w fun e w' => ∃ v, e = .returned (.tuple #[v, .int .i64 (no (decide (0 ≤ t ∧ t < s0.N) && decide (0 ≤ k ∧ k < (s0.M : Int) - 1)))]) ∧ Next B w0 R q cap P s0 (U + 20) w O w' := by
  obtain ⟨eM, eN, eS, eb⟩ := h.same.shape
  have hu := h.u
  have k := chunk_went t k h.sys.rg.arr h.calm (by omega)
  simp only [eM, eN] at k
  refine k.mono ?_
  rintro e w' ⟨v, rfl, hw⟩
  exact ⟨v, rfl, h.went hw (by omega)⟩
theorem put_ri (t : Int) (A : Option Addr) (KC c : Nat) (L : List Sl) (mz : Bool) (hKC : KC ≤ 100) (hL : Cz w A KC L O) (hm : ((KC : Int) = (s0.M : Int) - 1 ∧ Fits L s0.b) ↔ mz = true) (h : Ri B w0 R q cap P s0 U w O s) (hU : U ≤ 600000) : Calls Try.prog 37 #[ptr P.a, .int .i64 t, .slice A KC c] w fun e w' => e = .returned (.int .i64 (no (decide (0 ≤ t ∧ t < s0.N) && mz))) ∧ Next B w0 R q cap P s0 (U + 20) w O w' := by
  obtain ⟨eM, eN, eS, eb⟩ := h.same.shape
  have hu := h.u
  have k := put_went t A KC c L mz hKC hL.ln (fun x hx a ha => (hL.each x hx a ha).1) (by rw [eM, eb]; exact hm) h.sys.rg.arr h.calm (by omega)
  simp only [eN] at k
  refine k.mono ?_
  rintro e w' ⟨rfl, hw⟩
  exact ⟨rfl, h.went hw (by omega)⟩
theorem mend_ri (t : Int) (h : Ri B w0 R q cap P s0 U w O s) (hU : U ≤ 600000) : Calls Try.prog 24 #[ptr P.a, .int .i64 t] w fun e w' => e = .returned (.int .i64 (no10 (decide (0 ≤ t ∧ t < s0.N)))) ∧ Next B w0 R q cap P s0 (U + 20) w O w' := by
  obtain ⟨eM, eN, eS, eb⟩ := h.same.shape
  have hu := h.u
  have k := mend_went t h.sys.rg.arr h.calm
  simp only [eN] at k
  refine k.mono ?_
  rintro e w' ⟨rfl, hw⟩
  exact ⟨rfl, h.went hw (by omega)⟩
theorem same_ri (i : Int) (h : Ri B w0 R q cap P s0 U w O s) (hU : U ≤ 600000) : Calls Try.prog 22 #[ptr P.a, .int .i64 i] w fun e w' => ∃ v, e = .returned (.tuple #[v, .int .i64 (no (decide (0 ≤ i ∧ i < (s0.S : Int))))]) ∧ Next B w0 R q cap P s0 (U + 20) w O w' := by
  obtain ⟨eM, eN, eS, eb⟩ := h.same.shape
  have hu := h.u
  have k := same_went i h.sys.rg.arr h.calm (by omega)
  simp only [eS] at k
  refine k.mono ?_
  rintro e w' ⟨v, rfl, hw⟩
  exact ⟨v, rfl, h.went hw (by omega)⟩
theorem putSame_ri (i : Int) (A : Option Addr) (n c : Nat) (b : Bytes) (h1000 : n ≤ 1000) (hn : (n : Int) = s0.b) (hb : Has w A n b) (hA : ∀ x, A = some x → ¬ O x.block) (h : Ri B w0 R q cap P s0 U w O s) (hU : U ≤ 600000) : Calls Try.prog 27 #[ptr P.a, .int .i64 i, .slice A n c] w fun e w' => e = .returned (.int .i64 (no (decide (0 ≤ i ∧ i < (s0.S : Int))))) ∧ Next B w0 R q cap P s0 (U + 20) w O w' := by
  obtain ⟨eM, eN, eS, eb⟩ := h.same.shape
  have hu := h.u
  have k := putSame_went i A n c b h1000 (by rw [eb]; exact hn) hb hA h.sys.rg.arr h.calm (by omega)
  simp only [eS] at k
  refine k.mono ?_
  rintro e w' ⟨rfl, hw⟩
  exact ⟨rfl, h.went hw (by omega)⟩
theorem putSame_nil (i : Int) (h : Ri B w0 R q cap P s0 U w O s) (h0 : s0.b ≠ 0) (hU : U ≤ 600000) : Calls Try.prog 27 #[ptr P.a, .int .i64 i, .slice none 0 0] w fun e w' => e = .returned (.int .i64 1) ∧ Next B w0 R q cap P s0 (U + 20) w O w' := by
  obtain ⟨eM, eN, eS, eb⟩ := h.same.shape
  refine (PutSame_arg i none 0 0 [] (by omega) (fun e => by have := e.2; rw [eb] at this; omega) (Has.nil _ _) (fun x e => by cases e) h.sys.rg.arr).mono ?_
  rintro e w' ⟨rfl, hb⟩
  exact ⟨rfl, h.went (Went.still (c := 0) h.sys.rg.arr h.calm (hb.below (fun k h => h.elim) (Nat.le_refl _)) (by omega)) (by omega)⟩
theorem finish_nil (h : Ri B w0 R q cap P s0 U w O s) (h0 : s0.b ≠ 0) : Calls Try.prog 29 #[ptr P.a, .slice none 0 0] w fun e w' => e = .returned (.int .i64 1) ∧ Next B w0 R q cap P s0 (U + 20) w O w' := by
  obtain ⟨eM, eN, eS, eb⟩ := h.same.shape
  refine (Finish_arg none 0 0 [] (by rw [eb]; omega) (by omega) (Has.nil _ _) h.sys.rg.arr).mono ?_
  rintro e w' ⟨rfl, hb⟩
  exact ⟨rfl, h.went (Went.still (c := 0) h.sys.rg.arr h.calm hb (by omega)) (by omega)⟩
theorem replace_ri (m : Int) (h : Ri B w0 R q cap P s0 U w O s) : Calls Try.prog 25 #[ptr P.a, .int .i64 m] w fun e w' => e = .returned (.int .i64 1) ∧ Next B w0 R q cap P s0 (U + 20) w O w' := by
  refine (Replace_arg m (fun e => by have := e.2.2; rw [h.calm.stale] at this; omega) h.calm.whole h.sys.rg.arr).mono ?_
  rintro e w' ⟨rfl, hb⟩
  exact ⟨rfl, h.went (Went.still (c := 0) h.sys.rg.arr h.calm hb (by omega)) (by omega)⟩
theorem lose_ri (m : Int) (h : Ri B w0 R q cap P s0 U w O s) (hU : U ≤ 600000) : Calls Try.prog 26 #[ptr P.a, .int .i64 m] w fun e w' => e = .returned (.int .i64 (no (decide (0 ≤ m ∧ m < (s0.M : Int))))) ∧ ∃ s', Sys B w0 w' R q cap P O s' ∧ Same s0 s' ∧ s'.u ≤ U + 20 := by
  obtain ⟨eM, eN, eS, eb⟩ := h.same.shape
  have hu := h.u
  have k := lose_went m h.sys.rg.arr h.calm (by omega)
  simp only [eM] at k
  refine k.mono ?_
  rintro e w' ⟨rfl, s', h1, h2, h3, h4⟩
  exact ⟨rfl, s', h.sys.keep h3 h1 h2, h.same.trans h3, by omega⟩
end
end Go.Proofs.Ytapbphkhbhcdkaa
