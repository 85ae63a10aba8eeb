/-
  THE WALK OF PutSame.
-/
import Derived.Test.YtapbphkhbhcdkaaFl
namespace Go.Proofs.Ytapbphkhbhcdkaa
open Go.RowKit Go.Maps
set_option linter.unusedVariables false
set_option maxRecDepth 100000

section
variable {w w' : World} {P : Pl} {O : Nat → Prop} {s : AS}

/-- What PutSame's closure has captured. -/
structure Sm (w : World) (P : Pl) (O : Nat → Prop) (b1 b2 b3 : Nat) (i : Int) (A : Option Addr) (n c : Nat) (b : Bytes) : Prop where
  box : Box w b1 P O
  at2 : At w b2 #[.int .i64 i] 3
  at3 : At w b3 #[.slice A n c] 46
  has : Has w A n b
  off : ¬ O b2 ∧ ¬ O b3 ∧ ∀ x, A = some x → ¬ O x.block
theorem Sm.frame {O' : Nat → Prop} {b1 b2 b3 : Nat} {i : Int} {A : Option Addr} {n c : Nat} {b : Bytes} (h : Sm w P O b1 b2 b3 i A n c b) (hb : But O w w') (hO : ∀ k, O' k → O k ∨ w.heap.size ≤ k) (h0 : 0 < n) : Sm w' P O' b1 b2 b3 i A n c b := by
  obtain ⟨k2, k3, k4⟩ := h.off
  refine ⟨h.box.frame hb hO, h.at2.but hb k2, h.at3.but hb k3, h.has.but hb k4, fun e => (hO _ e).elim k2 (fun e => by have := h.at2.lt; omega), fun e => (hO _ e).elim k3 (fun e => by have := h.at3.lt; omega), fun x hx e => (hO _ e).elim (k4 x hx) (fun e => ?_)⟩
  obtain ⟨bb, off, e1, hlt, _⟩ := h.has.2 h0
  rw [hx] at e1
  injection e1 with e1
  rw [e1] at e
  simp at e
  omega

theorem Sm.up {b1 b2 b3 : Nat} {i : Int} {A : Option Addr} {n c : Nat} {b : Bytes} (h : Sm w P O b1 b2 b3 i A n c b) (hb : Below w.heap.size w w') : Sm w' P O b1 b2 b3 i A n c b :=
  ⟨⟨h.box.1.below hb h.box.1.lt, h.box.2⟩, h.at2.below hb h.at2.lt, h.at3.below hb h.at3.lt, h.has.below hb, h.off⟩
theorem Sm.drew {b1 b2 b3 : Nat} {i : Int} {A : Option Addr} {n c : Nat} {b : Bytes} (h : Sm w P O b1 b2 b3 i A n c b) : Sm w.drew P O b1 b2 b3 i A n c b := ⟨h.box, h.at2, h.at3, h.has, h.off⟩
/-- A row of one slice, just built, is a slice of slices. -/
theorem one_ln (A : Option Addr) (n c : Nat) (b : Bytes) (h : Has w A n b) (hn : n ≤ 140737488355328) : Ln (w.alloc (.cells #[.slice A n c] 46)) (some ⟨w.heap.size, 0, none⟩) 1 [⟨A, n, c, b⟩] :=
  ⟨one_row ⟨A, n, c, b⟩ (At.new #[.slice A n c] 46 rfl), fun x hx => by simp at hx; subst hx; exact h.below ((Below.refl _ _).alloc (Nat.le_refl _) _), fun x hx => by simp at hx; subst hx; exact hn, by omega⟩
theorem one_fits (A : Option Addr) (n c : Nat) (b : Bytes) (q : Int) : Fits [⟨A, n, c, b⟩] q ↔ (n : Int) = q := by
  unfold Fits
  simp
theorem putSameOne (b1 b2 b3 m : Nat) (hm : m < s.M) (i : Int) (hi : 0 ≤ i ∧ i < (s.S : Int)) (A : Option Addr) (n c : Nat) (b : Bytes) (hn : (n : Int) = s.b) (h : Arr w P O s) (hz : Sm w P O b1 b2 b3 i A n c b) (hu : s.u ≤ 900000) :
    Calls Try.prog 57 #[.int .i64 (m : Int), .pointer (some ⟨b1, 0, none⟩), .pointer (some ⟨b2, 0, none⟩), .pointer (some ⟨b3, 0, none⟩)] w fun e w' => e = .returned (.int .i64 (err ((s.d m).op s.u).dead)) ∧ Did w P O (s.turn m ((s.d m).put s.u i b)) w' := by
  have d1 := hz.box.1.cell 0
  have d2 := hz.at2.cell 0
  have d3 := hz.at3.cell 0
  have HA := Lib.hid h
  have HH := Lib.hid hz.has
  have HN := Lib.hid hn
  have HI := Lib.hid hi
  clear h hz hn hi
  go_enter Try.func57, Try.ntmps57
  go_wp2_with fail
  refine (write_any m hm i HI.out A n c b HN.out HH.out HA.out hu).mono ?_
  rintro e w2 ⟨rfl, hD⟩
  go_wp2
  go_ret
  exact ⟨rfl, hD⟩
theorem enters57 (m b1 b2 b3 : Nat) (w : World) : (callFunc 57 (#[.int .i64 (m : Int)] ++ #[.pointer (some ⟨b1, 0, none⟩), .pointer (some ⟨b2, 0, none⟩), .pointer (some ⟨b3, 0, none⟩)])).run Try.prog w = .ok (.enter 57 (#[.int .i64 (m : Int)] ++ #[.pointer (some ⟨b1, 0, none⟩), .pointer (some ⟨b2, 0, none⟩), .pointer (some ⟨b3, 0, none⟩)])) w := by kernel_rfl
theorem put_act (i : Int) (b : Nat → Bytes) : Act1 (fun k d u => d.put u i (b k)) := Act1.of (R := fun k d _ => with1 d.read i (b k)) (fun k d u => put_turns d u i (b k)) (fun k d u => put_dead d u i (b k))

set_option maxHeartbeats 1600000 in
theorem PutSame_any (i : Int) (hi : 0 ≤ i ∧ i < (s.S : Int)) (A : Option Addr) (n c : Nat) (b : Bytes) (hn : (n : Int) = s.b) (hb : Has w A n b) (hA : ∀ x, A = some x → ¬ O x.block) (h : Arr w P O s) (hu : s.u ≤ 800000) :
    Calls Try.prog 27 #[.pointer (some ⟨P.a, 0, none⟩), .int .i64 i, .slice A n c] w fun e w' => ∃ er s', e = .returned (.int .i64 er) ∧ Did w P O s' w' ∧ EachAs (fun _ d u => d.put u i b) s s' er := by
  have hmf : ∀ (fn : Fn) (first cap : Array Value) (w : World), (Instr.makeFunc fn first cap).run Try.prog w = .ok (.func fn first cap) w := fun _ _ _ _ => rfl
  have b48 := h.wf.small.hb
  have HN := Lib.hid hn
  have HI := Lib.hid hi
  obtain ⟨W, hW⟩ : ∃ W, W = ((w.alloc (.cells #[.pointer (some ⟨P.a, 0, none⟩)] 35)).alloc (.cells #[.int .i64 i] 3)).alloc (.cells #[.slice A n c] 46) := ⟨_, rfl⟩
  have B1 := Lib.hid (show But O w W by rw [hW]; exact ((((But.refl O w).alloc _).alloc _).alloc _))
  have HA := Lib.hid (show Arr W P O s by rw [hW]; exact (((h.alloc _).alloc _).alloc _))
  have HS := Lib.hid (show Sm W P O w.heap.size (w.heap.size + 1) (w.heap.size + 1 + 1) i A n c b by
    have hlt := h.lt
    have bel : Below w.heap.size w W := by rw [hW]; exact (((Below.refl _ _).alloc (Nat.le_refl _) _).alloc (by simp) _).alloc (by simp; omega) _
    refine ⟨⟨?_, fun e => by have := hlt _ e; omega⟩, ?_, ?_, hb.below bel, fun e => by have := hlt _ e; omega, fun e => by have := hlt _ e; omega, hA⟩
    · rw [hW]; exact ((At.new _ 35 rfl).alloc _).alloc _
    · rw [hW]; exact (At.new _ 3 (by simp)).alloc _
    · rw [hW]; exact At.new _ 46 (by simp))
  clear h hn hb hA hi
  go_enter Try.func27, Try.ntmps27
  go_wp2_with fail
  rw [← hW]
  clear hW
  have S0 : (fun w' : World => Arr w' P O s ∧ Sm w' P O w.heap.size (w.heap.size + 1) (w.heap.size + 1 + 1) i A n c b) W.drew := ⟨HA.out.drew, HS.out.drew⟩
  refine wp_region_early (fun w' : World => Arr w' P O s ∧ Sm w' P O w.heap.size (w.heap.size + 1) (w.heap.size + 1 + 1) i A n c b) (fun _ => true) (by kernel_rfl) ?_
  change wpEarly _ _ _ _ _ _ 15 (Array.replicate 15 false) _ W.drew
  refine early_take (i := 0) 7 (.int .i64 i) rfl rfl (by kernel_rfl) (by kernel_rfl) (by kernel_rfl) (by kernel_rfl) rfl (fun _ _ _ h => h) (fun w' hw' => by obtain ⟨hA, hS⟩ := hw'; have k := hS.at2.cell 0; go_simp) S0 ?_
  simp only [Act.put, List.setIfInBounds_toArray, List.set_cons_zero, List.set_cons_succ]
  refine early_take (i := 1) 8 (.pointer (some ⟨P.a, 0, none⟩)) rfl rfl (by kernel_rfl) (by kernel_rfl) (by kernel_rfl) (by kernel_rfl) rfl (fun _ _ _ h => h) (fun w' hw' => by obtain ⟨hA, hS⟩ := hw'; have k := hS.box.1.cell 0; go_simp) S0 ?_
  simp only [Act.put, List.setIfInBounds_toArray, List.set_cons_zero, List.set_cons_succ]
  refine early_take (i := 2) 9 (.pointer (some ⟨P.a, 0, none⟩)) rfl rfl (by kernel_rfl) (by kernel_rfl) (by kernel_rfl) (by kernel_rfl) rfl (fun _ _ _ h => h) (fun w' hw' => by go_simp) S0 ?_
  simp only [Act.put, List.setIfInBounds_toArray, List.set_cons_zero, List.set_cons_succ]
  refine early_take (i := 3) 10 (.pointer (some ⟨P.a, 0, none⟩)) rfl rfl (by kernel_rfl) (by kernel_rfl) (by kernel_rfl) (by kernel_rfl) rfl (fun _ _ _ h => h) (fun w' hw' => by go_simp) S0 ?_
  simp only [Act.put, List.setIfInBounds_toArray, List.set_cons_zero, List.set_cons_succ]
  refine early_take (i := 4) 11 (sv (s.M : Int) s.b s.g s.s s.n s.l) rfl rfl (by kernel_rfl) (by kernel_rfl) (by kernel_rfl) (by kernel_rfl) rfl (fun _ _ _ h => h) (fun w' hw' => exec_shape (x := .tmp 10) rfl rfl hw'.1.range) S0 ?_
  simp only [Act.put, List.setIfInBounds_toArray, List.set_cons_zero, List.set_cons_succ]
  refine early_only (i := 5) (by kernel_rfl) rfl (fun K hK => ?_)
  simp only [opWp, List.getElem?_toArray, List.getElem?_cons_succ, List.getElem?_cons_zero]
  go_simp
  go_at_call 38
  refine (sectors_call HA.out.wf _).mono ?_
  rintro e w2 ⟨rfl, hb2⟩
  have S2 : (fun w' : World => Arr w' P O s ∧ Sm w' P O w.heap.size (w.heap.size + 1) (w.heap.size + 1 + 1) i A n c b) w2 := ⟨S0.1.up hb2, S0.2.up hb2⟩
  have C2 := Lib.hid (B1.out.trans (But.of_drewN 1 (But.of_below (S := fun _ => False) hb2)) (fun _ h _ => h.elim))
  clear hb2
  refine hK _ _ (fun _ => S2) ?_
  refine early_only (i := 6) (by kernel_rfl) rfl (fun K hK => ?_)
  simp only [opWp, List.getElem?_toArray, List.getElem?_cons_succ, List.getElem?_cons_zero]
  go_simp
  go_at_call 47
  refine (inside_any i (s.S : Int) w2).mono ?_
  rintro e w3 ⟨rfl, rfl⟩
  rw [decide_eq_true HI.out]
  refine hK _ _ (fun _ => S2) ?_
  refine early_take (i := 7) 14 (.bool false) rfl rfl (by kernel_rfl) (by kernel_rfl) (by kernel_rfl) (by kernel_rfl) rfl (fun _ _ _ h => h) (fun w' hw' => by go_simp) S2 ?_
  simp only [Act.put, List.setIfInBounds_toArray, List.set_cons_zero, List.set_cons_succ]
  refine early_take (i := 8) 15 (.bool false) rfl rfl (by kernel_rfl) (by kernel_rfl) (by kernel_rfl) (by kernel_rfl) rfl (fun _ _ _ h => h) (fun w' hw' => by go_simp) S2 ?_
  simp only [Act.put, List.setIfInBounds_toArray, List.set_cons_zero, List.set_cons_succ]
  refine early_take (i := 9) 16 (.pointer (some ⟨P.a, 0, none⟩)) rfl rfl (by kernel_rfl) (by kernel_rfl) (by kernel_rfl) (by kernel_rfl) rfl (fun _ _ _ h => h) (fun w' hw' => by obtain ⟨hA, hS⟩ := hw'; have k := hS.box.1.cell 0; go_simp) S2 ?_
  simp only [Act.put, List.setIfInBounds_toArray, List.set_cons_zero, List.set_cons_succ]
  refine early_take (i := 10) 17 (.slice A n c) rfl rfl (by kernel_rfl) (by kernel_rfl) (by kernel_rfl) (by kernel_rfl) rfl (fun _ _ _ h => h) (fun w' hw' => by obtain ⟨hA, hS⟩ := hw'; have k := hS.at3.cell 0; go_simp) S2 ?_
  simp only [Act.put, List.setIfInBounds_toArray, List.set_cons_zero, List.set_cons_succ]
  refine early_only (i := 11) (by kernel_rfl) rfl (fun K hK => ?_)
  simp only [opWp, List.getElem?_toArray, List.getElem?_cons_succ, List.getElem?_cons_zero]
  go_simp
  have bel4 : Below w3.heap.size w3 (w3.alloc (.cells #[.slice A n c] 46)) := (Below.refl _ _).alloc (Nat.le_refl _) _
  have S4 : (fun w' : World => Arr w' P O s ∧ Sm w' P O w.heap.size (w.heap.size + 1) (w.heap.size + 1 + 1) i A n c b) (w3.alloc (.cells #[.slice A n c] 46)) := ⟨S2.1.up bel4, S2.2.up bel4⟩
  have C4 := Lib.hid (C2.out.trans (But.of_below (S := fun _ => False) bel4) (fun _ h _ => h.elim))
  have L4 := Lib.hid (one_ln A n c b S2.2.has (by have := HN.out; omega))
  have Z3 := Lib.hid C2.out.size
  clear bel4
  refine hK _ _ (fun _ => S4) ?_
  refine early_only (i := 12) (by kernel_rfl) rfl (fun K hK => ?_)
  simp only [opWp, List.getElem?_toArray, List.getElem?_cons_succ, List.getElem?_cons_zero]
  go_simp
  go_at_call 56
  refine (blocks_any _ 1 1 _ S4.1 L4.out).mono ?_
  rintro e w5 ⟨rfl, hb5⟩
  rw [decide_eq_true ((one_fits A n c b s.b).2 HN.out)]
  have S5 : (fun w' : World => Arr w' P O s ∧ Sm w' P O w.heap.size (w.heap.size + 1) (w.heap.size + 1 + 1) i A n c b) w5 := ⟨S4.1.up hb5, S4.2.up hb5⟩
  have C5 := Lib.hid (C4.out.trans (But.of_below (S := fun _ => False) hb5) (fun _ h _ => h.elim))
  clear hb5
  refine hK _ _ (fun _ => S5) ?_
  refine early_take (i := 13) 20 (.bool false) rfl rfl (by kernel_rfl) (by kernel_rfl) (by kernel_rfl) (by kernel_rfl) rfl (fun _ _ _ h => h) (fun w' hw' => by go_simp) S5 ?_
  simp only [Act.put, List.setIfInBounds_toArray, List.set_cons_zero, List.set_cons_succ]
  refine early_take (i := 14) 21 (.bool false) rfl rfl (by kernel_rfl) (by kernel_rfl) (by kernel_rfl) (by kernel_rfl) rfl (fun _ _ _ h => h) (fun w' hw' => by go_simp) S5 ?_
  simp only [Act.put, List.setIfInBounds_toArray, List.set_cons_zero, List.set_cons_succ]
  refine early_done (by kernel_rfl) ?_
  have A6 := Lib.hid S5.1
  have M6 := Lib.hid S5.2
  have k1 := S5.2.box.1.cell 0
  clear S0 S2 S4 S5
  go_wp2_with fail
  refine (each_any 57 _ (fun _ d u => d.put u i b) (put_act i (fun _ => b)) (fun w' O => Sm w' P O w.heap.size (w.heap.size + 1) (w.heap.size + 1 + 1) i A n c b) (fun m w' => enters57 m _ _ _ w') (fun _ _ _ _ hz hb hO => hz.frame hb hO (by have := HN.out; omega)) (fun m w' O' s' hm hs ha hz hu' => putSameOne _ _ _ m (by rw [hs.M]; exact hm) i (by rw [hs.S]; exact HI.out) A n c b (by rw [hs.b]; exact HN.out) ha hz hu') A6.out M6.out hu).mono ?_
  rintro e w7 ⟨er, s', rfl, hD, hE⟩
  have D7 := Lib.hid (hD.trans (fun _ h => .inl h) C5.out)
  have E7 := Lib.hid hE
  clear hD hE
  go_wp2
  go_ret
  exact ⟨er, s', rfl, D7.out, E7.out⟩
end
end Go.Proofs.Ytapbphkhbhcdkaa
