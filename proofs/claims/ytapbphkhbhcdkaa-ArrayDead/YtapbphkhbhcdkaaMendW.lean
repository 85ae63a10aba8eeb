/-
  THE WALKS OF Mend AND Replace.
-/
import Derived.Test.YtapbphkhbhcdkaaFill
namespace Go.Proofs.Ytapbphkhbhcdkaa
open Go.RowKit Go.Maps
set_option linter.unusedVariables false
set_option maxRecDepth 100000

theorem Ln.one_new {w : World} {A : Option Addr} {n c : Nat} {l : Bytes} (h : Has w A n l) (hn : n ≤ 48) : Ln (w.alloc (.cells #[.slice A n c] 46)) (some ⟨w.heap.size, 0, none⟩) 1 [⟨A, n, c, l⟩] :=
  ⟨⟨rfl, fun _ => ⟨w.heap.size, 0, rfl, by simp, fun k hk => by
    have hk0 : k = 0 := by simpa using hk
    subst hk0
    exact (At.new #[.slice A n c] 46 rfl).cell 0⟩⟩, fun x hx => by simp at hx; subst hx; exact h.below ((Below.refl _ _).alloc (Nat.le_refl _) _), fun x hx => by simp at hx; subst hx; show n ≤ 140737488355328; omega, by decide⟩
inductive MendAs (m : Nat) (i : Int) (s s' : AS) : Int → Prop
  | done (er : Int) (s1 : AS) (hr : Rel (fun _ => Aged) 10 s s1) (hs : s1.stale = (m : Int)) (hf : Fills m i [mend s m i] s1 s' er) : MendAs m i s s' er
  | gone (hg : Gone 10 s s') : MendAs m i s s' 3
section
variable {w w' : World} {P : Pl} {O : Nat → Prop} {s s' : AS}
set_option maxHeartbeats 1600000 in
theorem Mend_any (t : Int) (m : Nat) (ht : 0 ≤ t ∧ t < s.N) (hm : m < s.M) (hst : s.stale = (m : Int)) (hbr : s.broken = false) (h : Arr w P O s) (hS : (s.S : Int) ≤ 2000000000) (hu : s.u ≤ 600000) :
    Calls Try.prog 24 #[ptr P.a, .int .i64 t] w fun e w' => ∃ er s', e = .returned (.int .i64 er) ∧ Did w P O s' w' ∧ MendAs m (s.at_ t) s s' er := by
  have HA := Lib.hid h
  have HS := Lib.hid hst
  have HB := Lib.hid hbr
  have TT := Lib.hid ht
  have t1 : decide (0 ≤ t ∧ t < s.N) = true := decide_eq_true ht
  have AI := Lib.hid (show 0 ≤ s.at_ t ∧ s.at_ t < (s.S : Int) by
    have h1 := h.wf.sect
    have h2 := h.wf.some_
    unfold AS.at_
    unfold AS.N at ht
    omega)
  have b48 := Lib.hid h.wf.small.hb
  obtain ⟨c0, c1, c2, c3, c4, c5⟩ := h.shape
  clear h hst hbr ht
  go_enter Try.func24, Try.ntmps24
  go_wp2_with fail
  refine (all_call HA.out.wf w).mono ?_
  rintro e w1 ⟨rfl, hbl⟩
  have A1 := Lib.hid (HA.out.up hbl)
  have B1 := Lib.hid (But.of_below (S := O) hbl)
  clear hbl c0 c1 c2 c3 c4 c5
  go_wp2_with fail
  refine (inside_any t s.N w1).mono ?_
  rintro e w2 ⟨rfl, hw2⟩
  rw [hw2, t1]
  clear t1 hw2
  go_wp2_with fail
  refine (mendable_any A1.out).mono ?_
  rintro e w3 ⟨rfl, hbl⟩
  have A3 := Lib.hid (A1.out.up hbl)
  have B3 := Lib.hid (B1.out.trans (But.of_below (S := fun _ => False) hbl) (fun _ h _ => h.elim))
  rw [show (if s.broken = true then (3 : Int) else if s.stale = -1 then 10 else 0) = 0 by rw [if_neg (by rw [HB.out]; simp), if_neg (by have := HS.out; omega)]]
  clear hbl
  go_wp2_with fail
  have S0 : (fun w' : World => w'.rangeAt P.a 0 s.sh) w3.drew := A3.out.drew.range
  refine wp_region_early (fun w' : World => w'.rangeAt P.a 0 s.sh) (fun _ => true) (by kernel_rfl) ?_
  change wpEarly _ _ _ _ _ _ 10 (Array.replicate 10 false) _ w3.drew
  refine early_take (i := 0) 23 (ptr P.a) rfl rfl (by kernel_rfl) (by kernel_rfl) (by kernel_rfl) (by kernel_rfl) rfl (fun _ _ _ h => h) (fun w' hw' => by go_simp) S0 ?_
  simp only [Act.put, List.setIfInBounds_toArray, List.set_cons_zero, List.set_cons_succ]
  refine early_take (i := 2) 25 (ptr P.a) rfl rfl (by kernel_rfl) (by kernel_rfl) (by kernel_rfl) (by kernel_rfl) rfl (fun _ _ _ h => h) (fun w' hw' => by go_simp) S0 ?_
  simp only [Act.put, List.setIfInBounds_toArray, List.set_cons_zero, List.set_cons_succ]
  refine early_take (i := 3) 26 (ptr P.a) rfl rfl (by kernel_rfl) (by kernel_rfl) (by kernel_rfl) (by kernel_rfl) rfl (fun _ _ _ h => h) (fun w' hw' => by go_simp) S0 ?_
  simp only [Act.put, List.setIfInBounds_toArray, List.set_cons_zero, List.set_cons_succ]
  refine early_take (i := 4) 27 (ptr P.a) rfl rfl (by kernel_rfl) (by kernel_rfl) (by kernel_rfl) (by kernel_rfl) rfl (fun _ _ _ h => h) (fun w' hw' => by go_simp) S0 ?_
  simp only [Act.put, List.setIfInBounds_toArray, List.set_cons_zero, List.set_cons_succ]
  refine early_take (i := 5) 28 (sv (s.M : Int) s.b s.g s.s s.n s.l) rfl rfl (by kernel_rfl) (by kernel_rfl) (by kernel_rfl) (by kernel_rfl) rfl (fun _ _ _ h => h) (fun w' hw' => exec_shape (s := s) (x := .tmp 27) rfl rfl hw') S0 ?_
  simp only [Act.put, List.setIfInBounds_toArray, List.set_cons_zero, List.set_cons_succ]
  refine early_take (i := 6) 29 (.int .i64 t) rfl rfl (by kernel_rfl) (by kernel_rfl) (by kernel_rfl) (by kernel_rfl) rfl (fun _ _ _ h => h) (fun w' hw' => by go_simp) S0 ?_
  simp only [Act.put, List.setIfInBounds_toArray, List.set_cons_zero, List.set_cons_succ]
  refine early_only (i := 1) (by kernel_rfl) rfl (fun K hK => ?_)
  simp only [opWp, List.getElem?_toArray, List.getElem?_cons_succ, List.getElem?_cons_zero]
  go_simp
  go_at_call 18
  refine (stale_any A3.out.drew).mono ?_
  rintro e w4 ⟨rfl, hbl⟩
  have A4 := Lib.hid (A3.out.drew.up hbl)
  have B4 := Lib.hid (B3.out.trans (But.of_drewN 1 (But.of_below (S := fun _ => False) hbl)) (fun _ h _ => h.elim))
  have S1 : (fun w' : World => w'.rangeAt P.a 0 s.sh) w4 := A4.out.range
  rw [HS.out]
  clear hbl
  refine hK _ _ (fun _ => S1) ?_
  refine early_only (i := 7) (by kernel_rfl) rfl (fun K hK => ?_)
  simp only [opWp, List.getElem?_toArray, List.getElem?_cons_succ, List.getElem?_cons_zero]
  go_simp
  go_at_call 34
  refine (at_call A4.out.wf t (by have := TT.out; have := A4.out.wf.n; omega) _).mono ?_
  rintro e w5 ⟨rfl, hbl⟩
  have A5 := Lib.hid (A4.out.up hbl)
  have B5 := Lib.hid (B4.out.trans (But.of_below (S := fun _ => False) hbl) (fun _ h _ => h.elim))
  have S2 : (fun w' : World => w'.rangeAt P.a 0 s.sh) w5 := A5.out.range
  clear hbl
  refine hK _ _ (fun _ => S2) ?_
  refine early_take (i := 8) 6 (.int .i64 (m : Int)) rfl rfl (by kernel_rfl) (by kernel_rfl) (by kernel_rfl) (by kernel_rfl) rfl (fun _ _ _ h => h) (fun w' hw' => by go_simp) S2 ?_
  simp only [Act.put, List.setIfInBounds_toArray, List.set_cons_zero, List.set_cons_succ]
  refine early_take (i := 9) 7 (.int .i64 (s.at_ t)) rfl rfl (by kernel_rfl) (by kernel_rfl) (by kernel_rfl) (by kernel_rfl) rfl (fun _ _ _ h => h) (fun w' hw' => by go_simp) S2 ?_
  simp only [Act.put, List.setIfInBounds_toArray, List.set_cons_zero, List.set_cons_succ]
  refine early_done (by kernel_rfl) ?_
  clear S0 S1 S2
  go_wp2_with fail
  refine (restore_any m hm (s.at_ t) AI.out HS.out HB.out A5.out (by omega)).mono ?_
  rintro e w6 ⟨v, er, s1, rfl, k1, k2, k3⟩
  have A6 := Lib.hid k1
  have B6 := Lib.hid (B5.out.trans k2 (fun _ h _ => h))
  have R6 := Lib.hid k3
  have Z5 := Lib.hid A5.out.lt
  clear k1 k2 k3
  have R7 := R6.out
  cases R7 with
  | gone hg =>
    have X := Lib.hid (show MendAs m (s.at_ t) s s1 3 from .gone hg)
    clear hg R6
    go_wp2
    go_ret
    exact ⟨3, s1, rfl, ⟨O, A6.out, fun _ h => .inl h, B6.out⟩, X.out⟩
  | got v hr hs hv =>
    have RR := Lib.hid hr
    have HS1 := Lib.hid hs
    obtain ⟨Ab, cb, rfl, hh, _, hlt1⟩ := own_form hv
    have ML := Lib.hid (show (mend s m (s.at_ t)).length = s.b.toNat from xorB_len _ _ _)
    obtain ⟨mr, hmr⟩ : ∃ mr, mend s m (s.at_ t) = mr := ⟨_, rfl⟩
    have MR := Lib.hid hmr
    rw [hmr] at hh ML ⊢
    have HH := Lib.hid hh
    have HB1 := Lib.hid (show ∀ x, Ab = some x → ¬ O x.block ∧ x.block < w6.heap.size from fun x hx => ⟨fun e => by have := (hlt1 x hx).1; have := Z5.out _ e; omega, (hlt1 x hx).2⟩)
    clear hr hs hv hh hlt1 R6 hmr
    go_wp2_with fail
    have A7 := Lib.hid (A6.out.alloc (.cells #[.slice Ab mr.length cb] 46))
    have L7 := Lib.hid (Ln.one_new (c := cb) HH.out (by rw [ML.out]; have := b48.out; omega))
    refine (fill_any m (by rw [RR.out.same.M]; exact hm) (s.at_ t) (some ⟨w6.heap.size, 0, none⟩) 1 1 [⟨Ab, mr.length, cb, mr⟩] (by rw [RR.out.same.S]; have := AI.out; omega) (by rw [RR.out.same.S]; exact hS) (by omega) L7.out
      (fun x hx => by simp at hx; subst hx; show (mr.length : Int) = _; rw [ML.out, RR.out.same.b]; have := b48.out; omega) (fun x hx e => by injection hx with hx; subst hx; have := A6.out.lt _ e; simp at this) (fun x hx a ha => by simp at hx; subst hx; exact (HB1.out a ha).1) A7.out (by have := RR.out.u.2; omega)).mono ?_
    rintro e w8 ⟨er, s2, rfl, hD, hf⟩
    have B7 := Lib.hid (B6.out.alloc (.cells #[.slice Ab mr.length cb] 46))
    have D8 := Lib.hid (hD.trans (O := O) (w := w) (fun _ h => .inl h) B7.out)
    have X := Lib.hid (show MendAs m (s.at_ t) s s2 er from .done er s1 RR.out HS1.out (by rw [MR.out]; exact hf))
    clear hD hf
    go_wp2
    go_ret
    exact ⟨er, s2, rfl, D8.out, X.out⟩
theorem asserts (a : Addr) (w : World) : (Instr.typeAssert (.iface 39 (.pointer (some a))) 96 99 true).run Try.prog w = .ok (.tuple #[.iface 39 (.pointer (some a)), .bool true]) w := by kernel_rfl
theorem Replace_any (m : Nat) (hm : m < s.M) (hst : s.stale = (m : Int)) (hbr : s.broken = false) (h : Arr w P O s) :
    Calls Try.prog 25 #[ptr P.a, .int .i64 (m : Int)] w fun e w' => e = .returned (.int .i64 0) ∧ Arr w' P O (s.hurt m (blank (s.d m).sectors (s.d m).size)) ∧ But O w w' := by
  have HA := Lib.hid h
  have HS := Lib.hid hst
  have hmeth := meth_blank
  have has_ := asserts
  have hM := h.many
  have md : decide (0 ≤ (m : Int) ∧ (m : Int) < (s.M : Int)) = true := decide_eq_true (by omega)
  obtain ⟨c6, c7, c8⟩ := h.cells
  rw [hbr] at c8
  clear h hst hbr
  go_enter Try.func25, Try.ntmps25
  go_wp2_with fail
  refine (inside_any (m : Int) (s.M : Int) w).mono ?_
  rintro e w1 ⟨rfl, hw1⟩
  rw [hw1, md]
  clear md c6 c7 c8 hw1
  go_wp2_with fail
  refine (stale_any HA.out).mono ?_
  rintro e w2 ⟨rfl, hbl⟩
  have A2 := Lib.hid (HA.out.up hbl)
  have B2 := Lib.hid (But.of_below (S := O) hbl)
  rw [HS.out]
  obtain ⟨c6, c7, c8⟩ := A2.out.cells
  have cr := A2.out.row hm
  have m2 : (m : Int) < (s.M : Int) := by omega
  clear hbl c7 c8
  go_wp2_with fail
  refine (dblank m hm A2.out).mono ?_
  rintro e w3 ⟨rfl, k1, k2⟩
  have A3 := Lib.hid k1
  have B3 := Lib.hid (B2.out.trans k2 (fun _ h _ => h))
  clear k1 k2 c6 cr
  go_wp2
  go_ret
  exact ⟨rfl, A3.out, B3.out⟩
end
end Go.Proofs.Ytapbphkhbhcdkaa
