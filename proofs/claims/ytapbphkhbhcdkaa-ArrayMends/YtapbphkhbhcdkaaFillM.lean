/-
  THE WALKS OF fill, Mend AND Replace.
-/
import Derived.Test.YtapbphkhbhcdkaaBrk
namespace Go.Proofs.Ytapbphkhbhcdkaa
open Go.RowKit Go.Maps
set_option linter.unusedVariables false
set_option maxRecDepth 100000

section
variable {w w' : World} {A : Option Addr} {n : Nat} {vs : List Value} {L : List Sl} {S : Nat → Prop}
theorem Row.but (h : Row w A n vs) (hb : But S w w') (hn : ∀ x, A = some x → ¬ S x.block) : Row w' A n vs :=
  h.keep hb.size fun b off e hlt k => hb.cell (p := ⟨b, k, none⟩) hlt (hn ⟨b, off, none⟩ e)
theorem Ln.but (h : Ln w A n L) (hb : But S w w') (hn : ∀ x, A = some x → ¬ S x.block) (hL : ∀ x ∈ L, ∀ a, x.A = some a → ¬ S a.block) : Ln w' A n L :=
  ⟨h.row.but hb hn, fun x hx => (h.has x hx).but hb (hL x hx), h.cap, h.few⟩
end
/-- What is read, with some sectors others. -/
def fillR (R : Int → Bytes) (lo : Int) (l : List Bytes) : Int → Bytes := fun x => if lo ≤ x ∧ x < lo + (l.length : Int) then l.getD (x - lo).toNat [] else R x
theorem fillR_nil (R : Int → Bytes) (lo : Int) : fillR R lo [] = R := by
  funext x
  unfold fillR
  rw [if_neg (fun h => by have h1 := h.1; have h2 := h.2; simp at h2; omega)]
theorem fillR_push (R : Int → Bytes) (lo : Int) (l : List Bytes) (b : Bytes) : fillR R lo (l ++ [b]) = with1 (fillR R lo l) (lo + (l.length : Int)) b := by
  have hfl : ∀ (l : List Bytes) (x : Int), fillR R lo l x = if lo ≤ x ∧ x < lo + (l.length : Int) then l.getD (x - lo).toNat [] else R x := fun _ _ => rfl
  funext x
  unfold with1
  rw [hfl, hfl]
  by_cases e : x = lo + (l.length : Int)
  · rw [if_pos e, if_pos (by simp; omega), List.getD_eq_getElem?_getD, show (x - lo).toNat = l.length by omega]
    simp
  · rw [if_neg e]
    by_cases e2 : lo ≤ x ∧ x < lo + (l.length : Int)
    · rw [if_pos e2, if_pos (by simp; omega), List.getD_eq_getElem?_getD, List.getD_eq_getElem?_getD, List.getElem?_append_left (by omega)]
    · rw [if_neg e2, if_neg (by simp; omega)]
/-- Sectors of member m were written, from lo on. -/
structure Fills (m : Nat) (lo : Int) (l : List Bytes) (s s' : AS) (er : Int) : Prop where
  same : s' = { s with d := s'.d, u := s'.u }
  other : ∀ j, j ≠ m → s'.d j = s.d j
  u : s.u ≤ s'.u ∧ s'.u ≤ s.u + (l.length : Int)
  turns : Turns (fillR (s.d m).read lo l) (s.d m) (s'.d m)
  er : (er = 0 ∧ (0 < l.length → (s'.d m).dead = false)) ∨ (er = 8 ∧ (s'.d m).dead = true)
section
variable {w w' : World} {P : Pl} {O : Nat → Prop} {s s' : AS} {m : Nat} {lo er : Int} {l : List Bytes}
theorem Fills.same_ (h : Fills m lo l s s' er) : Same s s' := by have := h.same; unfold Same; rw [this]
theorem Fills.stale (h : Fills m lo l s s' er) : s'.stale = s.stale := by rw [h.same]
theorem Fills.broken (h : Fills m lo l s s' er) : s'.broken = s.broken := by rw [h.same]
theorem Fills.nil (s : AS) (m : Nat) (lo : Int) : Fills m lo [] s s 0 := ⟨rfl, fun _ _ => rfl, by simp, by rw [fillR_nil]; exact (Aged.refl _).turns, .inl ⟨rfl, fun h => by simp at h⟩⟩
theorem Fills.push (h : Fills m lo l s s' 0) (b : Bytes) : Fills m lo (l ++ [b]) s (s'.turn m ((s'.d m).put s'.u (lo + (l.length : Int)) b)) (err ((s'.d m).op s'.u).dead) := by
  have hp := put_turns (s'.d m) s'.u (lo + (l.length : Int)) b
  have hd := put_dead (s'.d m) s'.u (lo + (l.length : Int)) b
  have em : (s'.turn m ((s'.d m).put s'.u (lo + (l.length : Int)) b)).d m = (s'.d m).put s'.u (lo + (l.length : Int)) b := by rw [turn_d, if_pos rfl]
  refine ⟨?_, fun j hj => ?_, ?_, ?_, ?_⟩
  · have := h.same
    rw [this]
    rfl
  · rw [turn_d, if_neg hj]; exact h.other j hj
  · have := h.u
    show s.u ≤ s'.u + 1 ∧ s'.u + 1 ≤ s.u + ((l ++ [b]).length : Int)
    simp
    omega
  · rw [em]
    refine (h.turns.trans hp).congr (fun e x => ?_)
    have e2 : (s'.d m).dead = false := by
      cases hc : (s'.d m).dead with
      | false => rfl
      | true => have := hp.dies hc; rw [e] at this; cases this
    rw [fillR_push]
    unfold with1
    split
    · rfl
    · exact h.turns.read e2 x
  · rw [em]
    cases hc : ((s'.d m).op s'.u).dead with
    | false => exact .inl ⟨rfl, fun _ => by rw [hd]; exact hc⟩
    | true => exact .inr ⟨rfl, by rw [hd]; exact hc⟩
theorem Fills.sound (h : Fills m lo l s s' er) {k : Nat} (hs : Sound k s) (hk : k = m) : Sound k s' :=
  ⟨h.broken.trans hs.whole, by rw [h.stale]; exact hs.stale, fun i hi hne => by
    rw [h.other i (by omega)]
    rw [h.same_.M] at hi
    exact hs.live i hi hne⟩
theorem Fills.inv {H : Hv} (h : Fills m lo l s s' er) (hs : s.stale = (m : Int)) (hi : Inv s H) : Inv s' H := by
  intro j hj hne t f h0 h1 hf
  have sm := h.same_
  rw [h.stale, hs] at hne
  rw [sm.M] at hj
  rw [sm.N] at h1
  rw [sm.M, sm.b, sm.at_, h.other j (by omega)]
  exact hi j hj (by rw [hs]; exact hne) t f h0 h1 hf

set_option maxHeartbeats 1600000 in
theorem fill_any (m : Nat) (hm : m < s.M) (lo : Int) (A : Option Addr) (n c : Nat) (L : List Sl) (hlo : 0 ≤ lo ∧ lo + (n : Int) ≤ (s.S : Int)) (hS : (s.S : Int) ≤ 2000000000) (hn : n ≤ 100000) (hL : Ln w A n L) (hF : Fits L s.b) (hA : ∀ x, A = some x → ¬ O x.block) (hO : ∀ x ∈ L, ∀ a, x.A = some a → ¬ O a.block) (h : Arr w P O s) (hu : s.u ≤ 700000) :
    Calls Try.prog 54 #[ptr P.a, .int .i64 (m : Int), .int .i64 lo, .slice A n c] w fun e w' => ∃ er s', e = .returned (.int .i64 er) ∧ Did w P O s' w' ∧ Fills m lo (L.map Sl.l) s s' er := by
  have HA := Lib.hid h
  have HL := Lib.hid hL
  have HF := Lib.hid hF
  have HX := Lib.hid hA
  have HO := Lib.hid hO
  have hM := h.many
  have md : decide (0 ≤ (m : Int) ∧ (m : Int) < (s.M : Int)) = true := decide_eq_true (by omega)
  obtain ⟨c6, c7, c8⟩ := h.cells
  clear h hL hF hA hO c7 c8
  go_enter Try.func54, Try.ntmps54
  go_wp2_with fail
  refine (inside_any (m : Int) (s.M : Int) w).mono ?_
  rintro e w1 ⟨rfl, hw1⟩
  rw [hw1, md]
  clear md c6 hw1
  go_wp2_with fail
  go_loopw [21] (fun i wr => ∃ j : Nat, j ≤ n ∧ i = .int .i64 (j : Int) ∧ ∃ O' s', Arr wr P O' s' ∧ (∀ k, O' k → O k ∨ w.heap.size ≤ k) ∧ But O w wr ∧ Fills m lo ((L.map Sl.l).take j) s s' 0) (fun i _ => n - (RowKit.intOf i).toNat)
  case atStart => exact ⟨0, Nat.zero_le _, rfl, O, s, HA.out, fun _ h => .inl h, But.refl _ _, Fills.nil s m lo⟩
  case round =>
    obtain ⟨j, hj, rfl, O1, s1, k1, k2, k3, k4⟩ := hrel
    have A1 := Lib.hid k1
    have O1H := Lib.hid k2
    have B1 := Lib.hid k3
    have F1 := Lib.hid k4
    clear k1 k2 k3 k4
    have ln1 : (L.map Sl.l).length = n := by rw [List.length_map]; exact HL.out.len
    by_cases hlt : j < n
    · obtain ⟨hjl, b, off, rfl, hc, hh, hx⟩ := (HL.out.but B1.out HX.out HO.out).one hlt
      have HH := Lib.hid hh
      have HN := Lib.hid (show (L[j].n : Int) = s1.b by rw [F1.out.same_.b]; exact HF.out _ (List.getElem_mem hjl))
      have hjl2 : j < (L.map Sl.l).length := by rw [ln1]; exact hlt
      have TK := Lib.hid (show (L.map Sl.l).take (j + 1) = (L.map Sl.l).take j ++ [L[j].l] by
        have := List.take_succ_eq_append_getElem hjl2
        rw [this, List.getElem_map])
      have TL := Lib.hid (show ((L.map Sl.l).take j).length = j by rw [List.length_take]; omega)
      clear hh hjl2 ln1
      generalize L[j] = y at *
      obtain ⟨yA, yn, yc, yl⟩ := y
      simp only at hc hx
      have ew : IntKind.i64.wrap (lo + (j : Int)) = lo + (j : Int) := wrap_of (by omega) (by omega)
      go_wp2_with fail
      refine (write_any m (by rw [F1.out.same_.M]; exact hm) (lo + (j : Int)) (by rw [F1.out.same_.S]; omega) yA yn yc yl HN.out HH.out A1.out (by have := F1.out.u.2; rw [TL.out] at this; omega)).mono ?_
      rintro e w2 ⟨rfl, hD⟩
      have FP := F1.out.push yl
      rw [← TK.out, TL.out] at FP
      obtain ⟨O2, k1, k2, k3⟩ := hD
      have O2H := Lib.hid (show ∀ k, O2 k → O k ∨ w.heap.size ≤ k from fun k hk => (k2 k hk).elim (O1H.out k) (fun h => .inr (Nat.le_trans B1.out.size h)))
      have B2 := Lib.hid (show But O w w2 from B1.out.trans k3 (fun k hk hlt => (O1H.out k hk).elim id (fun h => by omega)))
      have A2 := Lib.hid k1
      have FH := Lib.hid FP
      clear k1 k2 k3 FP ew hc
      obtain ⟨dd, hdd⟩ : ∃ dd, ((s1.d m).op s1.u).dead = dd := ⟨_, rfl⟩
      rw [hdd] at FH ⊢
      clear hdd
      cases dd with
      | false =>
        rw [show err false = 0 from rfl] at FH ⊢
        go_wp2
        go_roundw
        case rel => exact ⟨j + 1, by omega, by go_num, O2, _, A2.out, O2H.out, B2.out, FH.out⟩
        case measure => simp [RowKit.intOf]; omega
      | true =>
        rw [show err true = 8 from rfl] at FH ⊢
        have FE := Lib.hid (show Fills m lo (L.map Sl.l) s (s1.turn m ((s1.d m).put s1.u (lo + (j : Int)) yl)) 8 from
          ⟨FH.out.same, FH.out.other, ⟨FH.out.u.1, by have := FH.out.u.2; rw [List.length_take] at this; omega⟩, FH.out.turns.congr (fun e => by
            rcases FH.out.er with ⟨e1, _⟩ | ⟨_, e1⟩
            · cases e1
            · rw [e] at e1; cases e1), FH.out.er.elim (fun h => by cases h.1) .inr⟩)
        go_wp2
        go_ret
        exact ⟨8, _, rfl, ⟨O2, A2.out, O2H.out, B2.out⟩, FE.out⟩
    · obtain rfl : j = n := by omega
      have FE := F1.out
      rw [List.take_of_length_le (by omega)] at FE
      go_wp2
      go_ret
      exact ⟨0, s1, rfl, ⟨O1, A1.out, O1H.out, B1.out⟩, FE⟩
end

theorem Ln.one_new {w : World} {A : Option Addr} {n c : Nat} {l : Bytes} (h : Has w A n l) (hn : n ≤ 48) : Ln (w.alloc (.cells #[.slice A n c] 46)) (some ⟨w.heap.size, 0, none⟩) 1 [⟨A, n, c, l⟩] :=
  ⟨⟨rfl, fun _ => ⟨w.heap.size, 0, rfl, by simp, fun k hk => by
    have hk0 : k = 0 := by simpa using hk
    subst hk0
    exact (At.new #[.slice A n c] 46 rfl).cell 0⟩⟩, fun x hx => by simp at hx; subst hx; exact h.below ((Below.refl _ _).alloc (Nat.le_refl _) _), fun x hx => by simp at hx; subst hx; show n ≤ 140737488355328; omega, by decide⟩
inductive MendAs (m : Nat) (i : Int) (s s' : AS) : Int → Prop
  | done (er : Int) (s1 : AS) (hr : Rel (fun _ => Aged) 10 s s1) (hs : s1.stale = (m : Int)) (hf : Fills m i [mend s m i] s1 s' er) : MendAs m i s s' er
  | gone (hg : Gone 10 s s') : MendAs m i s s' 3
section
variable {w w' : World} {P : Pl} {O : Nat → Prop} {s s' : AS}
set_option maxHeartbeats 1600000 in
theorem Mend_any (t : Int) (m : Nat) (ht : 0 ≤ t ∧ t < s.N) (hm : m < s.M) (hst : s.stale = (m : Int)) (hbr : s.broken = false) (h : Arr w P O s) (hS : (s.S : Int) ≤ 2000000000) (hu : s.u ≤ 600000) :
    Calls Try.prog 24 #[ptr P.a, .int .i64 t] w fun e w' => ∃ er s', e = .returned (.int .i64 er) ∧ Did w P O s' w' ∧ MendAs m (s.at_ t) s s' er := by
  have HA := Lib.hid h
  have HS := Lib.hid hst
  have HB := Lib.hid hbr
  have TT := Lib.hid ht
  have t1 : decide (0 ≤ t ∧ t < s.N) = true := decide_eq_true ht
  have AI := Lib.hid (show 0 ≤ s.at_ t ∧ s.at_ t < (s.S : Int) by
    have h1 := h.wf.sect
    have h2 := h.wf.some_
    unfold AS.at_
    unfold AS.N at ht
    omega)
  have b48 := Lib.hid h.wf.small.hb
  obtain ⟨c0, c1, c2, c3, c4, c5⟩ := h.shape
  clear h hst hbr ht
  go_enter Try.func24, Try.ntmps24
  go_wp2_with fail
  refine (all_call HA.out.wf w).mono ?_
  rintro e w1 ⟨rfl, hbl⟩
  have A1 := Lib.hid (HA.out.up hbl)
  have B1 := Lib.hid (But.of_below (S := O) hbl)
  clear hbl c0 c1 c2 c3 c4 c5
  go_wp2_with fail
  refine (inside_any t s.N w1).mono ?_
  rintro e w2 ⟨rfl, hw2⟩
  rw [hw2, t1]
  clear t1 hw2
  go_wp2_with fail
  refine (mendable_any A1.out).mono ?_
  rintro e w3 ⟨rfl, hbl⟩
  have A3 := Lib.hid (A1.out.up hbl)
  have B3 := Lib.hid (B1.out.trans (But.of_below (S := fun _ => False) hbl) (fun _ h _ => h.elim))
  rw [show (if s.broken = true then (3 : Int) else if s.stale = -1 then 10 else 0) = 0 by rw [if_neg (by rw [HB.out]; simp), if_neg (by have := HS.out; omega)]]
  clear hbl
  go_wp2_with fail
  have S0 : (fun w' : World => w'.rangeAt P.a 0 s.sh) w3.drew := A3.out.drew.range
  refine wp_region_early (fun w' : World => w'.rangeAt P.a 0 s.sh) (fun _ => true) (by kernel_rfl) ?_
  change wpEarly _ _ _ _ _ _ 10 (Array.replicate 10 false) _ w3.drew
  refine early_take (i := 0) 23 (ptr P.a) rfl rfl (by kernel_rfl) (by kernel_rfl) (by kernel_rfl) (by kernel_rfl) rfl (fun _ _ _ h => h) (fun w' hw' => by go_simp) S0 ?_
  simp only [Act.put, List.setIfInBounds_toArray, List.set_cons_zero, List.set_cons_succ]
  refine early_take (i := 2) 25 (ptr P.a) rfl rfl (by kernel_rfl) (by kernel_rfl) (by kernel_rfl) (by kernel_rfl) rfl (fun _ _ _ h => h) (fun w' hw' => by go_simp) S0 ?_
  simp only [Act.put, List.setIfInBounds_toArray, List.set_cons_zero, List.set_cons_succ]
  refine early_take (i := 3) 26 (ptr P.a) rfl rfl (by kernel_rfl) (by kernel_rfl) (by kernel_rfl) (by kernel_rfl) rfl (fun _ _ _ h => h) (fun w' hw' => by go_simp) S0 ?_
  simp only [Act.put, List.setIfInBounds_toArray, List.set_cons_zero, List.set_cons_succ]
  refine early_take (i := 4) 27 (ptr P.a) rfl rfl (by kernel_rfl) (by kernel_rfl) (by kernel_rfl) (by kernel_rfl) rfl (fun _ _ _ h => h) (fun w' hw' => by go_simp) S0 ?_
  simp only [Act.put, List.setIfInBounds_toArray, List.set_cons_zero, List.set_cons_succ]
  refine early_take (i := 5) 28 (sv (s.M : Int) s.b s.g s.s s.n s.l) rfl rfl (by kernel_rfl) (by kernel_rfl) (by kernel_rfl) (by kernel_rfl) rfl (fun _ _ _ h => h) (fun w' hw' => exec_shape (s := s) (x := .tmp 27) rfl rfl hw') S0 ?_
  simp only [Act.put, List.setIfInBounds_toArray, List.set_cons_zero, List.set_cons_succ]
  refine early_take (i := 6) 29 (.int .i64 t) rfl rfl (by kernel_rfl) (by kernel_rfl) (by kernel_rfl) (by kernel_rfl) rfl (fun _ _ _ h => h) (fun w' hw' => by go_simp) S0 ?_
  simp only [Act.put, List.setIfInBounds_toArray, List.set_cons_zero, List.set_cons_succ]
  refine early_only (i := 1) (by kernel_rfl) rfl (fun K hK => ?_)
  simp only [opWp, List.getElem?_toArray, List.getElem?_cons_succ, List.getElem?_cons_zero]
  go_simp
  go_at_call 18
  refine (stale_any A3.out.drew).mono ?_
  rintro e w4 ⟨rfl, hbl⟩
  have A4 := Lib.hid (A3.out.drew.up hbl)
  have B4 := Lib.hid (B3.out.trans (But.of_drewN 1 (But.of_below (S := fun _ => False) hbl)) (fun _ h _ => h.elim))
  have S1 : (fun w' : World => w'.rangeAt P.a 0 s.sh) w4 := A4.out.range
  rw [HS.out]
  clear hbl
  refine hK _ _ (fun _ => S1) ?_
  refine early_only (i := 7) (by kernel_rfl) rfl (fun K hK => ?_)
  simp only [opWp, List.getElem?_toArray, List.getElem?_cons_succ, List.getElem?_cons_zero]
  go_simp
  go_at_call 34
  refine (at_call A4.out.wf t (by have := TT.out; have := A4.out.wf.n; omega) _).mono ?_
  rintro e w5 ⟨rfl, hbl⟩
  have A5 := Lib.hid (A4.out.up hbl)
  have B5 := Lib.hid (B4.out.trans (But.of_below (S := fun _ => False) hbl) (fun _ h _ => h.elim))
  have S2 : (fun w' : World => w'.rangeAt P.a 0 s.sh) w5 := A5.out.range
  clear hbl
  refine hK _ _ (fun _ => S2) ?_
  refine early_take (i := 8) 6 (.int .i64 (m : Int)) rfl rfl (by kernel_rfl) (by kernel_rfl) (by kernel_rfl) (by kernel_rfl) rfl (fun _ _ _ h => h) (fun w' hw' => by go_simp) S2 ?_
  simp only [Act.put, List.setIfInBounds_toArray, List.set_cons_zero, List.set_cons_succ]
  refine early_take (i := 9) 7 (.int .i64 (s.at_ t)) rfl rfl (by kernel_rfl) (by kernel_rfl) (by kernel_rfl) (by kernel_rfl) rfl (fun _ _ _ h => h) (fun w' hw' => by go_simp) S2 ?_
  simp only [Act.put, List.setIfInBounds_toArray, List.set_cons_zero, List.set_cons_succ]
  refine early_done (by kernel_rfl) ?_
  clear S0 S1 S2
  go_wp2_with fail
  refine (restore_any m hm (s.at_ t) AI.out HS.out HB.out A5.out (by omega)).mono ?_
  rintro e w6 ⟨v, er, s1, rfl, k1, k2, k3⟩
  have A6 := Lib.hid k1
  have B6 := Lib.hid (B5.out.trans k2 (fun _ h _ => h))
  have R6 := Lib.hid k3
  have Z5 := Lib.hid A5.out.lt
  clear k1 k2 k3
  have R7 := R6.out
  cases R7 with
  | gone hg =>
    have X := Lib.hid (show MendAs m (s.at_ t) s s1 3 from .gone hg)
    clear hg R6
    go_wp2
    go_ret
    exact ⟨3, s1, rfl, ⟨O, A6.out, fun _ h => .inl h, B6.out⟩, X.out⟩
  | got v hr hs hv =>
    have RR := Lib.hid hr
    have HS1 := Lib.hid hs
    obtain ⟨Ab, cb, rfl, hh, _, hlt1⟩ := own_form hv
    have ML := Lib.hid (show (mend s m (s.at_ t)).length = s.b.toNat from xorB_len _ _ _)
    obtain ⟨mr, hmr⟩ : ∃ mr, mend s m (s.at_ t) = mr := ⟨_, rfl⟩
    have MR := Lib.hid hmr
    rw [hmr] at hh ML ⊢
    have HH := Lib.hid hh
    have HB1 := Lib.hid (show ∀ x, Ab = some x → ¬ O x.block ∧ x.block < w6.heap.size from fun x hx => ⟨fun e => by have := (hlt1 x hx).1; have := Z5.out _ e; omega, (hlt1 x hx).2⟩)
    clear hr hs hv hh hlt1 R6 hmr
    go_wp2_with fail
    have A7 := Lib.hid (A6.out.alloc (.cells #[.slice Ab mr.length cb] 46))
    have L7 := Lib.hid (Ln.one_new (c := cb) HH.out (by rw [ML.out]; have := b48.out; omega))
    refine (fill_any m (by rw [RR.out.same.M]; exact hm) (s.at_ t) (some ⟨w6.heap.size, 0, none⟩) 1 1 [⟨Ab, mr.length, cb, mr⟩] (by rw [RR.out.same.S]; have := AI.out; omega) (by rw [RR.out.same.S]; exact hS) (by omega) L7.out
      (fun x hx => by simp at hx; subst hx; show (mr.length : Int) = _; rw [ML.out, RR.out.same.b]; have := b48.out; omega) (fun x hx e => by injection hx with hx; subst hx; have := A6.out.lt _ e; simp at this) (fun x hx a ha => by simp at hx; subst hx; exact (HB1.out a ha).1) A7.out (by have := RR.out.u.2; omega)).mono ?_
    rintro e w8 ⟨er, s2, rfl, hD, hf⟩
    have B7 := Lib.hid (B6.out.alloc (.cells #[.slice Ab mr.length cb] 46))
    have D8 := Lib.hid (hD.trans (O := O) (w := w) (fun _ h => .inl h) B7.out)
    have X := Lib.hid (show MendAs m (s.at_ t) s s2 er from .done er s1 RR.out HS1.out (by rw [MR.out]; exact hf))
    clear hD hf
    go_wp2
    go_ret
    exact ⟨er, s2, rfl, D8.out, X.out⟩
theorem asserts (a : Addr) (w : World) : (Instr.typeAssert (.iface 39 (.pointer (some a))) 96 99 true).run Try.prog w = .ok (.tuple #[.iface 39 (.pointer (some a)), .bool true]) w := by kernel_rfl
theorem Replace_any (m : Nat) (hm : m < s.M) (hst : s.stale = (m : Int)) (hbr : s.broken = false) (h : Arr w P O s) :
    Calls Try.prog 25 #[ptr P.a, .int .i64 (m : Int)] w fun e w' => e = .returned (.int .i64 0) ∧ Arr w' P O (s.hurt m (blank (s.d m).sectors (s.d m).size)) ∧ But O w w' := by
  have HA := Lib.hid h
  have HS := Lib.hid hst
  have hmeth := meth_blank
  have has_ := asserts
  have hM := h.many
  have md : decide (0 ≤ (m : Int) ∧ (m : Int) < (s.M : Int)) = true := decide_eq_true (by omega)
  obtain ⟨c6, c7, c8⟩ := h.cells
  rw [hbr] at c8
  clear h hst hbr
  go_enter Try.func25, Try.ntmps25
  go_wp2_with fail
  refine (inside_any (m : Int) (s.M : Int) w).mono ?_
  rintro e w1 ⟨rfl, hw1⟩
  rw [hw1, md]
  clear md c6 c7 c8 hw1
  go_wp2_with fail
  refine (stale_any HA.out).mono ?_
  rintro e w2 ⟨rfl, hbl⟩
  have A2 := Lib.hid (HA.out.up hbl)
  have B2 := Lib.hid (But.of_below (S := O) hbl)
  rw [HS.out]
  obtain ⟨c6, c7, c8⟩ := A2.out.cells
  have cr := A2.out.row hm
  have m2 : (m : Int) < (s.M : Int) := by omega
  clear hbl c7 c8
  go_wp2_with fail
  refine (dblank m hm A2.out).mono ?_
  rintro e w3 ⟨rfl, k1, k2⟩
  have A3 := Lib.hid k1
  have B3 := Lib.hid (B2.out.trans k2 (fun _ h _ => h))
  clear k1 k2 c6 cr
  go_wp2
  go_ret
  exact ⟨rfl, A3.out, B3.out⟩
end
end Go.Proofs.Ytapbphkhbhcdkaa
