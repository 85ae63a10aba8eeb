/-
  TEXTS JOINED: VolW, L14Find.
-/
import Derived.Test.YtplmdmchkaacoaaGreatJ36
import Derived.Test.YtplmdmchkaacoaaGreatJ31
import Derived.Test.YtplmdmchkaacoaaGreatJ20
import Derived.Test.YtplmdmchkaacoaaGreatJ22
import Derived.Test.YtplmdmchkaacoaaGreatJ28
import Derived.Test.YtplmdmchkaacoaaGreatJ29
import Derived.Deep.CutRange

/-
  WHAT A NOTE TURNS KEEPS A LOG WHAT IT IS: plain mathematics.
-/
namespace Go.Proofs.YtplmdmchkaacoaaGreat
open Go.RowKit
open L7 (Rr Rc)
open L12 (Sg)
open L13 (setN)
open L14 (vw upTo Up)
set_option linter.unusedVariables false
set_option maxRecDepth 100000

theorem put_get (T : List Sg) (i : Int) (f : Sg → Sg) (j : Nat) (h : j < T.length) : (L12.put T i f)[j]'(by rw [L12.put_len]; exact h) = if (j : Int) = i then f T[j] else T[j] := by
  unfold L12.put
  by_cases h0 : 0 ≤ i ∧ i < (T.length : Int)
  · simp only [h0, and_self, dite_true]
    rw [List.getElem_set]
    by_cases e : i.toNat = j
    · subst e
      rw [if_pos rfl, if_pos (by omega)]
    · rw [if_neg e, if_neg (by omega)]
  · simp only [h0, dite_false]
    rw [if_neg (by omega)]
theorem liv_len (a : AS) (T : List Sg) (p m : Int) : (liv a T p m).length = T.length := by
  unfold liv
  split
  · rfl
  · exact L12.put_len _ _ _
theorem liv_get (a : AS) (T : List Sg) (p m : Int) (j : Nat) (h : j < T.length) : (liv a T p m)[j]'(by rw [liv_len]; exact h) = ⟨T[j].st, T[j].lv + (if p ≠ -1 ∧ p / ((a.M : Int) - 2) / a.s = (j : Int) then m else 0), T[j].bo⟩ := by
  unfold liv
  by_cases e : p = -1
  · simp only [e, if_true, ne_eq, not_true_eq_false, false_and, if_false, Int.add_zero]
  · simp only [e, if_false, ne_eq, not_false_eq_true, true_and]
    rw [put_get T _ _ j h]
    by_cases e2 : p / ((a.M : Int) - 2) / a.s = (j : Int)
    · rw [if_pos e2.symm, if_pos e2]
    · rw [if_neg (fun e => e2 e.symm), if_neg e2, Int.add_zero]

section
variable {x : LS}
theorem small_nats {s : AS} (h : s.Wf) : (s.sl : Int) = (s.M : Int) - 2 ∧ (s.k : Int) = s.s ∧ (s.lb : Int) = s.l ∧ (s.gs : Int) = s.g ∧ (s.nb : Int) = s.b := by
  have h1 := h.small.hm; have h2 := h.small.hs; have h3 := h.small.hl; have h4 := h.small.hg; have h5 := h.small.hb
  unfold AS.sl AS.k AS.lb AS.gs AS.nb
  omega
theorem remap_in {b : Nat} (hb : (b : Int) < x.a.l) (p : Int) : x.remap (b : Int) p = { x with V := setN x.V b p, T := liv x.a (liv x.a x.T (x.V b) (-1)) p 1 } := by
  unfold LS.remap
  rw [if_pos ⟨by omega, hb⟩]
  simp
theorem remap_off {b : Int} (hb : ¬ (0 ≤ b ∧ b < x.a.l)) (p : Int) : x.remap b p = x := if_neg hb
theorem remap_wf (h : x.Wf) (ha : x.a.Wf) (b p : Int) (hp : -1 ≤ p ∧ p < x.a.N * ((x.a.M : Int) - 2)) : (x.remap b p).Wf := by
  by_cases hb : 0 ≤ b ∧ b < x.a.l
  · obtain ⟨k, rfl⟩ := Int.eq_ofNat_of_zero_le hb.1
    rw [remap_in hb.2]
    obtain ⟨n1, n2, n3, n4, n5⟩ := small_nats ha
    refine ⟨?_, h.sg, h.ix, ?_, ?_, h.ok, h.up, h.few, h.dur, h.rl, h.top⟩
    · rw [← h.T]
      show ((liv _ (liv _ _ _ _) _ _).length : Int) = _
      rw [liv_len, liv_len]
    · intro i
      show -1 ≤ setN x.V k p i ∧ setN x.V k p i < _
      by_cases e : i = k
      · subst e; rw [L13.setN_same]; exact hp
      · rw [L13.setN_other _ _ e]; exact h.V i
    · intro i hi
      have hi1 : i < x.T.length := by rw [show ({ x with V := setN x.V k p, T := liv x.a (liv x.a x.T (x.V k) (-1)) p 1 } : LS).T = liv x.a (liv x.a x.T (x.V k) (-1)) p 1 from rfl, liv_len, liv_len] at hi; exact hi
      show ((liv x.a (liv x.a x.T (x.V k) (-1)) p 1)[i]).lv = (lives (setN x.V k p) x.a.sl x.a.k x.a.lb i : Int)
      rw [liv_get _ _ _ _ i (by rw [liv_len]; exact hi1), liv_get _ _ _ _ i hi1, lives_set _ _ _ _ _ _ _ (by omega), ← h.lv i hi1]
      simp only [n1, n2]
      by_cases c : x.V k ≠ -1 ∧ x.V k / ((x.a.M : Int) - 2) / x.a.s = (i : Int)
      · rw [if_pos c, if_pos c]; omega
      · rw [if_neg c, if_neg c]; omega
  · rw [remap_off hb]; exact h
theorem remap_same (b p : Int) : (x.remap b p).a = x.a ∧ (x.remap b p).recs = x.recs ∧ (x.remap b p).seg = x.seg ∧ (x.remap b p).idx = x.idx ∧ (x.remap b p).T.length = x.T.length ∧ (x.remap b p).T.map Sg.st = x.T.map Sg.st ∧ (x.remap b p).T.map Sg.bo = x.T.map Sg.bo := by
  by_cases hb : 0 ≤ b ∧ b < x.a.l
  · obtain ⟨k, rfl⟩ := Int.eq_ofNat_of_zero_le hb.1
    rw [remap_in hb.2]
    refine ⟨rfl, rfl, rfl, rfl, by show (liv _ (liv _ _ _ _) _ _).length = _; rw [liv_len, liv_len], ?_, ?_⟩
    · apply List.ext_getElem
      · show ((liv _ (liv _ _ _ _) _ _).map _).length = _
        rw [List.length_map, List.length_map, liv_len, liv_len]
      · intro i h1 h2
        rw [List.length_map] at h2
        show ((liv x.a (liv x.a x.T (x.V k) (-1)) p 1).map Sg.st)[i] = _
        rw [List.getElem_map, List.getElem_map, liv_get _ _ _ _ i (by rw [liv_len]; exact h2), liv_get _ _ _ _ i h2]
    · apply List.ext_getElem
      · show ((liv _ (liv _ _ _ _) _ _).map _).length = _
        rw [List.length_map, List.length_map, liv_len, liv_len]
      · intro i h1 h2
        rw [List.length_map] at h2
        show ((liv x.a (liv x.a x.T (x.V k) (-1)) p 1).map Sg.bo)[i] = _
        rw [List.getElem_map, List.getElem_map, liv_get _ _ _ _ i (by rw [liv_len]; exact h2), liv_get _ _ _ _ i h2]
  · rw [remap_off hb]; exact ⟨rfl, rfl, rfl, rfl, rfl, rfl, rfl⟩

theorem enter_wf (h : x.Wf) (ha : x.a.Wf) (e : L9.En) (p : Int) (hp : -1 ≤ p ∧ p < x.a.N * ((x.a.M : Int) - 2)) : (x.enter e p).Wf := by
  unfold LS.enter
  split
  · exact remap_wf h ha _ _ hp
  · split
    · exact remap_wf h ha _ _ ⟨by omega, by omega⟩
    · exact h
theorem enter_same (e : L9.En) (p : Int) : (x.enter e p).a = x.a ∧ (x.enter e p).recs = x.recs ∧ (x.enter e p).seg = x.seg ∧ (x.enter e p).idx = x.idx ∧ (x.enter e p).T.length = x.T.length ∧ (x.enter e p).T.map Sg.st = x.T.map Sg.st ∧ (x.enter e p).T.map Sg.bo = x.T.map Sg.bo := by
  unfold LS.enter
  split
  · exact remap_same _ _
  · split
    · exact remap_same _ _
    · exact ⟨rfl, rfl, rfl, rfl, rfl, rfl, rfl⟩
theorem enters_same (t : Int) (es : List L9.En) : ∀ j, (x.enters t es j).a = x.a ∧ (x.enters t es j).recs = x.recs ∧ (x.enters t es j).seg = x.seg ∧ (x.enters t es j).idx = x.idx ∧ (x.enters t es j).T.length = x.T.length ∧ (x.enters t es j).T.map Sg.st = x.T.map Sg.st ∧ (x.enters t es j).T.map Sg.bo = x.T.map Sg.bo
  | 0 => ⟨rfl, rfl, rfl, rfl, rfl, rfl, rfl⟩
  | j + 1 => by
    have ih := enters_same t es j
    unfold LS.enters
    split
    · split
      · have h1 := enter_same (x := x.enters t es j) es[j] (t * ((x.a.M : Int) - 2) + (j : Int))
        exact ⟨h1.1.trans ih.1, h1.2.1.trans ih.2.1, h1.2.2.1.trans ih.2.2.1, h1.2.2.2.1.trans ih.2.2.2.1, h1.2.2.2.2.1.trans ih.2.2.2.2.1, h1.2.2.2.2.2.1.trans ih.2.2.2.2.2.1, h1.2.2.2.2.2.2.trans ih.2.2.2.2.2.2⟩
      · exact ih
    · exact ih
theorem place_in (ha : x.a.Wf) {t : Int} (ht : 0 ≤ t ∧ t < x.a.N) {j : Nat} (hj : j < x.a.sl) : 0 ≤ t * ((x.a.M : Int) - 2) + (j : Int) ∧ t * ((x.a.M : Int) - 2) + (j : Int) < x.a.N * ((x.a.M : Int) - 2) := by
  obtain ⟨n1, _⟩ := small_nats ha
  have hm := ha.small.hm
  have h1 : 0 ≤ t * ((x.a.M : Int) - 2) := Int.mul_nonneg ht.1 (by omega)
  have h2 : (t + 1) * ((x.a.M : Int) - 2) ≤ x.a.N * ((x.a.M : Int) - 2) := Int.mul_le_mul_of_nonneg_right (by omega) (by omega)
  have h3 : (t + 1) * ((x.a.M : Int) - 2) = t * ((x.a.M : Int) - 2) + ((x.a.M : Int) - 2) := by rw [Int.add_mul, Int.one_mul]
  omega
theorem enters_wf (h : x.Wf) (ha : x.a.Wf) {t : Int} (ht : 0 ≤ t ∧ t < x.a.N) (es : List L9.En) : ∀ j, (x.enters t es j).Wf
  | 0 => h
  | j + 1 => by
    have ih := enters_wf h ha ht es j
    have sm := enters_same (x := x) t es j
    unfold LS.enters
    split
    · split
      · rename_i h1 h2
        have hp := place_in ha ht h2
        exact enter_wf ih (by rw [sm.1]; exact ha) _ _ (by rw [sm.1]; omega)
      · exact ih
    · exact ih
theorem stripe_in (h : x.Wf) (ha : x.a.Wf) : 0 ≤ x.stripe ∧ x.stripe < x.a.N := by
  have h1 := h.sg; have h2 := h.ix; have h3 := ha.small.hs; have h4 := ha.small.hg
  have m1 : 0 ≤ (x.seg : Int) * x.a.s := Int.mul_nonneg (by omega) (by omega)
  have m2 : ((x.seg : Int) + 1) * x.a.s ≤ x.a.g * x.a.s := Int.mul_le_mul_of_nonneg_right (by omega) (by omega)
  have m3 : ((x.seg : Int) + 1) * x.a.s = (x.seg : Int) * x.a.s + x.a.s := by rw [Int.add_mul, Int.one_mul]
  unfold LS.stripe AS.N
  omega
theorem turn_wf (h : x.Wf) (ha : x.a.Wf) (q z : Int) (hz : 0 ≤ z ∧ z < x.a.g) : (x.turn q z).Wf := by
  have hs := ha.small.hs
  refine ⟨?_, ?_, ?_, h.V, ?_, h.ok, h.up, h.few, h.dur, h.rl, h.top⟩
  · have e : (x.turn q z).T.length = x.T.length := by
      unfold LS.turn
      simp only [L12.put_len]
    rw [e]
    exact h.T
  · show (z.toNat : Int) < x.a.g
    omega
  · show ((0 : Nat) : Int) < x.a.s
    omega
  · intro i hi
    have hi1 : i < x.T.length := by rw [show (x.turn q z).T = L12.put (L12.put x.T (x.seg : Int) fun y => ⟨2, y.lv, q⟩) z (fun y => ⟨1, y.lv, y.bo⟩) from rfl, L12.put_len, L12.put_len] at hi; exact hi
    rw [show (lives (x.turn q z).V (x.turn q z).a.sl (x.turn q z).a.k (x.turn q z).a.lb i : Int) = x.T[i].lv from (h.lv i hi1).symm]
    have hi2 : i < (L12.put (L12.put x.T (x.seg : Int) fun y => ⟨2, y.lv, q⟩) z (fun y => ⟨1, y.lv, y.bo⟩)).length := hi
    show ((L12.put (L12.put x.T (x.seg : Int) fun y => ⟨2, y.lv, q⟩) z (fun y => ⟨1, y.lv, y.bo⟩))[i]'hi2).lv = _
    rw [put_get _ _ _ i (by rw [L12.put_len]; exact hi1), put_get _ _ _ i hi1]
    split <;> split <;> rfl
theorem apply_wf (h : x.Wf) (ha : x.a.Wf) (n : L9.Nt) : (x.apply n).Wf := by
  unfold LS.apply
  have hi := stripe_in h ha
  have he := enters_wf h ha hi n.es n.es.length
  have sm := enters_same (x := x) x.stripe n.es n.es.length
  split
  · exact h
  · rename_i h1
    split
    · rename_i h2
      exact turn_wf he (by rw [sm.1]; exact ha) _ _ (by rw [sm.1]; exact Classical.byContradiction fun h3 => h1 ⟨h2, h3⟩)
    · rename_i h2
      refine ⟨he.T, he.sg, ?_, he.V, he.lv, he.ok, he.up, he.few, he.dur, he.rl, he.top⟩
      show ((x.idx + 1 : Nat) : Int) < (x.enters x.stripe n.es n.es.length).a.s
      rw [sm.1]
      have h4 := h.ix
      have h5 : ¬ (x.idx : Int) = x.a.s - 1 := fun e => h2 (decide_eq_true e)
      omega
theorem apply_same (n : L9.Nt) : (x.apply n).a = x.a ∧ (x.apply n).recs = x.recs := by
  have sm := enters_same (x := x) x.stripe n.es n.es.length
  unfold LS.apply
  split
  · exact ⟨rfl, rfl⟩
  · split
    · exact ⟨sm.1, sm.2.1⟩
    · exact ⟨sm.1, sm.2.1⟩
end
end Go.Proofs.YtplmdmchkaacoaaGreat

/-
  THE WALK OF Find.
-/
namespace Go.Proofs.YtplmdmchkaacoaaGreat.L14
open Go.Proofs.YtplmdmchkaacoaaGreat.L7
open Go.RowKit
set_option linter.unusedVariables false
set_option maxRecDepth 100000

theorem fl_map {α β : Type} (f : β → Int) (g : α → β) (k : Int) : ∀ l : List α, fl f k (l.map g) = (fl (fun x => f (g x)) k l).map g
  | [] => rfl
  | r :: t => by
    rw [List.map_cons, fl_cons, fl_cons, free_map, fl_map f g k t]
    split
    · split <;> rfl
    · rfl
theorem fl_abs (k : Int) (L : List Rc) : fl Rr.lba k (L.map Rc.abs) = (fl Rc.lba k L).map Rc.abs := fl_map Rr.lba Rc.abs k L
def zeroR : Rr := ⟨0, 0, 0, []⟩
theorem results_cell_slot {fn : Func} {p u : Tmp} {ty : TypeId} (h : fn.results = #[.cell p ty, .tmp u]) (tmps : Array Value) (w : World) (g : Nat) (cs : Array Value) (fs : Array Field)
    (hp : tmps.getD p undef = .pointer (some ⟨g, 0, none⟩)) (hg : At w g cs ty) (hu : Tryz.prog.underlying ty = some (.struct fs)) (hi : (Tryz.prog.info? ty).map (·.size) = some cs.size) :
    (results fn tmps).run Tryz.prog w = .ok (.tuple #[.agg cs, tmps.getD u undef]) w := by
  have hp' : tmps[p]?.getD undef = .pointer (some ⟨g, 0, none⟩) := by simpa using hp
  simp [results, h, hp', asAddr, run_loadVar_row (P := Tryz.prog) w g ty ty cs (0, 0) _ hg hu rfl hi]

/-- What Find answers. -/
def FindAs (w : World) (L : List Rr) (k : Int) (e : Ending) (w' : World) : Prop :=
  ∃ y : Rc, e = .returned (.tuple #[.agg (lit y.seq y.kind y.lba y.A y.n y.c), .bool (fl Rr.lba k L).isSome]) ∧ Ok w' y ∧ y.abs = (fl Rr.lba k L).getD zeroR ∧ Below w.heap.size w w'
set_option maxHeartbeats 1600000 in
theorem find_any (A : Option Addr) (n c : Nat) (L : List Rc) (k : Int) (w : World) (hn : n ≤ 1000) (h : Rs w A n L) (hk : InU k) : Calls Tryz.prog 60 #[.slice A n c, .int .i64 k] w (FindAs w (L.map Rc.abs) k) := by
  have H := Lib.hid (h.below (below_new w (.cells (lit 0 0 0 none 0 0) 111)))
  have B0 := Lib.hid (below_new w (.cells (lit 0 0 0 none 0 0) 111))
  have D0 := Lib.hid (At.new (w := w) (lit 0 0 0 none 0 0) 111 rfl)
  clear h
  unfold lit at H B0 D0
  go_enter Tryz.func60, Tryz.ntmps60
  go_wp2_with fail
  refine (lasts_any A n c L _ hn H.out).mono ?_
  rintro e w1 ⟨b, F, m, rfl, hbl, hM, hF, hb1⟩
  have FF := Lib.hid hF
  have B1 := Lib.hid (B0.out.trans (hb1.mono B0.out.size))
  have D1 := Lib.hid (D0.out.below hb1 D0.out.lt)
  have H1 := Lib.hid (H.out.below hb1)
  have hlook := hM.look_ok hk
  rcases (show Lx (L.map Rc.lba) L.length F from by rw [H1.out.len]; exact hF).find (f := Rc.lba) k with ⟨e1, e2⟩ | ⟨j, hj, e1, e2⟩
  · have E2 := Lib.hid (show fl Rr.lba k (L.map Rc.abs) = none by rw [fl_abs, e2]; rfl)
    rw [e1] at hlook
    simp only [Option.getD_none, Option.isSome_none] at hlook
    clear hM hF hb1 hbl e1 e2
    go_wp2_with (refine wpList_store_part rfl 111 (.tmp 4) (.tmp 17) rfl w.heap.size 0 111 _ (lit 0 0 0 none 0 0) rfl rfl D1.out rec_size (by simp) (by simp [Value.oneCell']) ?_; intro w4 hat4 hb4; have R := Lib.hid (show At w4 w.heap.size (lit 0 0 0 none 0 0) 111 from hat4); have B4 := Lib.hid hb4; clear hat4 hb4)
    refine bodyPost_ret (results_cell_slot (p := 4) (u := 5) (ty := 111) rfl _ _ w.heap.size (lit 0 0 0 none 0 0) _ rfl R.out Tryz.underlying111 rec_size) rfl ?_
    refine ⟨⟨0, 0, 0, none, 0, 0, []⟩, ?_, ⟨Has.nil _ _, by show 0 ≤ 100; omega, by simp, by simp⟩, by rw [E2.out]; rfl, B1.out.trans (B4.out.below (fun k e => Nat.le_of_eq e.symm) B1.out.size)⟩
    rw [E2.out]
    rfl
  · have E2 := Lib.hid (show fl Rr.lba k (L.map Rc.abs) = some L[j].abs by rw [fl_abs, e2]; rfl)
    rw [e1] at hlook
    simp only [Option.getD_some, Option.isSome_some] at hlook
    obtain ⟨g, off, rfl, hgl, hl, x, hx, ox, q0, q1, q2, q3⟩ := H1.out.one (k := j) (by rw [← H1.out.len]; exact hj)
    rw [hx] at E2
    have OX := Lib.hid ox
    have J := Lib.hid (show j < n by rw [← H1.out.len]; exact hj)
    have hjn := J.out
    clear hM hF hb1 hbl e1 e2 ox hx hl hj
    obtain ⟨xs, xk, xl, xA, xn, xc, xd⟩ := x
    simp only at q0 q1 q2 q3
    go_wp2_with fail
    refine (rclone_any ⟨xs, xk, xl, xA, xn, xc, xd⟩ w1 OX.out).mono ?_
    rintro e w2 ⟨A2, c2, rfl, hok, hnew, hb2⟩
    have OK := Lib.hid hok
    have B2 := Lib.hid (B1.out.trans (hb2.mono B1.out.size))
    have D2 := Lib.hid (D1.out.below hb2 D1.out.lt)
    have NW := Lib.hid hnew
    have S1 := Lib.hid (show w.heap.size < w1.heap.size from D1.out.lt)
    clear hok hnew hb2 hlook q0 q1 q2 q3
    unfold lit
    go_wp2_with (refine wpList_store_part rfl 111 (.tmp 4) (.tmp 22) rfl w.heap.size 0 111 _ (lit xs xk xl A2 xn c2) rfl rfl D2.out rec_size (by simp) (by simp [Value.oneCell']) ?_; intro w4 hat4 hb4; have R := Lib.hid (show At w4 w.heap.size (lit xs xk xl A2 xn c2) 111 from hat4); have B4 := Lib.hid hb4; clear hat4 hb4)
    refine bodyPost_ret (results_cell_slot (p := 4) (u := 5) (ty := 111) rfl _ _ w.heap.size (lit xs xk xl A2 xn c2) _ rfl R.out Tryz.underlying111 rec_size) rfl ?_
    refine ⟨⟨xs, xk, xl, A2, xn, c2, xd⟩, ?_, OK.out.apart B4.out (fun h0 a ha e => ?_), by rw [E2.out]; rfl, B2.out.trans (B4.out.below (fun k e => Nat.le_of_eq e.symm) B2.out.size)⟩
    · rw [E2.out]
      rfl
    · have := NW.out h0 a ha
      have := S1.out
      omega
end Go.Proofs.YtplmdmchkaacoaaGreat.L14
