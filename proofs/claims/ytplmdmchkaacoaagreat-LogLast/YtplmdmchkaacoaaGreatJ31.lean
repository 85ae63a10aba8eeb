/-
  TEXTS JOINED: L14Small, L14MapI, L14Lasts, L14SView, L14Batch.
-/
import Derived.Test.YtplmdmchkaacoaaGreatJ30
import Derived.Test.YtplmdmchkaacoaaGreatJ20
import Derived.Test.YtplmdmchkaacoaaGreatJ22
import Derived.Test.YtplmdmchkaacoaaGreatJ28
import Derived.Test.YtplmdmchkaacoaaGreatJ29
import Derived.BigQuiet
import Derived.Maps.OwnSet
import Derived.Maps.Ext
import Derived.MapFrom
import Derived.Deep.CutRange

/-
  THE WALKS OF clone AND OF Same, for records that say the same.
-/
namespace Go.Proofs.YtplmdmchkaacoaaGreat.L14
open Go.Proofs.YtplmdmchkaacoaaGreat.L7
open Go.RowKit
set_option linter.unusedVariables false
set_option maxRecDepth 100000

/-- What a block holds: a record's cells. -/
abbrev lit (seq : Nat) (kind lba : Int) (A : Option Addr) (n c : Nat) : Array Value := #[.int .u64 (seq : Int), .int .i64 kind, .int .i64 lba, .slice A n c]
theorem two_new (w : World) (o o2 : Obj) : Below w.heap.size w ((w.alloc o).alloc o2) := ((Below.refl _ _).alloc (Nat.le_refl _) o).alloc (by simp) o2
set_option maxHeartbeats 400000 in
theorem rclone_any (x : Rc) (w : World) (h : Ok w x) :
    Calls Tryz.prog 109 #[.agg (lit x.seq x.kind x.lba x.A x.n x.c)] w fun e w' => ∃ A c, e = .returned (.agg (lit x.seq x.kind x.lba A x.n c)) ∧ Ok w' ⟨x.seq, x.kind, x.lba, A, x.n, c, x.l⟩ ∧ (0 < x.n → ∀ a, A = some a → w.heap.size ≤ a.block) ∧ Below w.heap.size w w' := by
  obtain ⟨seq, kind, lba, A, n, c, l⟩ := x
  obtain ⟨h1, h2, h3, h4⟩ := h
  simp only at h1 h2 h3 h4 ⊢
  have H := Lib.hid h1
  have B1 := Lib.hid (two_new w (.cells (lit seq kind lba A n c) 111) (.cells #[.int .u64 0, .int .i64 0, .int .i64 0, .slice none 0 0] 111))
  have D1 := Lib.hid (show At ((w.alloc (.cells (lit seq kind lba A n c) 111)).alloc (.cells #[.int .u64 0, .int .i64 0, .int .i64 0, .slice none 0 0] 111)) w.heap.size (lit seq kind lba A n c) 111 from (At.new _ 111 rfl).alloc _)
  have E1 := Lib.hid (show At ((w.alloc (.cells (lit seq kind lba A n c) 111)).alloc (.cells #[.int .u64 0, .int .i64 0, .int .i64 0, .slice none 0 0] 111)) (w.heap.size + 1) #[.int .u64 0, .int .i64 0, .int .i64 0, .slice none 0 0] 111 from At.new _ 111 (by simp))
  have S1 := Lib.hid (show w.heap.size + 2 = ((w.alloc (.cells (lit seq kind lba A n c) 111)).alloc (.cells #[.int .u64 0, .int .i64 0, .int .i64 0, .slice none 0 0] 111)).heap.size by simp)
  have c3 : ((w.alloc (.cells (lit seq kind lba A n c) 111)).alloc (.cells #[.int .u64 0, .int .i64 0, .int .i64 0, .slice none 0 0] 111)).cell? ⟨w.heap.size, 3, none⟩ = some (.slice A n c) := D1.out.cell 3
  clear h1
  unfold lit at *
  go_enter Tryz.func109, Tryz.ntmps109
  go_wp2_with fail
  generalize ((w.alloc (.cells #[.int .u64 (seq : Int), .int .i64 kind, .int .i64 lba, .slice A n c] 111)).alloc (.cells #[.int .u64 0, .int .i64 0, .int .i64 0, .slice none 0 0] 111)) = w1 at *
  refine (bclone_any A n c l w1 (by omega) (H.out.below B1.out)).mono ?_
  rintro e w2 ⟨v2, rfl, hown2, hb2⟩
  obtain ⟨A2, c2, rfl, _, _, hd2, hA2⟩ := Has.of_own hown2
  have D2 := Lib.hid (D1.out.below hb2 D1.out.lt)
  have E2 := Lib.hid (E1.out.below hb2 E1.out.lt)
  have d3 : w2.cell? ⟨w.heap.size, 3, none⟩ = some (.slice A n c) := D2.out.cell 3
  have f3 := D2.out.frozen 3
  have OWN := Lib.hid hown2
  have HD := Lib.hid hd2
  have HA := Lib.hid hA2
  have B2 := Lib.hid (B1.out.trans (hb2.mono B1.out.size))
  have D3 := Lib.hid (show At (w2.setCell ⟨w.heap.size, 3, none⟩ (.slice A2 n c2)) w.heap.size #[.int .u64 (seq : Int), .int .i64 kind, .int .i64 lba, .slice A2 n c2] 111 from D2.out.set 3 _)
  have E3 := Lib.hid (show At (w2.setCell ⟨w.heap.size, 3, none⟩ (.slice A2 n c2)) (w.heap.size + 1) #[.int .u64 0, .int .i64 0, .int .i64 0, .slice none 0 0] 111 from E2.out.other (by simp) _)
  have F3 := Lib.hid (But.own w2 w.heap.size 3 (.slice A2 n c2))
  have e0 : (w2.setCell ⟨w.heap.size, 3, none⟩ (.slice A2 n c2)).cell? ⟨w.heap.size, 0, none⟩ = some (.int .u64 (seq : Int)) := D3.out.cell 0
  have e1 : (w2.setCell ⟨w.heap.size, 3, none⟩ (.slice A2 n c2)).cell? ⟨w.heap.size, 1, none⟩ = some (.int .i64 kind) := D3.out.cell 1
  have e2 : (w2.setCell ⟨w.heap.size, 3, none⟩ (.slice A2 n c2)).cell? ⟨w.heap.size, 2, none⟩ = some (.int .i64 lba) := D3.out.cell 2
  have e3 : (w2.setCell ⟨w.heap.size, 3, none⟩ (.slice A2 n c2)).cell? ⟨w.heap.size, 3, none⟩ = some (.slice A2 n c2) := D3.out.cell 3
  clear c3 hown2 hd2 hA2 hb2
  go_wp2_with (refine wpList_store_part rfl 111 (.tmp 2) (.tmp 7) rfl (w.heap.size + 1) 0 111 _ (lit seq kind lba A2 n c2) rfl rfl E3.out rec_size (by simp) (by simp [Value.oneCell']) ?_; intro w4 hat4 hb4; have R := Lib.hid (show At w4 (w.heap.size + 1) (lit seq kind lba A2 n c2) 111 from hat4); have B4 := Lib.hid hb4; clear hat4 hb4)
  refine bodyPost_ret (results_cell_row (p := 2) (ty := 111) rfl _ w4 (w.heap.size + 1) 111 (lit seq kind lba A2 n c2) (0, 0) _ rfl R.out Tryz.underlying111 rfl rec_size) rfl ?_
  have H3 := HD.out.apart F3.out (fun h0 a ha e => by obtain ⟨i, rfl, hi⟩ := HA.out a ha; have := S1.out; show False; simp at e; omega)
  have H4 := H3.apart B4.out (fun h0 a ha e => by obtain ⟨i, rfl, hi⟩ := HA.out a ha; have := S1.out; simp at e; omega)
  refine ⟨A2, c2, rfl, ⟨H4, h2, h3, h4⟩, fun h0 a ha => ?_, ?_⟩
  · obtain ⟨i, rfl, hi⟩ := HA.out a ha
    have := B1.out.size
    show w.heap.size ≤ i
    omega
  · have b3 := B2.out.trans (F3.out.below (B := w.heap.size) (fun k e => by omega) B2.out.size)
    exact b3.trans (B4.out.below (B := w.heap.size) (fun k e => by omega) b3.size)

theorem quiet_mine {P : Program} {f : FuncId} {args : Array Value} {w : World} {n : Nat} {v : Value} (h : Calls P f args (w.drewN n) (Quiet v (w.drewN n))) : Calls P f args (w.drewN n) fun e w'' => e = .returned v ∧ ∃ m, w'' = w.drewN m :=
  h.mono fun _ _ ⟨he, m, hm⟩ => ⟨he, _, hm.trans (World.drewN_drewN _ _ _)⟩
theorem equal_same (A B : Option Addr) (n m c d : Nat) (l : List (BitVec 8)) (w : World) (hn : n ≤ 1000000) (hm : m ≤ 1000000) (h : Has w A n l) (g : Has w B m l) : Calls Tryz.prog 22 #[.slice A n c, .slice B m d] w (Quiet (.bool true) w) := by
  have := equal_any A B n m c d l l w hn hm h g
  simpa using this

set_option maxHeartbeats 3200000 in
theorem same_yes (A1 A2 : Option Addr) (n c1 c2 : Nat) (L1 L2 : List Rc) (w : World) (hn : n ≤ 1000) (h1 : Rs w A1 n L1) (h2 : Rs w A2 n L2) (he : L1.map Rc.abs = L2.map Rc.abs) :
    Calls Tryz.prog 17 #[.slice A1 n c1, .slice A2 n c2] w (Quiet (.bool true) w) := by
  have H1 := Lib.hid h1
  have H2 := Lib.hid h2
  have HE := Lib.hid he
  clear h1 h2 he
  go_enter Tryz.func17, Tryz.ntmps17
  go_wp2
  go_loopw [13] (fun i wr => ∃ j q : Nat, j ≤ n ∧ i = .int .i64 j ∧ wr = w.drewN q) (fun i _ => n - (RowKit.intOf i).toNat)
  case atStart => exact ⟨0, 0, Nat.zero_le _, rfl, rfl⟩
  case round =>
    obtain ⟨j, q, hj, rfl, hwr⟩ := hrel
    have HW := Lib.hid hwr
    by_cases hlt : j < n
    · obtain ⟨g1, o1, rfl, _, l1, x, hx, ox, q0, q1, q2, q3⟩ := (show Rs wr A1 n L1 by rw [hwr]; exact H1.out.drewN q).one hlt
      obtain ⟨g2, o2, rfl, _, l2, y, hy, oy, r0, r1, r2, r3⟩ := (show Rs wr A2 n L2 by rw [hwr]; exact H2.out.drewN q).one hlt
      have hab : x.abs = y.abs := by
        have h := congrArg (fun l => l[j]?) HE.out
        simp only [List.getElem?_map, List.getElem?_eq_getElem l1, List.getElem?_eq_getElem l2, Option.map_some] at h
        injection h with h
        rw [← hx, ← hy]
        exact h
      clear hwr hx hy
      obtain ⟨xs, xk, xl, xA, xn, xc, xd⟩ := x
      obtain ⟨ys, yk, yl, yA, yn, yc, yd⟩ := y
      simp only [Rc.abs, Rr.mk.injEq] at hab
      obtain ⟨rfl, rfl, rfl, rfl⟩ := hab
      obtain ⟨hx1, hn1, _, _⟩ := ox
      obtain ⟨hx2, hn2, _, _⟩ := oy
      simp only at q0 q1 q2 q3 r0 r1 r2 r3 hx1 hx2 hn1 hn2
      have X1 := Lib.hid hx1
      have X2 := Lib.hid hx2
      clear hx1 hx2
      go_wp2_with fail
      go_quiet ((first
        | (go_at_call 22; exact quiet_mine (equal_same xA yA xn yn xc yc xd _ (by omega) (by omega) (X1.out.drewN _) (X2.out.drewN _)))))
      go_wp2
      go_roundw
      case rel => exact ⟨j + 1, q + nq, by omega, by go_num, by rw [HW.out, World.drewN_drewN]⟩
      case measure => simp [RowKit.intOf]; omega
    · have e : j = n := by omega
      subst e
      clear hwr
      go_wp2
      go_ret
      exact ⟨rfl, _, HW.out⟩
end Go.Proofs.YtplmdmchkaacoaaGreat.L14

/-
  A MAP OF INTS KEYED BY INT, AS A FUNCTION: made, read, written, carried.
-/
namespace Go.Proofs.YtplmdmchkaacoaaGreat.L14
open Go.Proofs.YtplmdmchkaacoaaGreat.L7
open Go.RowKit Go.Maps Go.MapKept Go.ChangeMaps
set_option linter.unusedVariables false
set_option maxRecDepth 100000

def InU (i : Int) : Prop := -9223372036854775808 ≤ i ∧ i ≤ 9223372036854775807
theorem key_of {i : Int} (h : InU i) : keyOf Tryz.prog 3 (.int .i64 i) = some (key i) :=
  keyOf_int_mk Tryz.underlying3 (by unfold InU at h; simp [Lit.wf, IntKind.min, IntKind.max, IntKind.signed, IntKind.bits]; omega)
def iv (x : Int) : Value := .int .i64 x

/-- Block b is a map that holds f; it has at most m entries. -/
def Mu (w : World) (b : Nat) (f : Int → Option Int) (m : Nat) : Prop := ∃ D : DataW Value, w.ownsMap Tryz.prog 3 raw b m D ∧ ∀ i, InU i → valAt D i = (f i).map iv

theorem Mu.lt {w : World} {b m : Nat} {f : Int → Option Int} (h : Mu w b f m) : b < w.heap.size := by
  obtain ⟨D, h, _⟩ := h
  exact h.lt
theorem Mu.but {w w' : World} {S : Nat → Prop} {b m : Nat} {f : Int → Option Int} (h : Mu w b f m) (hb : But S w w') (hn : ¬ S b) : Mu w' b f m := by
  have hlt := h.lt
  obtain ⟨D, ⟨es, clock, h1, h2⟩, hf⟩ := h
  exact ⟨D, ⟨es, clock, (hb.block b hlt hn).trans h1, h2⟩, hf⟩
theorem Mu.made (w : World) : Mu (w.alloc (.map #[] 0)) w.heap.size (fun _ => none) 0 :=
  ⟨.map [], World.ownsMap_made w Tryz.prog 3 raw, fun _ _ => rfl⟩

/-- The datum's own entry, where there is one. -/
theorem at_some {w : World} {b n : Nat} {D : DataW Value} (h : w.ownsMap Tryz.prog 3 raw b n D) {i : Int} (hi : InU i) :
    (Maps.has D (key i) = false ∧ valAt D i = none) ∨ ∃ v, Maps.has D (key i) = true ∧ valAt D i = some v ∧ ∀ z, D.atKey (key i) z = .held v := by
  cases hh : Maps.has D (key i)
  · refine .inl ⟨rfl, ?_⟩
    unfold valAt
    rw [atKey_of_not_has hh]
  · refine .inr ?_
    obtain ⟨es, clock, hb, F, _, rfl⟩ := h
    have : ∃ v, ∀ z, (DataW.map ((es.toList.map (WideElems.rg Tryz.prog 3 raw)).foldr DataW.insert [])).atKey (key i) z = .held v := by
      rcases Maps.fit_look true keyed Tryz.underlying171 (zero3 w) hb F (key_of hi) with ⟨_, _, hat⟩ | ⟨e0, y, _, _, _, hRv, hat, _⟩
      · rw [Maps.has_false_of_atKey hat] at hh
        cases hh
      · have e := raw_inv hRv
        exact ⟨e0.val, fun z => by rw [hat z, e]⟩
    obtain ⟨v, hv⟩ := this
    exact ⟨v, rfl, by unfold valAt; rw [hv], hv⟩
theorem has_iff {w : World} {b n : Nat} {D : DataW Value} (h : w.ownsMap Tryz.prog 3 raw b n D) {i : Int} (hi : InU i) : Maps.has D (key i) = (valAt D i).isSome := by
  rcases at_some h hi with ⟨h1, h2⟩ | ⟨v, h1, h2, _⟩
  · rw [h1, h2]; rfl
  · rw [h1, h2]; rfl

section
variable {w : World} {b m : Nat} {f : Int → Option Int}
theorem got {n : Nat} {D : DataW Value} (h : w.ownsMap Tryz.prog 3 raw b n D) {i : Int} (hi : InU i) {z v : Value} {ps : List MemPlace} (hv : raw v = some (D.atKey (key i) (.held z), ps)) : v = (valAt D i).getD z := by
  have e0 := raw_inv hv
  rcases at_some h hi with ⟨h1, h2⟩ | ⟨u, h1, h2, h3⟩
  · rw [atKey_of_not_has h1] at e0
    injection e0 with e0
    rw [h2]
    exact e0.symm
  · rw [h3] at e0
    injection e0 with e0
    rw [h2]
    exact e0.symm
theorem Mu.look_ok (h : Mu w b f m) {i : Int} (hi : InU i) : (Instr.lookup 171 (.map (some b)) (.int .i64 i) true).run Tryz.prog w = .ok (.tuple #[.int .i64 ((f i).getD 0), .bool (f i).isSome]) w := by
  obtain ⟨D, h, hf⟩ := h
  obtain ⟨v, ps, hrun, hv⟩ := h.look_ok keyed Tryz.underlying171 (zero3 w) (show raw (.int .i64 0) = some (.held (.int .i64 0), []) from rfl) (key_of hi)
  have e1 : v = .int .i64 ((f i).getD 0) := by
    rw [got h hi hv, hf i hi]
    cases f i <;> rfl
  have e2 : Maps.has D (key i) = (f i).isSome := by
    rw [has_iff h hi, hf i hi]
    cases f i <;> rfl
  subst e1
  rw [e2] at hrun
  exact hrun

theorem Mu.look (h : Mu w b f m) {i : Int} (hi : InU i) : (Instr.lookup 171 (.map (some b)) (.int .i64 i) false).run Tryz.prog w = .ok (.int .i64 ((f i).getD 0)) w := by
  obtain ⟨D, h, hf⟩ := h
  obtain ⟨v, ps, hrun, hv⟩ := h.lookup keyed Tryz.underlying171 (zero3 w) (show raw (.int .i64 0) = some (.held (.int .i64 0), []) from rfl) (key_of hi)
  have e1 : v = .int .i64 ((f i).getD 0) := by
    rw [got h hi hv, hf i hi]
    cases f i <;> rfl
  subst e1
  exact hrun

theorem Mu.store (h : Mu w b f m) (hm : m < 1000000) {i : Int} (hi : InU i) (v : Int) :
    ∃ w', (Instr.mapUpdate 171 (.map (some b)) (.int .i64 i) (.int .i64 v)).run Tryz.prog w = .ok () w' ∧ Mu w' b (updI f i v) (m + 1) ∧ But (fun k => k = b) w w' := by
  obtain ⟨D, h, hf⟩ := h
  obtain ⟨w', hrun, hown, ht'⟩ := h.store keyed Tryz.underlying171 (show m < maxLen by unfold maxLen; omega) (key_of hi) (show raw (.int .i64 v) = some (.held (.int .i64 v), []) from rfl)
  refine ⟨w', hrun, ⟨D.put (key i) (.held (.int .i64 v)), hown, fun j hj => ?_⟩, but_turned ht'⟩
  rw [valAt_put h.isMap, hf j hj]
  unfold updI
  split <;> rfl
end
end Go.Proofs.YtplmdmchkaacoaaGreat.L14

/-
  THE WALK OF lasts.
-/
namespace Go.Proofs.YtplmdmchkaacoaaGreat.L14
open Go.Proofs.YtplmdmchkaacoaaGreat.L7
open Go.RowKit
set_option linter.unusedVariables false
set_option maxRecDepth 100000

theorem below_new (w : World) (o : Obj) : Below w.heap.size w (w.alloc o) := (Below.refl _ _).alloc (Nat.le_refl _) o
set_option maxHeartbeats 800000 in
theorem lasts_any (A : Option Addr) (n c : Nat) (L : List Rc) (w : World) (hn : n ≤ 1000) (h : Rs w A n L) :
    Calls Tryz.prog 108 #[.slice A n c] w fun e w' => ∃ b F m, e = .returned (.map (some b)) ∧ w.heap.size ≤ b ∧ Mu w' b F m ∧ Lx (L.map Rc.lba) n F ∧ Below w.heap.size w w' := by
  have H := Lib.hid h
  have hmm := @run_makeMap Tryz.prog
  have M0 := Lib.hid (Mu.made w)
  have B0 := Lib.hid (below_new w (.map #[] 0))
  clear h
  go_enter Tryz.func108, Tryz.ntmps108
  go_wp2_with fail
  generalize w.alloc (.map #[] 0) = w1 at *
  generalize hb : w.heap.size = b at *
  have HB := Lib.hid hb
  clear hb
  go_loopw [9] (fun i wr => ∃ (k : Nat) (F : Int → Option Int), k ≤ n ∧ i = .int .i64 k ∧ Mu wr b F k ∧ Lx (L.map Rc.lba) k F ∧ Below b w wr) (fun i _ => n - (RowKit.intOf i).toNat)
  case atStart => exact ⟨0, _, Nat.zero_le _, rfl, M0.out, Lx.start _, B0.out⟩
  case round =>
    obtain ⟨k, F, hk, rfl, hM, hF, hB⟩ := hrel
    have FF := Lib.hid hF
    have BB := Lib.hid hB
    have MM := Lib.hid hM
    by_cases hlt : k < n
    · obtain ⟨g, off, rfl, hgl, hl, x, hx, ox, q0, q1, q2, q3⟩ := (H.out.below (by rw [HB.out]; exact hB)).one hlt
      have hat : (L.map Rc.lba)[k]? = some x.lba := by rw [List.getElem?_map, List.getElem?_eq_getElem hl, hx]; rfl
      have NX := Lib.hid (hF.next hat)
      obtain ⟨xs, xk, xl, xA, xn, xc, xd⟩ := x
      have hlba := ox.lba
      simp only at q0 q1 q2 q3 hlba NX
      have M4 := MM.out.but (S := fun _ => False) ((But.refl _ _).alloc (.cells (lit xs xk xl xA xn xc) 111)) (fun h => h)
      obtain ⟨w3, hrun, hM3, hb3⟩ := M4.store (by omega) hlba (k : Int)
      have M3 := Lib.hid hM3
      have B3 := Lib.hid (show Below b w w3 from (BB.out.trans ((below_new wr (.cells (lit xs xk xl xA xn xc) 111)).mono (by have := hB.size; have := HB.out; omega))).trans (hb3.below (fun j e => Nat.le_of_eq e.symm) (by have := hB.size; have := HB.out; simp; omega)))
      clear hM hF hB hx ox hat M4 hM3 hb3
      unfold lit at hrun
      go_wp2
      go_roundw
      case rel => exact ⟨k + 1, _, by omega, by go_num, M3.out, NX.out, B3.out⟩
      case measure => simp [RowKit.intOf]; omega
    · obtain rfl : k = n := by omega
      clear hM hF hB
      go_wp2
      go_ret
      exact ⟨b, F, k, rfl, Nat.le_of_eq HB.out, MM.out, FF.out, by rw [HB.out]; exact BB.out⟩
end Go.Proofs.YtplmdmchkaacoaaGreat.L14

/-
  THE WALK OF View.
-/
namespace Go.Proofs.YtplmdmchkaacoaaGreat.L14
open Go.Proofs.YtplmdmchkaacoaaGreat.L7
open Go.RowKit
set_option linter.unusedVariables false
set_option maxRecDepth 100000

/-- The view as far as the first k records, its bytes all its own. -/
structure Vst (w wr : World) (L : List Rc) (k : Nat) (v : Value) (M : List Rc) : Prop where
  rw : Rw wr w.heap.size v M
  out : M.map Rc.abs ++ vw Rr.lba ((L.map Rc.abs).drop k) = vw Rr.lba (L.map Rc.abs)
  new : ∀ x ∈ M, 0 < x.n → ∀ a, x.A = some a → w.heap.size ≤ a.block
  bel : Below w.heap.size w wr
  len : M.length ≤ k
section
variable {w wr : World} {L M : List Rc} {k : Nat} {v : Value}
theorem Vst.start (w : World) (L : List Rc) : Vst w w L 0 (.slice none 0 0) [] := ⟨Rw.nil _ _, rfl, fun x hx => (by cases hx), Below.refl _ _, Nat.le_refl _⟩
theorem free_abs (L : List Rc) (x : Rc) (k : Nat) : free Rr.lba x.abs.lba ((L.map Rc.abs).drop k) = free Rc.lba x.lba (L.drop k) := by
  rw [← List.map_drop, free_map]
  rfl
theorem Vst.skip {w2 : World} {x : Rc} (h : Vst w wr L k v M) (hk : k < L.length) (hx : L[k] = x) (hf : free Rc.lba x.lba (L.drop (k + 1)) = false) (hb : Below wr.heap.size wr w2) : Vst w w2 L (k + 1) v M := by
  refine ⟨h.rw.up hb, ?_, h.new, h.bel.trans (hb.mono h.bel.size), Nat.le_succ_of_le h.len⟩
  rw [← h.out]
  congr 1
  exact (vw_no (l := L.map Rc.abs) (k := k) (x := x.abs) (by simpa using hk) (by simp [hx]) (by rw [free_abs]; exact hf)).symm
theorem Vst.take {w1 w2 : World} {x x2 : Rc} {A : Option Addr} {c : Nat} (h : Vst w wr L k v M) (hk : k < L.length) (hx : L[k] = x) (hf : free Rc.lba x.lba (L.drop (k + 1)) = true) (hb : Below wr.heap.size wr w1)
    (hown : w2.ownsRow w.heap.size 111 4 (.slice A (M.length + 1) c) (M.length + 1) (flat (M ++ [x2]))) (hg : w1.grownBy w2 v.ownBlock) (hn : ∀ g, (Value.slice A (M.length + 1) c).ownBlock = some g → v.ownBlock = some g ∨ w1.heap.size ≤ g)
    (ho : Ok w1 x2) (ha : 0 < x2.n → ∀ a, x2.A = some a → wr.heap.size ≤ a.block) (he : x2.abs = x.abs) : Vst w w2 L (k + 1) (.slice A (M.length + 1) c) (M ++ [x2]) := by
  have hs := h.bel.size
  have r1 := h.rw.up hb
  have bt : But (fun k => v.ownBlock = some k) w1 w2 := (But.refl _ _).grown hg (fun k hk _ => hk)
  refine ⟨r1.push hown hg hn (fun y hy => by simp at hy; subst hy; exact ho) (fun y hy h0 a haa e => ?_), ?_, fun y hy h0 a haa => ?_, (h.bel.trans (hb.mono hs)).trans (bt.below (fun i e => (r1.own.lt i e).1) (Nat.le_trans hs hb.size)), by simp; exact h.len⟩
  · simp at hy; subst hy
    have := (h.rw.own.lt _ e).2
    have := ha h0 a haa
    omega
  · rw [← h.out, List.map_append, List.append_assoc]
    congr 1
    rw [vw_yes (l := L.map Rc.abs) (k := k) (x := x.abs) (by simpa using hk) (by simp [hx]) (by rw [free_abs]; exact hf), ← he]
    rfl
  · rcases List.mem_append.1 hy with hy | hy
    · exact h.new y hy h0 a haa
    · simp at hy; subst hy
      exact Nat.le_trans hs (ha h0 a haa)
theorem Vst.done (h : Vst w wr L L.length v M) : M.map Rc.abs = vw Rr.lba (L.map Rc.abs) := by
  rw [← h.out, List.drop_eq_nil_of_le (by simp)]
  simp [vw]
end

set_option maxHeartbeats 1600000 in
theorem view_any (A : Option Addr) (n c : Nat) (L : List Rc) (w : World) (hn : n ≤ 1000) (h : Rs w A n L) :
    Calls Tryz.prog 123 #[.slice A n c] w fun e w' => ∃ v M, e = .returned v ∧ Rw w' w.heap.size v M ∧ M.map Rc.abs = vw Rr.lba (L.map Rc.abs) ∧ (∀ x ∈ M, 0 < x.n → ∀ a, x.A = some a → w.heap.size ≤ a.block) ∧ Below w.heap.size w w' := by
  have H := Lib.hid h
  clear h
  go_enter Tryz.func123, Tryz.ntmps123
  go_wp2_with fail
  refine (lasts_any A n c L w hn H.out).mono ?_
  rintro e w1 ⟨b, F, m, rfl, hbl, hM, hF, hb1⟩
  have MM := Lib.hid hM
  have FF := Lib.hid hF
  have B1 := Lib.hid hb1
  have H1 := Lib.hid (H.out.below hb1)
  clear hM hF hb1 hbl
  go_wp2_with fail
  go_loopw [4, 11] (fun v i wr => ∃ (k : Nat) (M : List Rc), k ≤ n ∧ i = .int .i64 k ∧ Vst w1 wr L k v M) (fun _ i _ => n - (RowKit.intOf i).toNat)
  case atStart => exact ⟨0, [], Nat.zero_le _, rfl, Vst.start _ _⟩
  case round =>
    obtain ⟨k, M, hk, rfl, hV⟩ := hrel
    obtain ⟨Av, cv, rfl, _⟩ := hV.rw.form
    have VV := Lib.hid hV
    by_cases hlt : k < n
    · obtain ⟨g, off, rfl, hgl, hl, x, hx, ox, q0, q1, q2, q3⟩ := (H1.out.below hV.bel).one hlt
      obtain ⟨j, hj, hji⟩ := (show Lx (L.map Rc.lba) L.length F from by rw [H.out.len]; exact FF.out).last (f := Rc.lba) hl
      have M1 := MM.out.but (S := fun _ => False) (But.of_below hV.bel) (fun h => h)
      rw [hx] at hj hji
      have HX := Lib.hid hx
      have OX := Lib.hid ox
      have hn4 := hV.len
      clear hV hx ox
      obtain ⟨xs, xk, xl, xA, xn, xc, xd⟩ := x
      simp only at q0 q1 q2 q3 hj hji
      have hlook : (Instr.lookup 171 (.map (some b)) (.int .i64 xl) false).run Tryz.prog (wr.alloc (.cells (lit xs xk xl xA xn xc) 111)) = .ok (.int .i64 (j : Int)) (wr.alloc (.cells (lit xs xk xl xA xn xc) 111)) := by
        have := (M1.but (S := fun _ => False) ((But.refl _ _).alloc (.cells (lit xs xk xl xA xn xc) 111)) (fun h => h)).look OX.out.lba
        rw [hj] at this
        exact this
      have B4 := Lib.hid (below_new wr (.cells (lit xs xk xl xA xn xc) 111))
      have D4 := At.new (w := wr) (lit xs xk xl xA xn xc) 111 rfl
      have d0 := D4.cell 0
      have d1 := D4.cell 1
      have d2 := D4.cell 2
      have d3 := D4.cell 3
      unfold lit at d0 d1 d2 d3
      simp at d0 d1 d2 d3
      clear M1 D4 hj
      unfold lit at hlook B4
      by_cases he : j = k
      · subst he
        have FR := Lib.hid (hji.1 rfl)
        clear hji
        go_wp2_with fail
        refine (rclone_any ⟨xs, xk, xl, xA, xn, xc, xd⟩ _ (OX.out.below B4.out)).mono ?_
        rintro e w5 ⟨A2, c2, rfl, hok, hnew, hb5⟩
        have OK := Lib.hid hok
        have NW := Lib.hid hnew
        have B5 := Lib.hid (B4.out.trans (hb5.mono B4.out.size))
        have B6 := Lib.hid (B5.out.alloc B5.out.size (.cells (lit xs xk xl A2 xn c2) 111))
        clear hok hnew hb5 hlook d0 d1 d2 d3 q0 q1 q2 q3
        unfold lit at *
        go_wp2_with (at_builtin; refine wpList_append_rec rfl (.tmp 22) (.tmp 25) rfl w1.heap.size (.slice Av M.length cv) M.length M rfl (VV.out.rw.up B6.out).own ⟨w5.heap.size, 0, none⟩ 1 1 [⟨xs, xk, xl, A2, xn, c2, xd⟩] rfl (Src.one ⟨xs, xk, xl, A2, xn, c2, xd⟩ (At.new _ 111 rfl)) (by omega) (Nat.le_trans VV.out.bel.size B6.out.size) ?_; intro A3 c3 w6 hown hg hf; have NX := Lib.hid (VV.out.take (by assumption) HX.out FR.out B6.out hown hg hf (OK.out.below (below_new _ _)) (fun h0 a ha => by have := NW.out h0 a ha; have := B4.out.size; omega) rfl); clear hown hg hf)
        go_roundw
        case rel => exact ⟨j + 1, _, by omega, by go_num, NX.out⟩
        case measure => simp [RowKit.intOf]; omega
      · have FR := Lib.hid (show free Rc.lba xl (L.drop (k + 1)) = false by rw [← Bool.not_eq_true]; exact fun h => he (hji.2 h))
        have NX := Lib.hid (VV.out.skip hl HX.out FR.out B4.out)
        have hne : ¬ (j : Int) = (k : Int) := by omega
        clear hji
        go_wp2
        go_roundw
        case rel => exact ⟨k + 1, _, by omega, by go_num, NX.out⟩
        case measure => simp [RowKit.intOf]; omega
    · obtain rfl : k = n := by omega
      clear hV
      go_wp2
      go_ret
      have V2 := VV.out
      rw [← H.out.len] at V2
      exact ⟨_, M, rfl, V2.rw.base B1.out.size, V2.done, fun x hx h0 a ha => Nat.le_trans B1.out.size (V2.new x hx h0 a ha), B1.out.trans (V2.bel.mono B1.out.size)⟩
end Go.Proofs.YtplmdmchkaacoaaGreat.L14

/-
  THE WALK OF Batch.
-/
namespace Go.Proofs.YtplmdmchkaacoaaGreat.L14
open Go.Proofs.YtplmdmchkaacoaaGreat.L7
open Go.RowKit
set_option linter.unusedVariables false
set_option maxRecDepth 100000

/-- How many there are in a batch. -/
def many (most : Int) (n : Nat) : Nat := (min (max most 0) (n : Int)).toNat
theorem many_le (most : Int) (n : Nat) : many most n ≤ n := by unfold many; omega
theorem many_eq (most : Int) (n : Nat) : (many most n : Int) = min (max most 0) (n : Int) := by unfold many; omega
/-- What Batch answers. -/
def BatchAs (w : World) (L : List Rr) (most : Int) (e : Ending) (w' : World) : Prop :=
  ∃ (A : Option Addr) (c : Nat) (M : List Rc) (u : Nat), e = .returned (.tuple #[.slice A M.length c, .int .u64 (u : Int)]) ∧ Rs w' A M.length M ∧ M.map Rc.abs = (vw Rr.lba L).take (many most (vw Rr.lba L).length) ∧
    (∀ x ∈ M, 0 < x.n → ∀ a, x.A = some a → w.heap.size ≤ a.block) ∧ (M.length = 0 → u = 0) ∧ (0 < M.length → u = upTo Rr.lba Rr.seq L M.length) ∧ Below w.heap.size w w'
set_option maxHeartbeats 1600000 in
theorem batch_any (A : Option Addr) (n c : Nat) (L : List Rc) (most : Int) (w : World) (hn : n ≤ 1000) (h : Rs w A n L) : Calls Tryz.prog 83 #[.slice A n c, .int .i64 most] w (BatchAs w (L.map Rc.abs) most) := by
  have H := Lib.hid h
  have hmax := fun (w : World) => run_max2 (P := Tryz.prog) w #[3, 3] 3 most 0 (max most 0) rfl
  clear h
  go_enter Tryz.func83, Tryz.ntmps83
  go_wp2_with fail
  refine (view_any A n c L _ hn H.out).mono ?_
  rintro e w1 ⟨v, M, rfl, hR, hV, hN, hb⟩
  obtain ⟨A2, c2, rfl, hc1, hc2, hs, ha, hz⟩ := hR.form
  have hlen : (vw Rr.lba (L.map Rc.abs)).length = M.length := by rw [← hV]; simp
  have hM1 : M.length ≤ 1000 := by have := vw_len Rr.lba (L.map Rc.abs); rw [List.length_map, H.out.len] at this; omega
  have hmin := fun (w : World) => run_min2 (P := Tryz.prog) w #[3, 3] 3 (max most 0) M.length (many most M.length : Int) (many_eq most M.length)
  have HV := Lib.hid hV
  have HN := Lib.hid hN
  have HL := Lib.hid hlen
  have BB := Lib.hid hb
  have SS := Lib.hid hs
  have LE := Lib.hid (many_le most M.length)
  clear hR hV hN hlen hb hz ha
  generalize hq : many most M.length = q at *
  have HQ := Lib.hid hq
  clear hq
  rcases Nat.eq_zero_or_pos q with h0 | h0
  · subst h0
    clear hs
    generalize max most 0 = X at *
    go_wp2
    go_ret2
    exact ⟨none, 0, [], 0, rfl, Rs.nil _ _, by rw [HL.out, HQ.out]; rfl, fun x hx => (by cases hx), fun _ => rfl, fun h => absurd h (by simp), BB.out⟩
  · obtain ⟨p, rfl⟩ : ∃ p, q = p + 1 := ⟨q - 1, by omega⟩
    have hle := LE.out
    obtain ⟨g, off, rfl, hgl, hl, x, hx, ox, q0, q1, q2, q3⟩ := hs.one (k := p) (by omega)
    have U := Lib.hid (show upTo Rr.lba Rr.seq (L.map Rc.abs) (p + 1) = x.seq by
      unfold upTo
      rw [← HV.out, Nat.add_sub_cancel, List.getElem?_map, List.getElem?_eq_getElem hl, hx]
      rfl)
    have hp1 : ((p + 1 : Nat) : Int) - 1 = (p : Int) := by omega
    have hp2 : p + 1 ≤ c2 := by omega
    clear hs hx ox hl
    generalize max most 0 = X at *
    generalize x.seq = y at *
    go_wp2
    go_quiet (fail)
    go_wp2
    go_ret2
    have hml : (M.take (p + 1)).length = p + 1 := by rw [List.length_take]; omega
    refine ⟨some ⟨g, off, none⟩, c2, M.take (p + 1), y, by rw [hml]; rfl, ?_, by rw [HL.out, HQ.out, ← HV.out, List.map_take], fun z hz => HN.out z (List.mem_of_mem_take hz), fun h => absurd h (by omega), fun _ => by rw [hml]; exact U.out.symm, ?_⟩
    · have hs2 := (SS.out.take (p + 1) hle).drewN nq
      rw [hml]
      exact hs2
    · exact BB.out.trans ⟨rfl, rfl, rfl, Nat.le_refl _, fun _ _ => rfl⟩
end Go.Proofs.YtplmdmchkaacoaaGreat.L14
