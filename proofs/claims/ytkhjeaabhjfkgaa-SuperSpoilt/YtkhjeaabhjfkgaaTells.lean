/-
  THE WALK OF tells: a label's sector, as the document has it.
-/
import Derived.Test.YtkhjeaabhjfkgaaAwake
namespace Go.Proofs.Ytkhjeaabhjfkgaa
open Go.RowKit
set_option linter.unusedVariables false
set_option maxRecDepth 100000

/-- 'append' of bytes to a row of the call's own, as one operation. -/
theorem wp_append_has {w : World} {o : Oper} {a : Act} {K : Act → World → Prop} {Q : Exit → Act → World → Prop} (s x : Operand)
    (ho : o.op = .call { callee := .builtin .append, args := #[s, x], argTypes := #[30, 30] }) (base : Nat) (v : Value) (n : Nat) (l : List (BitVec 8)) (hs : a.eval s = v) (hown : w.ownsRow base 5 1 v n (l.map val))
    (S : Addr) (m c : Nat) (k : List (BitVec 8)) (hx : a.eval x = .slice (some S) m c) (hk : Has w (some S) m k) (hm : n + m ≤ 100000000) (hbase : base ≤ w.heap.size)
    (h : ∀ A cap w', w'.ownsRow base 5 1 (.slice A (n + m) cap) (n + m) ((l ++ k).map val) → w.grownBy w' v.ownBlock → K (a.put o.dst (.slice A (n + m) cap)) w') :
    Oper.wp Try.prog o a w K Q := by
  obtain ⟨i0, hi, hz0, hz1, hz2⟩ := info_parts byte_info
  obtain ⟨v', w', hr, h2, h3, h4, h5⟩ := run_append_own_at (P := Try.prog) w base 30 o.type 5 i0 _ 1 1 Try.underlying30 hi hz0 hz1 hz2 rfl (by decide) v n (l.map val) hown S m c (k.map val) (by simp [hk.1]) hk.cells (val_one k) (by unfold maxLen; omega) (by omega) hbase
  obtain ⟨A, cap, rfl⟩ : ∃ A cap, v' = .slice A (n + m) cap := by
    rcases h2.2 with ⟨rfl, e⟩ | ⟨g, cap, cur, rfl, _⟩
    · exact ⟨none, 0, by rw [e]⟩
    · exact ⟨_, cap, rfl⟩
  unfold Oper.wp execOp
  simp only [ho, resolve, invoke, builtin, Sem.run_bind, Sem.run_pure, Result.andThen_ok, List.map_toArray, List.map_cons, List.map_nil, hs, hx, hr]
  exact h A cap w' (by rw [List.map_append]; exact h2) h3

/-- The label in the first block, its shape in the second; a row of the call's own that holds L. -/
structure Tel (w0 w : World) (c7 c6 : Array Value) (v : Value) (L : List (BitVec 8)) : Prop where
  box : At w w0.heap.size c7 29
  shp : At w (w0.heap.size + 1) c6 26
  own : w.ownsRow (w0.heap.size + 1 + 1) 5 1 v L.length (L.map val)
  bel : Below w0.heap.size w0 w
theorem Tel.up {w0 w w' : World} {c7 c6 : Array Value} {v : Value} {L : List (BitVec 8)} (h : Tel w0 w c7 c6 v L) (hb : Below w.heap.size w w') : Tel w0 w' c7 c6 v L :=
  ⟨h.box.below hb h.box.lt, h.shp.below hb h.shp.lt, own_below h.own hb, h.bel.trans (hb.mono h.bel.size)⟩
theorem Tel.drew {w0 w : World} {c7 c6 : Array Value} {v : Value} {L : List (BitVec 8)} (h : Tel w0 w c7 c6 v L) : Tel w0 w.drew c7 c6 v L := ⟨h.box, h.shp, h.own, below_drewN h.bel 1⟩
theorem Tel.base {w0 w : World} {c7 c6 : Array Value} {v : Value} {L : List (BitVec 8)} (h : Tel w0 w c7 c6 v L) : w0.heap.size + 1 + 1 ≤ w.heap.size := h.shp.lt
theorem Tel.grow {w0 w w' : World} {c7 c6 : Array Value} {v v' : Value} {L M : List (BitVec 8)} {n : Nat} (h : Tel w0 w c7 c6 v L) (hown : w'.ownsRow (w0.heap.size + 1 + 1) 5 1 v' n (M.map val)) (hg : w.grownBy w' v.ownBlock) : Tel w0 w' c7 c6 v' M := by
  have lo : ∀ k, v.ownBlock = some k → w0.heap.size + 1 + 1 ≤ k := fun k hk => (h.own.lt k hk).1
  have bt : But (fun k => v.ownBlock = some k) w w' := (But.refl _ _).grown hg (fun k hk _ => hk)
  have hn : M.length = n := by have := hown.1; simpa using this
  exact ⟨h.box.but bt (fun e => by have := lo _ e; omega), h.shp.but bt (fun e => by have := lo _ e; omega), by rw [hn]; exact hown, h.bel.trans (bt.below (fun k e => by have := lo k e; omega) (by have := h.base; omega))⟩
/-- Another row of the call's own, in its place. -/
theorem Tel.other {w0 w w' : World} {c7 c6 : Array Value} {v v' : Value} {L M : List (BitVec 8)} {n : Nat} (h : Tel w0 w c7 c6 v L) (hf : Fresh w n M v' w') : Tel w0 w' c7 c6 v' M := by
  have hn : M.length = n := by have := hf.1.1; simpa using this
  have h1 := h.up hf.2
  exact ⟨h1.box, h1.shp, by rw [hn]; exact own_base hf.1 (fun k hk => by have := (hf.1.lt k hk).1; have := h.base; omega), h1.bel⟩
theorem own_len {w : World} {base n m : Nat} {v : Value} {L : List (BitVec 8)} (h : w.ownsRow base 5 1 v n (L.map val)) (e : L.length = m) : w.ownsRow base 5 1 v m (L.map val) := by
  have := h.1
  simp at this
  have e2 : n = m := by omega
  rw [← e2]
  exact h
theorem two_bytes {w : World} {B : Nat} {k m : Nat} (hk : k < 256) (hm : m < 256) : Has (w.alloc (.cells #[.int .u8 (k : Int), .int .u8 (m : Int)] 5)) (some ⟨w.heap.size, 0, none⟩) 2 (low k 1 ++ low m 1) := by
  refine Has.of_block (cs := #[.int .u8 (k : Int), .int .u8 (m : Int)]) (heap_alloc_new w _) rfl fun j hj => ?_
  have hj' : j < 2 := hj
  have e : ∀ N : Nat, N < 256 → val (byteAt N 0) = .int .u8 (N : Int) := by
    intro N hN
    unfold val byteAt
    rw [BitVec.toNat_ofNat]
    congr 1
    simp
    omega
  match j, hj' with
  | 0, _ => exact (congrArg some (e k hk)).symm
  | 1, _ => exact (congrArg some (e m hm)).symm
theorem wrap8 {N : Nat} (h : N < 256) : IntKind.u8.wrap (N : Int) = (N : Int) := by
  simp [IntKind.wrap, IntKind.signed, IntKind.bits]
  omega
theorem one_nought (w : World) : Has (w.alloc (.cells #[.int .u8 0] 5)) (some ⟨w.heap.size, 0, none⟩) 1 [0#8] :=
  Has.of_block (cs := #[.int .u8 0]) (heap_alloc_new w _) rfl fun j hj => by
    have hj' : j < 1 := hj
    match j, hj' with
    | 0, _ => rfl
def lenV : Value → Nat
  | .slice _ n _ => n
  | _ => 0
theorem fill_next (L : List (BitVec 8)) (j : Nat) (h : L.length ≤ j) : pad L j ++ [0#8] = pad L (j + 1) := by
  unfold pad
  rw [List.append_assoc, show j + 1 - L.length = (j - L.length) + 1 by omega, List.replicate_succ']
theorem some_of {w : World} {A : Option Addr} {n : Nat} {l : List (BitVec 8)} (h : Has w A n l) (hn : 0 < n) : ∃ S, A = some S := by
  obtain ⟨b, o, e⟩ := h.some_ hn
  exact ⟨_, e⟩

set_option maxHeartbeats 2000000 in
theorem tells_at (m b g s n l k : Nat) (w : World) (hm : m < 256) (hb : b ≤ 512) (hg : g < 65536) (hs : s < 65536) (hn : n < 65536) (hl : l < 4294967296) (hk : k < 256) (h22 : 22 ≤ b) :
    Calls Try.prog 12 #[.agg #[.int .i64 (m : Int), .int .i64 (b : Int), .int .i64 (g : Int), .int .i64 (s : Int), .int .i64 (n : Int), .int .i64 (l : Int), .int .i64 (k : Int)]] w (Cloned w b (sector ⟨m, b, g, s, n, l, k⟩)) := by
  have B7 := Lib.hid (show At ((w.alloc (.cells #[.int .i64 (m : Int), .int .i64 (b : Int), .int .i64 (g : Int), .int .i64 (s : Int), .int .i64 (n : Int), .int .i64 (l : Int), .int .i64 (k : Int)] 29)).alloc (.cells #[.int .i64 (m : Int), .int .i64 (b : Int), .int .i64 (g : Int), .int .i64 (s : Int), .int .i64 (n : Int), .int .i64 (l : Int)] 26)) w.heap.size #[.int .i64 (m : Int), .int .i64 (b : Int), .int .i64 (g : Int), .int .i64 (s : Int), .int .i64 (n : Int), .int .i64 (l : Int), .int .i64 (k : Int)] 29 from (At.new _ _ rfl).alloc _)
  have B6 := Lib.hid (show At ((w.alloc (.cells #[.int .i64 (m : Int), .int .i64 (b : Int), .int .i64 (g : Int), .int .i64 (s : Int), .int .i64 (n : Int), .int .i64 (l : Int), .int .i64 (k : Int)] 29)).alloc (.cells #[.int .i64 (m : Int), .int .i64 (b : Int), .int .i64 (g : Int), .int .i64 (s : Int), .int .i64 (n : Int), .int .i64 (l : Int)] 26)) (w.heap.size + 1) #[.int .i64 (m : Int), .int .i64 (b : Int), .int .i64 (g : Int), .int .i64 (s : Int), .int .i64 (n : Int), .int .i64 (l : Int)] 26 from At.new _ _ (by simp))
  have BB := Lib.hid (show Below w.heap.size w ((w.alloc (.cells #[.int .i64 (m : Int), .int .i64 (b : Int), .int .i64 (g : Int), .int .i64 (s : Int), .int .i64 (n : Int), .int .i64 (l : Int), .int .i64 (k : Int)] 29)).alloc (.cells #[.int .i64 (m : Int), .int .i64 (b : Int), .int .i64 (g : Int), .int .i64 (s : Int), .int .i64 (n : Int), .int .i64 (l : Int)] 26)) from ((Below.refl _ _).alloc (Nat.le_refl _) _).alloc (by simp) _)
  go_enter Try.func12, Try.ntmps12
  go_wp2_with fail
  refine (put_any 4 mark _ (by omega) (by decide)).mono ?_
  rintro e w1 ⟨v1, rfl, hf⟩
  have T := Lib.hid (show Tel w w1 #[.int .i64 (m : Int), .int .i64 (b : Int), .int .i64 (g : Int), .int .i64 (s : Int), .int .i64 (n : Int), .int .i64 (l : Int), .int .i64 (k : Int)] #[.int .i64 (m : Int), .int .i64 (b : Int), .int .i64 (g : Int), .int .i64 (s : Int), .int .i64 (n : Int), .int .i64 (l : Int)] v1 (low mark 4) from ⟨B7.out.below hf.2 B7.out.lt, B6.out.below hf.2 B6.out.lt, own_base (own_len hf.1 rfl) (fun j hj => by have h1 := (hf.1.lt j hj).1; have h2 := B6.out.lt; omega), BB.out.trans (hf.2.mono BB.out.size)⟩)
  clear hf B7 B6 BB
  go_wp2_with fail
  have T := Lib.hid (T.out.drew)
  refine wp_region_early (fun w' : World => At w' w.heap.size #[.int .i64 (m : Int), .int .i64 (b : Int), .int .i64 (g : Int), .int .i64 (s : Int), .int .i64 (n : Int), .int .i64 (l : Int), .int .i64 (k : Int)] 29 ∧ At w' (w.heap.size + 1) #[.int .i64 (m : Int), .int .i64 (b : Int), .int .i64 (g : Int), .int .i64 (s : Int), .int .i64 (n : Int), .int .i64 (l : Int)] 26) (fun _ => true) (by kernel_rfl) ?_
  change wpEarly _ _ _ _ _ _ 14 (Array.replicate 14 false) _ w1.drew
  obtain ⟨w2, hu⟩ : ∃ u, u = w1.drew := ⟨_, rfl⟩
  rw [← hu] at T ⊢
  clear hu
  refine early_take (i := 0) 8 v1 rfl rfl (by kernel_rfl) (by kernel_rfl) (by kernel_rfl) (by kernel_rfl) rfl (fun _ _ _ h => h) (fun w' hw' => by go_simp) ⟨T.out.box, T.out.shp⟩ ?_
  simp only [Act.put, List.setIfInBounds_toArray, List.set_cons_zero, List.set_cons_succ]
  refine early_take (i := 1) 9 (.pointer (some ⟨w.heap.size, 6, none⟩)) rfl rfl (by kernel_rfl) (by kernel_rfl) (by kernel_rfl) (by kernel_rfl) rfl (fun _ _ _ h => h) (fun w' hw' => by go_simp) ⟨T.out.box, T.out.shp⟩ ?_
  simp only [Act.put, List.setIfInBounds_toArray, List.set_cons_zero, List.set_cons_succ]
  refine early_take (i := 2) 10 (.int .i64 (k : Int)) rfl rfl (by kernel_rfl) (by kernel_rfl) (by kernel_rfl) (by kernel_rfl) rfl (fun _ _ _ h => h) (fun w' hw' => by have hc : w'.cell? ⟨w.heap.size, 6, none⟩ = some (.int .i64 (k : Int)) := hw'.1.cell 6; go_simp) ⟨T.out.box, T.out.shp⟩ ?_
  simp only [Act.put, List.setIfInBounds_toArray, List.set_cons_zero, List.set_cons_succ]
  refine early_take (i := 3) 11 (.int .u8 (k : Int)) rfl rfl (by kernel_rfl) (by kernel_rfl) (by kernel_rfl) (by kernel_rfl) rfl (fun _ _ _ h => h) (fun w' hw' => by go_simp; exact wrap8 hk) ⟨T.out.box, T.out.shp⟩ ?_
  simp only [Act.put, List.setIfInBounds_toArray, List.set_cons_zero, List.set_cons_succ]
  refine early_take (i := 4) 12 (.pointer (some ⟨w.heap.size + 1, 0, none⟩)) rfl rfl (by kernel_rfl) (by kernel_rfl) (by kernel_rfl) (by kernel_rfl) rfl (fun _ _ _ h => h) (fun w' hw' => by go_simp) ⟨T.out.box, T.out.shp⟩ ?_
  simp only [Act.put, List.setIfInBounds_toArray, List.set_cons_zero, List.set_cons_succ]
  refine early_take (i := 5) 13 (.int .i64 (m : Int)) rfl rfl (by kernel_rfl) (by kernel_rfl) (by kernel_rfl) (by kernel_rfl) rfl (fun _ _ _ h => h) (fun w' hw' => by have hc : w'.cell? ⟨w.heap.size + 1, 0, none⟩ = some (.int .i64 (m : Int)) := hw'.2.cell 0; go_simp) ⟨T.out.box, T.out.shp⟩ ?_
  simp only [Act.put, List.setIfInBounds_toArray, List.set_cons_zero, List.set_cons_succ]
  refine early_take (i := 6) 14 (.int .u8 (m : Int)) rfl rfl (by kernel_rfl) (by kernel_rfl) (by kernel_rfl) (by kernel_rfl) rfl (fun _ _ _ h => h) (fun w' hw' => by go_simp; exact wrap8 hm) ⟨T.out.box, T.out.shp⟩ ?_
  simp only [Act.put, List.setIfInBounds_toArray, List.set_cons_zero, List.set_cons_succ]
  refine early_take (i := 9) 17 (.pointer (some ⟨w.heap.size + 1, 1, none⟩)) rfl rfl (by kernel_rfl) (by kernel_rfl) (by kernel_rfl) (by kernel_rfl) rfl (fun _ _ _ h => h) (fun w' hw' => by go_simp) ⟨T.out.box, T.out.shp⟩ ?_
  simp only [Act.put, List.setIfInBounds_toArray, List.set_cons_zero, List.set_cons_succ]
  refine early_take (i := 10) 18 (.int .i64 (b : Int)) rfl rfl (by kernel_rfl) (by kernel_rfl) (by kernel_rfl) (by kernel_rfl) rfl (fun _ _ _ h => h) (fun w' hw' => by have hc : w'.cell? ⟨w.heap.size + 1, 1, none⟩ = some (.int .i64 (b : Int)) := hw'.2.cell 1; go_simp) ⟨T.out.box, T.out.shp⟩ ?_
  simp only [Act.put, List.setIfInBounds_toArray, List.set_cons_zero, List.set_cons_succ]
  refine early_only (i := 7) (by kernel_rfl) rfl (fun K hK => ?_)
  simp only [opWp, List.getElem?_toArray, List.getElem?_cons_succ, List.getElem?_cons_zero]
  go_simp
  have T := Lib.hid (T.out.up ((Below.refl _ _).alloc (Nat.le_refl _) (.cells #[.int .u8 (k : Int), .int .u8 (m : Int)] 5)))
  have HH := Lib.hid (two_bytes (w := w2) (B := 0) hk hm)
  generalize w2.alloc (.cells #[.int .u8 (k : Int), .int .u8 (m : Int)] 5) = w3 at *
  generalize w2.heap.size = h3 at *
  refine hK _ _ (fun _ => ⟨T.out.box, T.out.shp⟩) ?_
  refine early_only (i := 8) (by kernel_rfl) rfl (fun K hK => ?_)
  simp only [opWp, List.getElem?_toArray, List.getElem?_cons_succ, List.getElem?_cons_zero]
  refine wp_append_has (.tmp 8) (.tmp 15) rfl (w.heap.size + 1 + 1) v1 _ (low mark 4) rfl T.out.own ⟨h3, 0, none⟩ 2 2 (low k 1 ++ low m 1) rfl HH.out (by simp [low_len]) T.out.base ?_
  intro A4 c4 w4 hown hgr
  obtain ⟨v4, hv⟩ : ∃ v, v = Value.slice A4 ((low mark 4).length + 2) c4 := ⟨_, rfl⟩
  rw [← hv] at hown ⊢
  have T := Lib.hid (T.out.grow hown hgr)
  clear hown hgr hv HH
  refine hK _ _ (fun _ => ⟨T.out.box, T.out.shp⟩) ?_
  simp only [Act.put, List.setIfInBounds_toArray, List.set_cons_zero, List.set_cons_succ]
  refine early_only (i := 11) (by kernel_rfl) rfl (fun K hK => ?_)
  simp only [opWp, List.getElem?_toArray, List.getElem?_cons_succ, List.getElem?_cons_zero]
  go_simp
  go_at_call 23
  refine (put_any 2 b _ (by omega) (by omega)).mono ?_
  rintro e w5 ⟨v5, rfl, hf⟩
  obtain ⟨A5, c5, rfl, _, _, _, hh, _⟩ := own_slice hf.1
  obtain ⟨S5, rfl⟩ := some_of hh (by omega)
  have T := Lib.hid (T.out.up hf.2)
  have HH := Lib.hid hh
  clear hf hh
  refine hK _ _ (fun _ => ⟨T.out.box, T.out.shp⟩) ?_
  refine early_only (i := 12) (by kernel_rfl) rfl (fun K hK => ?_)
  simp only [opWp, List.getElem?_toArray, List.getElem?_cons_succ, List.getElem?_cons_zero]
  refine wp_append_has (.tmp 16) (.tmp 19) rfl (w.heap.size + 1 + 1) v4 _ (low mark 4 ++ (low k 1 ++ low m 1)) rfl T.out.own S5 2 c5 (low b 2) rfl HH.out (by simp [low_len]) T.out.base ?_
  intro A6 c6 w6 hown hgr
  obtain ⟨v6, hv⟩ : ∃ v, v = Value.slice A6 ((low mark 4 ++ (low k 1 ++ low m 1)).length + 2) c6 := ⟨_, rfl⟩
  rw [← hv] at hown ⊢
  have T := Lib.hid (T.out.grow hown hgr)
  clear hown hgr hv HH
  refine hK _ _ (fun _ => ⟨T.out.box, T.out.shp⟩) ?_
  simp only [Act.put, List.setIfInBounds_toArray, List.set_cons_zero, List.set_cons_succ]
  refine early_take (i := 13) 4 v6 rfl rfl (by kernel_rfl) (by kernel_rfl) (by kernel_rfl) (by kernel_rfl) rfl (fun _ _ _ h => h) (fun w' hw' => by go_simp) ⟨T.out.box, T.out.shp⟩ ?_
  simp only [Act.put, List.setIfInBounds_toArray, List.set_cons_zero, List.set_cons_succ]
  refine early_done (by kernel_rfl) ?_
  go_wp2_with fail
  have T := Lib.hid (T.out.drew)
  refine wp_region_early (fun w' : World => At w' w.heap.size #[.int .i64 (m : Int), .int .i64 (b : Int), .int .i64 (g : Int), .int .i64 (s : Int), .int .i64 (n : Int), .int .i64 (l : Int), .int .i64 (k : Int)] 29 ∧ At w' (w.heap.size + 1) #[.int .i64 (m : Int), .int .i64 (b : Int), .int .i64 (g : Int), .int .i64 (s : Int), .int .i64 (n : Int), .int .i64 (l : Int)] 26) (fun _ => true) (by kernel_rfl) ?_
  change wpEarly _ _ _ _ _ _ 10 (Array.replicate 10 false) _ w6.drew
  obtain ⟨w7, hu⟩ : ∃ u, u = w6.drew := ⟨_, rfl⟩
  rw [← hu] at T ⊢
  clear hu
  refine early_take (i := 0) 21 v6 rfl rfl (by kernel_rfl) (by kernel_rfl) (by kernel_rfl) (by kernel_rfl) rfl (fun _ _ _ h => h) (fun w' hw' => by go_simp) ⟨T.out.box, T.out.shp⟩ ?_
  simp only [Act.put, List.setIfInBounds_toArray, List.set_cons_zero, List.set_cons_succ]
  refine early_take (i := 1) 22 (.pointer (some ⟨w.heap.size + 1, 2, none⟩)) rfl rfl (by kernel_rfl) (by kernel_rfl) (by kernel_rfl) (by kernel_rfl) rfl (fun _ _ _ h => h) (fun w' hw' => by go_simp) ⟨T.out.box, T.out.shp⟩ ?_
  simp only [Act.put, List.setIfInBounds_toArray, List.set_cons_zero, List.set_cons_succ]
  refine early_take (i := 2) 23 (.int .i64 (g : Int)) rfl rfl (by kernel_rfl) (by kernel_rfl) (by kernel_rfl) (by kernel_rfl) rfl (fun _ _ _ h => h) (fun w' hw' => by have hc : w'.cell? ⟨w.heap.size + 1, 2, none⟩ = some (.int .i64 (g : Int)) := hw'.2.cell 2; go_simp) ⟨T.out.box, T.out.shp⟩ ?_
  simp only [Act.put, List.setIfInBounds_toArray, List.set_cons_zero, List.set_cons_succ]
  refine early_take (i := 5) 26 (.pointer (some ⟨w.heap.size + 1, 3, none⟩)) rfl rfl (by kernel_rfl) (by kernel_rfl) (by kernel_rfl) (by kernel_rfl) rfl (fun _ _ _ h => h) (fun w' hw' => by go_simp) ⟨T.out.box, T.out.shp⟩ ?_
  simp only [Act.put, List.setIfInBounds_toArray, List.set_cons_zero, List.set_cons_succ]
  refine early_take (i := 6) 27 (.int .i64 (s : Int)) rfl rfl (by kernel_rfl) (by kernel_rfl) (by kernel_rfl) (by kernel_rfl) rfl (fun _ _ _ h => h) (fun w' hw' => by have hc : w'.cell? ⟨w.heap.size + 1, 3, none⟩ = some (.int .i64 (s : Int)) := hw'.2.cell 3; go_simp) ⟨T.out.box, T.out.shp⟩ ?_
  simp only [Act.put, List.setIfInBounds_toArray, List.set_cons_zero, List.set_cons_succ]
  refine early_only (i := 3) (by kernel_rfl) rfl (fun K hK => ?_)
  simp only [opWp, List.getElem?_toArray, List.getElem?_cons_succ, List.getElem?_cons_zero]
  go_simp
  go_at_call 23
  refine (put_any 2 g _ (by omega) (by omega)).mono ?_
  rintro e w8 ⟨v8, rfl, hf⟩
  obtain ⟨A8, c8, rfl, _, _, _, hh, _⟩ := own_slice hf.1
  obtain ⟨S8, rfl⟩ := some_of hh (by omega)
  have T := Lib.hid (T.out.up hf.2)
  have HH := Lib.hid hh
  clear hf hh
  refine hK _ _ (fun _ => ⟨T.out.box, T.out.shp⟩) ?_
  refine early_only (i := 4) (by kernel_rfl) rfl (fun K hK => ?_)
  simp only [opWp, List.getElem?_toArray, List.getElem?_cons_succ, List.getElem?_cons_zero]
  refine wp_append_has (.tmp 21) (.tmp 24) rfl (w.heap.size + 1 + 1) v6 _ (low mark 4 ++ (low k 1 ++ low m 1) ++ low b 2) rfl T.out.own S8 2 c8 (low g 2) rfl HH.out (by simp [low_len]) T.out.base ?_
  intro A9 c9 w9 hown hgr
  obtain ⟨v9, hv⟩ : ∃ v, v = Value.slice A9 ((low mark 4 ++ (low k 1 ++ low m 1) ++ low b 2).length + 2) c9 := ⟨_, rfl⟩
  rw [← hv] at hown ⊢
  have T := Lib.hid (T.out.grow hown hgr)
  clear hown hgr hv HH
  refine hK _ _ (fun _ => ⟨T.out.box, T.out.shp⟩) ?_
  simp only [Act.put, List.setIfInBounds_toArray, List.set_cons_zero, List.set_cons_succ]
  refine early_only (i := 7) (by kernel_rfl) rfl (fun K hK => ?_)
  simp only [opWp, List.getElem?_toArray, List.getElem?_cons_succ, List.getElem?_cons_zero]
  go_simp
  go_at_call 23
  refine (put_any 2 s _ (by omega) (by omega)).mono ?_
  rintro e w10 ⟨v10, rfl, hf⟩
  obtain ⟨A10, c10, rfl, _, _, _, hh, _⟩ := own_slice hf.1
  obtain ⟨S10, rfl⟩ := some_of hh (by omega)
  have T := Lib.hid (T.out.up hf.2)
  have HH := Lib.hid hh
  clear hf hh
  refine hK _ _ (fun _ => ⟨T.out.box, T.out.shp⟩) ?_
  refine early_only (i := 8) (by kernel_rfl) rfl (fun K hK => ?_)
  simp only [opWp, List.getElem?_toArray, List.getElem?_cons_succ, List.getElem?_cons_zero]
  refine wp_append_has (.tmp 25) (.tmp 28) rfl (w.heap.size + 1 + 1) v9 _ (low mark 4 ++ (low k 1 ++ low m 1) ++ low b 2 ++ low g 2) rfl T.out.own S10 2 c10 (low s 2) rfl HH.out (by simp [low_len]) T.out.base ?_
  intro A11 c11 w11 hown hgr
  obtain ⟨v11, hv⟩ : ∃ v, v = Value.slice A11 ((low mark 4 ++ (low k 1 ++ low m 1) ++ low b 2 ++ low g 2).length + 2) c11 := ⟨_, rfl⟩
  rw [← hv] at hown ⊢
  have T := Lib.hid (T.out.grow hown hgr)
  clear hown hgr hv HH
  refine hK _ _ (fun _ => ⟨T.out.box, T.out.shp⟩) ?_
  simp only [Act.put, List.setIfInBounds_toArray, List.set_cons_zero, List.set_cons_succ]
  refine early_take (i := 9) 4 v11 rfl rfl (by kernel_rfl) (by kernel_rfl) (by kernel_rfl) (by kernel_rfl) rfl (fun _ _ _ h => h) (fun w' hw' => by go_simp) ⟨T.out.box, T.out.shp⟩ ?_
  simp only [Act.put, List.setIfInBounds_toArray, List.set_cons_zero, List.set_cons_succ]
  refine early_done (by kernel_rfl) ?_
  go_wp2_with fail
  have T := Lib.hid (T.out.drew)
  refine wp_region_early (fun w' : World => At w' w.heap.size #[.int .i64 (m : Int), .int .i64 (b : Int), .int .i64 (g : Int), .int .i64 (s : Int), .int .i64 (n : Int), .int .i64 (l : Int), .int .i64 (k : Int)] 29 ∧ At w' (w.heap.size + 1) #[.int .i64 (m : Int), .int .i64 (b : Int), .int .i64 (g : Int), .int .i64 (s : Int), .int .i64 (n : Int), .int .i64 (l : Int)] 26) (fun _ => true) (by kernel_rfl) ?_
  change wpEarly _ _ _ _ _ _ 11 (Array.replicate 11 false) _ w11.drew
  obtain ⟨w12, hu⟩ : ∃ u, u = w11.drew := ⟨_, rfl⟩
  rw [← hu] at T ⊢
  clear hu
  refine early_take (i := 0) 30 v11 rfl rfl (by kernel_rfl) (by kernel_rfl) (by kernel_rfl) (by kernel_rfl) rfl (fun _ _ _ h => h) (fun w' hw' => by go_simp) ⟨T.out.box, T.out.shp⟩ ?_
  simp only [Act.put, List.setIfInBounds_toArray, List.set_cons_zero, List.set_cons_succ]
  refine early_take (i := 1) 31 (.pointer (some ⟨w.heap.size + 1, 4, none⟩)) rfl rfl (by kernel_rfl) (by kernel_rfl) (by kernel_rfl) (by kernel_rfl) rfl (fun _ _ _ h => h) (fun w' hw' => by go_simp) ⟨T.out.box, T.out.shp⟩ ?_
  simp only [Act.put, List.setIfInBounds_toArray, List.set_cons_zero, List.set_cons_succ]
  refine early_take (i := 2) 32 (.int .i64 (n : Int)) rfl rfl (by kernel_rfl) (by kernel_rfl) (by kernel_rfl) (by kernel_rfl) rfl (fun _ _ _ h => h) (fun w' hw' => by have hc : w'.cell? ⟨w.heap.size + 1, 4, none⟩ = some (.int .i64 (n : Int)) := hw'.2.cell 4; go_simp) ⟨T.out.box, T.out.shp⟩ ?_
  simp only [Act.put, List.setIfInBounds_toArray, List.set_cons_zero, List.set_cons_succ]
  refine early_take (i := 5) 35 (.pointer (some ⟨w.heap.size + 1, 5, none⟩)) rfl rfl (by kernel_rfl) (by kernel_rfl) (by kernel_rfl) (by kernel_rfl) rfl (fun _ _ _ h => h) (fun w' hw' => by go_simp) ⟨T.out.box, T.out.shp⟩ ?_
  simp only [Act.put, List.setIfInBounds_toArray, List.set_cons_zero, List.set_cons_succ]
  refine early_take (i := 6) 36 (.int .i64 (l : Int)) rfl rfl (by kernel_rfl) (by kernel_rfl) (by kernel_rfl) (by kernel_rfl) rfl (fun _ _ _ h => h) (fun w' hw' => by have hc : w'.cell? ⟨w.heap.size + 1, 5, none⟩ = some (.int .i64 (l : Int)) := hw'.2.cell 5; go_simp) ⟨T.out.box, T.out.shp⟩ ?_
  simp only [Act.put, List.setIfInBounds_toArray, List.set_cons_zero, List.set_cons_succ]
  refine early_only (i := 3) (by kernel_rfl) rfl (fun K hK => ?_)
  simp only [opWp, List.getElem?_toArray, List.getElem?_cons_succ, List.getElem?_cons_zero]
  go_simp
  go_at_call 23
  refine (put_any 2 n _ (by omega) (by omega)).mono ?_
  rintro e w13 ⟨v13, rfl, hf⟩
  obtain ⟨A13, c13, rfl, _, _, _, hh, _⟩ := own_slice hf.1
  obtain ⟨S13, rfl⟩ := some_of hh (by omega)
  have T := Lib.hid (T.out.up hf.2)
  have HH := Lib.hid hh
  clear hf hh
  refine hK _ _ (fun _ => ⟨T.out.box, T.out.shp⟩) ?_
  refine early_only (i := 4) (by kernel_rfl) rfl (fun K hK => ?_)
  simp only [opWp, List.getElem?_toArray, List.getElem?_cons_succ, List.getElem?_cons_zero]
  refine wp_append_has (.tmp 30) (.tmp 33) rfl (w.heap.size + 1 + 1) v11 _ (low mark 4 ++ (low k 1 ++ low m 1) ++ low b 2 ++ low g 2 ++ low s 2) rfl T.out.own S13 2 c13 (low n 2) rfl HH.out (by simp [low_len]) T.out.base ?_
  intro A14 c14 w14 hown hgr
  obtain ⟨v14, hv⟩ : ∃ v, v = Value.slice A14 ((low mark 4 ++ (low k 1 ++ low m 1) ++ low b 2 ++ low g 2 ++ low s 2).length + 2) c14 := ⟨_, rfl⟩
  rw [← hv] at hown ⊢
  have T := Lib.hid (T.out.grow hown hgr)
  clear hown hgr hv HH
  refine hK _ _ (fun _ => ⟨T.out.box, T.out.shp⟩) ?_
  simp only [Act.put, List.setIfInBounds_toArray, List.set_cons_zero, List.set_cons_succ]
  refine early_only (i := 7) (by kernel_rfl) rfl (fun K hK => ?_)
  simp only [opWp, List.getElem?_toArray, List.getElem?_cons_succ, List.getElem?_cons_zero]
  go_simp
  go_at_call 23
  refine (put_any 4 l _ (by omega) (by omega)).mono ?_
  rintro e w15 ⟨v15, rfl, hf⟩
  obtain ⟨A15, c15, rfl, _, _, _, hh, _⟩ := own_slice hf.1
  obtain ⟨S15, rfl⟩ := some_of hh (by omega)
  have T := Lib.hid (T.out.up hf.2)
  have HH := Lib.hid hh
  clear hf hh
  refine hK _ _ (fun _ => ⟨T.out.box, T.out.shp⟩) ?_
  refine early_only (i := 8) (by kernel_rfl) rfl (fun K hK => ?_)
  simp only [opWp, List.getElem?_toArray, List.getElem?_cons_succ, List.getElem?_cons_zero]
  refine wp_append_has (.tmp 34) (.tmp 37) rfl (w.heap.size + 1 + 1) v14 _ (low mark 4 ++ (low k 1 ++ low m 1) ++ low b 2 ++ low g 2 ++ low s 2 ++ low n 2) rfl T.out.own S15 4 c15 (low l 4) rfl HH.out (by simp [low_len]) T.out.base ?_
  intro A16 c16 w16 hown hgr
  obtain ⟨v16, hv⟩ : ∃ v, v = Value.slice A16 ((low mark 4 ++ (low k 1 ++ low m 1) ++ low b 2 ++ low g 2 ++ low s 2 ++ low n 2).length + 4) c16 := ⟨_, rfl⟩
  rw [← hv] at hown ⊢
  have T := Lib.hid (T.out.grow hown hgr)
  clear hown hgr hv HH
  refine hK _ _ (fun _ => ⟨T.out.box, T.out.shp⟩) ?_
  simp only [Act.put, List.setIfInBounds_toArray, List.set_cons_zero, List.set_cons_succ]
  obtain ⟨AX, cX, hv, _, _, _, hh, _⟩ := own_slice T.out.own
  subst hv
  have HH := Lib.hid hh
  clear hh
  refine early_only (i := 9) (by kernel_rfl) rfl (fun K hK => ?_)
  simp only [opWp, List.getElem?_toArray, List.getElem?_cons_succ, List.getElem?_cons_zero]
  go_simp
  go_at_call 13
  refine (sealed_any AX _ cX _ w16 (by simp [low_len]) HH.out).mono ?_
  rintro e w17 ⟨v17, rfl, hf⟩
  have T := Lib.hid (T.out.other hf)
  clear hf HH
  refine hK _ _ (fun _ => ⟨T.out.box, T.out.shp⟩) ?_
  refine early_take (i := 10) 4 v17 rfl rfl (by kernel_rfl) (by kernel_rfl) (by kernel_rfl) (by kernel_rfl) rfl (fun _ _ _ h => h) (fun w' hw' => by go_simp) ⟨T.out.box, T.out.shp⟩ ?_
  simp only [Act.put, List.setIfInBounds_toArray, List.set_cons_zero, List.set_cons_succ]
  refine early_done (by kernel_rfl) ?_
  obtain ⟨Q, hQ⟩ : ∃ Q, Q = sealL (head ⟨m, b, g, s, n, l, k⟩) := ⟨_, rfl⟩
  have HQ := Lib.hid (show sector ⟨m, b, g, s, n, l, k⟩ = pad Q b by rw [hQ]; rfl)
  have Q22 := Lib.hid (show Q.length = 22 by rw [hQ, sealL_len, head_len])
  have T := Lib.hid (show Tel w w17 #[.int .i64 (m : Int), .int .i64 (b : Int), .int .i64 (g : Int), .int .i64 (s : Int), .int .i64 (n : Int), .int .i64 (l : Int), .int .i64 (k : Int)] #[.int .i64 (m : Int), .int .i64 (b : Int), .int .i64 (g : Int), .int .i64 (s : Int), .int .i64 (n : Int), .int .i64 (l : Int)] v17 Q by rw [hQ]; exact T.out)
  clear hQ
  go_wp2
  go_loopw [4] (fun v wr => ∃ j : Nat, 22 ≤ j ∧ j ≤ b ∧ lenV v = j ∧ Tel w wr #[.int .i64 (m : Int), .int .i64 (b : Int), .int .i64 (g : Int), .int .i64 (s : Int), .int .i64 (n : Int), .int .i64 (l : Int), .int .i64 (k : Int)] #[.int .i64 (m : Int), .int .i64 (b : Int), .int .i64 (g : Int), .int .i64 (s : Int), .int .i64 (n : Int), .int .i64 (l : Int)] v (pad Q j)) (fun v _ => b - lenV v)
  case atStart =>
    refine ⟨22, Nat.le_refl _, h22, ?_, by rw [pad_self Q22.out]; exact T.out⟩
    obtain ⟨A, c, e, _⟩ := own_slice T.out.own
    rw [e, Q22.out]
    rfl
  case round =>
    obtain ⟨j, hj, hjb, hlen, hT⟩ := hrel
    obtain ⟨A, c, e, _, _, hnil, hh, _⟩ := own_slice hT.own
    have hpl : (pad Q j).length = j := pad_len Q j (by rw [Q22.out]; exact hj)
    rw [hpl] at e hh
    subst e
    have c1 := hT.shp.cell 1
    have T := Lib.hid hT
    have PL := Lib.hid hpl
    have hsz := hT.base
    clear hlen hT hpl hh hnil
    by_cases hlt : j < b
    · go_wp2_with (at_builtin; refine wpList_append_has rfl (.tmp 45) (.tmp 46) rfl (w.heap.size + 1 + 1) (.slice A j c) j (pad Q j) rfl (own_len (own_below T.out.own ((Below.refl _ _).alloc (Nat.le_refl _) _)) PL.out) (some ⟨wr.heap.size, 0, none⟩) 1 1 [0#8] rfl (one_nought wr) (fun e => by cases e) (by omega) (by simp; omega) ?_; intro A3 c3 w3 hown3 hg3 _; have R := Lib.hid ((T.out.up ((Below.refl _ _).alloc (Nat.le_refl _) _)).grow (M := pad Q (j + 1)) (by rw [← fill_next Q j (by rw [Q22.out]; exact hj), List.map_append]; exact hown3) hg3); clear hown3 hg3)
      clear c1
      go_roundw
      case rel => exact ⟨j + 1, by omega, by omega, rfl, R.out⟩
      case measure => simp [lenV]; omega
    · obtain rfl : j = b := by omega
      go_wp2
      go_ret
      rw [HQ.out]
      exact ⟨_, rfl, own_base (own_len T.out.own PL.out) (fun k hk => by have := (T.out.own.lt k hk).1; omega), T.out.bel⟩

theorem tells_any (x : Lab) (w : World) (hf : x.fits) (hb : 22 ≤ x.b ∧ x.b ≤ 512) : Calls Try.prog 12 #[.agg x.cs] w (Cloned w x.b (sector x)) := by
  obtain ⟨m, b, g, s, n, l, k⟩ := x
  obtain ⟨h1, h2, h3, h4, h5, h6, h7⟩ := hf
  exact tells_at m b g s n l k w h1 hb.2 h3 h4 h5 h6 h7 hb.1

end Go.Proofs.Ytkhjeaabhjfkgaa
