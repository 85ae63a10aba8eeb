/-
  THE WALK OF Tells: a note's bytes, as the document has them.
-/
import Derived.Test.YtmdgnglefikpjaaEncode
namespace Go.Proofs.Ytmdgnglefikpjaa
open Go.RowKit
set_option linter.unusedVariables false
set_option maxRecDepth 100000

/-- 'append' of bytes to a row of the call's own, as one operation. -/
theorem wp_append_has {w : World} {o : Oper} {a : Act} {K : Act → World → Prop} {Q : Exit → Act → World → Prop} (s x : Operand)
    (ho : o.op = .call { callee := .builtin .append, args := #[s, x], argTypes := #[30, 30] }) (base : Nat) (v : Value) (n : Nat) (l : List (BitVec 8)) (hs : a.eval s = v) (hown : w.ownsRow base 5 1 v n (l.map val))
    (S : Addr) (m c : Nat) (k : List (BitVec 8)) (hx : a.eval x = .slice (some S) m c) (hk : Has w (some S) m k) (hm : n + m ≤ 100000000) (hbase : base ≤ w.heap.size)
    (h : ∀ A cap w', w'.ownsRow base 5 1 (.slice A (n + m) cap) (n + m) ((l ++ k).map val) → w.grownBy w' v.ownBlock → (∀ g, (Value.slice A (n + m) cap).ownBlock = some g → v.ownBlock = some g ∨ w.heap.size ≤ g) → K (a.put o.dst (.slice A (n + m) cap)) w') :
    Oper.wp Try.prog o a w K Q := by
  obtain ⟨i0, hi, hz0, hz1, hz2⟩ := info_parts byte_info
  obtain ⟨v', w', hr, h2, h3, h4, h5⟩ := run_append_own_at (P := Try.prog) w base 30 o.type 5 i0 _ 1 1 Try.underlying30 hi hz0 hz1 hz2 rfl (by decide) v n (l.map val) hown S m c (k.map val) (by simp [hk.1]) hk.cells (val_one k) (by unfold maxLen; omega) (by omega) hbase
  obtain ⟨A, cap, rfl⟩ : ∃ A cap, v' = .slice A (n + m) cap := by
    rcases h2.2 with ⟨rfl, e⟩ | ⟨g, cap, cur, rfl, _⟩
    · exact ⟨none, 0, by rw [e]⟩
    · exact ⟨_, cap, rfl⟩
  unfold Oper.wp execOp
  simp only [ho, resolve, invoke, builtin, Sem.run_bind, Sem.run_pure, Result.andThen_ok, List.map_toArray, List.map_cons, List.map_nil, hs, hx, hr]
  refine h A cap w' (by rw [List.map_append]; exact h2) h3 (fun g hg => ?_)
  rcases h5 with e | e
  · exact .inl (by rw [← e]; exact hg)
  · rw [e] at hg
    injection hg with hg
    exact .inr (by omega)

/-- The note in the first block; a row of the call's own that holds L. -/
structure Tel (w0 w : World) (cs : Array Value) (v : Value) (L : List (BitVec 8)) : Prop where
  box : At w w0.heap.size cs 28
  own : w.ownsRow (w0.heap.size + 1) 5 1 v L.length (L.map val)
  bel : Below w0.heap.size w0 w
theorem Tel.up {w0 w w' : World} {cs : Array Value} {v : Value} {L : List (BitVec 8)} (h : Tel w0 w cs v L) (hb : Below w.heap.size w w') : Tel w0 w' cs v L :=
  ⟨h.box.below hb h.box.lt, own_below h.own hb, h.bel.trans (hb.mono h.bel.size)⟩
theorem Tel.drew {w0 w : World} {cs : Array Value} {v : Value} {L : List (BitVec 8)} (h : Tel w0 w cs v L) : Tel w0 w.drew cs v L := ⟨h.box, h.own, below_drewN h.bel 1⟩
theorem Tel.base {w0 w : World} {cs : Array Value} {v : Value} {L : List (BitVec 8)} (h : Tel w0 w cs v L) : w0.heap.size + 1 ≤ w.heap.size := h.box.lt
theorem Tel.grow {w0 w w' : World} {cs : Array Value} {v v' : Value} {L M : List (BitVec 8)} {n : Nat} (h : Tel w0 w cs v L) (hown : w'.ownsRow (w0.heap.size + 1) 5 1 v' n (M.map val)) (hg : w.grownBy w' v.ownBlock) : Tel w0 w' cs v' M := by
  have lo : ∀ k, v.ownBlock = some k → w0.heap.size + 1 ≤ k := fun k hk => (h.own.lt k hk).1
  have bt : But (fun k => v.ownBlock = some k) w w' := (But.refl _ _).grown hg (fun k hk _ => hk)
  have hn : M.length = n := by have := hown.1; simpa using this
  exact ⟨h.box.but bt (fun e => by have := lo _ e; omega), by rw [hn]; exact hown, h.bel.trans (bt.below (fun k e => by have := lo k e; omega) (by have := h.base; omega))⟩
/-- What grows leaves other blocks as they were. -/
theorem Tel.keep {w0 w w' : World} {cs xs : Array Value} {v : Value} {L : List (BitVec 8)} {g : Nat} {t : TypeId} (h : Tel w0 w cs v L) (hg : w.grownBy w' v.ownBlock) (ha : At w g xs t) (hn : v.ownBlock ≠ some g) : At w' g xs t :=
  ha.but (S := fun k => v.ownBlock = some k) ((But.refl _ _).grown hg (fun k hk _ => hk)) hn
/-- Another row of the call's own, in its place. -/
theorem Tel.other {w0 w w' : World} {cs : Array Value} {v v' : Value} {L M : List (BitVec 8)} {n : Nat} (h : Tel w0 w cs v L) (hf : Fresh w n M v' w') : Tel w0 w' cs v' M := by
  have hn : M.length = n := by have := hf.1.1; simpa using this
  have h1 := h.up hf.2
  exact ⟨h1.box, by rw [hn]; exact own_base hf.1 (fun k hk => by have := (hf.1.lt k hk).1; have := h.base; omega), h1.bel⟩
theorem own_len {w : World} {base n m : Nat} {v : Value} {L : List (BitVec 8)} (h : w.ownsRow base 5 1 v n (L.map val)) (e : L.length = m) : w.ownsRow base 5 1 v m (L.map val) := by
  have := h.1
  simp at this
  have e2 : n = m := by omega
  rw [← e2]
  exact h
theorem val_byte (N : Nat) (h : N < 256) : val (byteAt N 0) = .int .u8 (N : Int) := by
  unfold val byteAt
  rw [BitVec.toNat_ofNat]
  congr 1
  simp
  omega
theorem one_byte {w : World} {k : Nat} (hk : k < 256) : Has (w.alloc (.cells #[.int .u8 (k : Int)] 5)) (some ⟨w.heap.size, 0, none⟩) 1 (low k 1) := by
  refine Has.of_block (cs := #[.int .u8 (k : Int)]) (heap_alloc_new w _) rfl fun j hj => ?_
  have hj' : j < 1 := hj
  match j, hj' with
  | 0, _ => exact (congrArg some (val_byte k hk)).symm
theorem own_byte {w : World} {k : Nat} (hk : k < 256) : (w.alloc (.cells #[.int .u8 (k : Int)] 5)).ownsRow w.heap.size 5 1 (.slice (some ⟨w.heap.size, 0, none⟩) 1 1) 1 ((low k 1).map val) := by
  refine own_of_row (l := low k 1) ?_ rfl (by unfold maxLen; omega) (Nat.le_refl _)
  rw [heap_alloc_new]
  show _ = some (Obj.cells #[val (byteAt k 0)] 5 (0, 0))
  rw [val_byte k hk]
theorem wrap8 {N : Nat} (h : N < 256) : IntKind.u8.wrap (N : Int) = (N : Int) := by
  simp [IntKind.wrap, IntKind.signed, IntKind.bits]
  omega
theorem one_nought (w : World) : Has (w.alloc (.cells #[.int .u8 0] 5)) (some ⟨w.heap.size, 0, none⟩) 1 [0#8] :=
  Has.of_block (cs := #[.int .u8 0]) (heap_alloc_new w _) rfl fun j hj => by
    have hj' : j < 1 := hj
    match j, hj' with
    | 0, _ => rfl
def lenV : Value → Nat
  | .slice _ n _ => n
  | _ => 0
theorem fill_next (L : List (BitVec 8)) (j : Nat) (h : L.length ≤ j) : pad L j ++ [0#8] = pad L (j + 1) := by
  unfold pad
  rw [List.append_assoc, show j + 1 - L.length = (j - L.length) + 1 by omega, List.replicate_succ']
theorem some_of {w : World} {A : Option Addr} {n : Nat} {l : List (BitVec 8)} (h : Has w A n l) (hn : 0 < n) : ∃ S, A = some S := by
  obtain ⟨b, o, e⟩ := h.some_ hn
  exact ⟨_, e⟩


set_option maxHeartbeats 2000000 in
theorem tells_any (q s : Nat) (z : Int) (A : Option Addr) (n c : Nat) (es : List En) (block M : Nat) (w : World) (hq : q < 18446744073709551616) (hz : z + 1 = (s : Int)) (hs : s < 65536) (hn : n ≤ 1000) (hb : block ≤ 1000000) (hM : M = max (15 + 5 * n) block) (hf : ∀ x ∈ es, x.fits) (h : Ers w A n es) :
    Calls Try.prog 12 #[.agg #[.int .u64 (q : Int), .int .i64 z, .slice A n c], .int .i64 (block : Int)] w (Cloned w M (told q s es M)) := by
  have H := Lib.hid h
  have HL := Lib.hid h.1
  have HF := Lib.hid hf
  have HM := Lib.hid hM
  clear h hf hM
  have B7 := Lib.hid (show At ((w.alloc (.cells #[.int .u64 (q : Int), .int .i64 z, .slice A n c] 28)).alloc (.cells #[.int .u8 78] 5)) w.heap.size #[.int .u64 (q : Int), .int .i64 z, .slice A n c] 28 from (At.new _ _ rfl).alloc _)
  have OW := Lib.hid (show ((w.alloc (.cells #[.int .u64 (q : Int), .int .i64 z, .slice A n c] 28)).alloc (.cells #[.int .u8 78] 5)).ownsRow (w.heap.size + 1) 5 1 (.slice (some ⟨w.heap.size + 1, 0, none⟩) 1 1) 1 ((low 78 1).map val) by have := own_byte (w := w.alloc (.cells #[.int .u64 (q : Int), .int .i64 z, .slice A n c] 28)) (k := 78) (by omega); simpa using this)
  have BB := Lib.hid (show Below w.heap.size w ((w.alloc (.cells #[.int .u64 (q : Int), .int .i64 z, .slice A n c] 28)).alloc (.cells #[.int .u8 78] 5)) from ((Below.refl _ _).alloc (Nat.le_refl _) _).alloc (by simp) _)
  have T := Lib.hid (show Tel w ((w.alloc (.cells #[.int .u64 (q : Int), .int .i64 z, .slice A n c] 28)).alloc (.cells #[.int .u8 78] 5)) #[.int .u64 (q : Int), .int .i64 z, .slice A n c] (.slice (some ⟨w.heap.size + 1, 0, none⟩) 1 1) (low 78 1) from ⟨B7.out, OW.out, BB.out⟩)
  clear B7 OW BB
  go_enter Try.func12, Try.ntmps12
  have c0 := T.out.box.cell 0
  go_wp2_with fail
  clear c0
  refine (put_any 8 q _ (by omega) hq).mono ?_
  rintro e w1 ⟨v1, rfl, hf⟩
  obtain ⟨A1, c1, rfl, _, _, _, hh, _⟩ := own_slice hf.1
  obtain ⟨S1, rfl⟩ := some_of hh (by omega)
  have T := Lib.hid (T.out.up hf.2)
  have HH := Lib.hid hh
  clear hf hh
  go_wp2_with (at_builtin; refine wpList_append_has rfl (.tmp 8) (.tmp 11) rfl (w.heap.size + 1) (.slice (some ⟨w.heap.size + 1, 0, none⟩) 1 1) 1 (low 78 1) rfl T.out.own (some S1) 8 c1 (low q 8) rfl HH.out (fun e => by cases e) (by omega) T.out.base ?_; intro A2 c2 w2 hown2 hg2 _; have T := Lib.hid (T.out.grow (M := low 78 1 ++ low q 8) (by rw [List.map_append]; exact hown2) hg2); have c1 := T.out.box.cell 1; clear hown2 hg2)
  clear c1
  refine (put_any 2 s _ (by omega) (by omega)).mono ?_
  rintro e w3 ⟨v3, rfl, hf⟩
  obtain ⟨A3, c3, rfl, _, _, _, hh, _⟩ := own_slice hf.1
  obtain ⟨S3, rfl⟩ := some_of hh (by omega)
  have T := Lib.hid (T.out.up hf.2)
  have HH := Lib.hid hh
  clear hf hh
  go_wp2_with (at_builtin; refine wpList_append_has rfl (.tmp 13) (.tmp 18) rfl (w.heap.size + 1) (.slice A2 9 c2) 9 (low 78 1 ++ low q 8) rfl T.out.own (some S3) 2 c3 (low s 2) rfl HH.out (fun e => by cases e) (by omega) T.out.base ?_; intro A4 c4 w4 hown4 hg4 _; have T := Lib.hid (show Tel w w4 #[.int .u64 (q : Int), .int .i64 z, .slice A n c] (.slice A4 11 c4) (front q s) from T.out.grow (M := front q s) (by have h := hown4; rw [← List.map_append] at h; exact h) hg4); have c2 := T.out.box.cell 2; clear hown4 hg4)
  clear c2
  go_loopw [5, 23] (fun v i wr => ∃ k : Nat, k ≤ n ∧ i = .int .i64 k ∧ Tel w wr #[.int .u64 (q : Int), .int .i64 z, .slice A n c] v (front q s ++ ents (es.take k))) (fun _ i _ => n - (intOf i).toNat)
  case atStart => exact ⟨0, Nat.zero_le _, rfl, by simpa [ents] using T.out⟩
  case round =>
    clear T HH
    obtain ⟨k, hk, rfl, hT⟩ := hrel
    have T := Lib.hid hT
    have HH := Lib.hid (H.out.below hT.bel)
    clear hT
    by_cases hlt : k < n
    · obtain ⟨b, off, rfl⟩ := H.out.some_ (by omega)
      have hkl : k < es.length := by rw [HL.out]; exact hlt
      obtain ⟨hc, hc'⟩ := HH.out.cell k hlt
      obtain ⟨hx1, hx2⟩ := HF.out es[k] (List.getElem_mem hkl)
      have EN := Lib.hid (fents_next (front q s) es k hkl)
      have LN := Lib.hid (show (front q s ++ ents (es.take k)).length = 11 + 5 * k by rw [List.length_append, front_len, ents_len, List.length_take, Nat.min_eq_left (by omega)])
      generalize front q s ++ ents (es.take k) = F at *
      obtain ⟨⟨X, Y⟩, hx⟩ : ∃ x, es[k] = x := ⟨_, rfl⟩
      rw [hx] at hc hc' hx1 hx2 EN
      clear hx
      simp only at hc hc' hx1 hx2
      have HS := Lib.hid (show w.heap.size < wr.heap.size from T.out.base)
      have OWN := Lib.hid (show u5.ownBlock ≠ some wr.heap.size from fun e => by have := (T.out.own.lt _ e).2; omega)
      go_wp2_with fail
      have T := Lib.hid ((T.out.up ((Below.refl _ _).alloc (Nat.le_refl _) (.cells #[.int .i64 (X : Int), .int .i64 (Y : Int)] 48))).drew)
      have EB := Lib.hid (show At (wr.alloc (.cells #[.int .i64 (X : Int), .int .i64 (Y : Int)] 48)).drew wr.heap.size #[.int .i64 (X : Int), .int .i64 (Y : Int)] 48 from At.new _ _ rfl)
      refine wp_region_early (fun w' : World => At w' wr.heap.size #[.int .i64 (X : Int), .int .i64 (Y : Int)] 48) (fun _ => true) (by kernel_rfl) ?_
      change wpEarly _ _ _ _ _ _ 12 (Array.replicate 12 false) _ (wr.alloc (.cells #[.int .i64 (X : Int), .int .i64 (Y : Int)] 48)).drew
      generalize (wr.alloc (.cells #[.int .i64 (X : Int), .int .i64 (Y : Int)] 48)).drew = wa at *
      generalize hg : wr.heap.size = g at *
      clear hg
      have GL := Lib.hid EB.out.lt
      refine early_take (i := 0) 27 u5 rfl rfl (by kernel_rfl) (by kernel_rfl) (by kernel_rfl) (by kernel_rfl) rfl (fun _ _ _ h => h) (fun w' hw' => by go_simp) EB.out ?_
      simp only [Act.put, List.setIfInBounds_toArray, List.set_cons_zero, List.set_cons_succ]
      refine early_take (i := 1) 28 (.pointer (some ⟨g, 0, none⟩)) rfl rfl (by kernel_rfl) (by kernel_rfl) (by kernel_rfl) (by kernel_rfl) rfl (fun _ _ _ h => h) (fun w' hw' => by go_simp) EB.out ?_
      simp only [Act.put, List.setIfInBounds_toArray, List.set_cons_zero, List.set_cons_succ]
      refine early_take (i := 2) 29 (.int .i64 (X : Int)) rfl rfl (by kernel_rfl) (by kernel_rfl) (by kernel_rfl) (by kernel_rfl) rfl (fun _ _ _ h => h) (fun w' hw' => by have hc0 := hw'.cell 0; go_simp) EB.out ?_
      simp only [Act.put, List.setIfInBounds_toArray, List.set_cons_zero, List.set_cons_succ]
      refine early_take (i := 3) 30 (.int .u8 (X : Int)) rfl rfl (by kernel_rfl) (by kernel_rfl) (by kernel_rfl) (by kernel_rfl) rfl (fun _ _ _ h => h) (fun w' hw' => by go_simp; exact wrap8 hx1) EB.out ?_
      simp only [Act.put, List.setIfInBounds_toArray, List.set_cons_zero, List.set_cons_succ]
      refine early_take (i := 6) 33 (.pointer (some ⟨g, 1, none⟩)) rfl rfl (by kernel_rfl) (by kernel_rfl) (by kernel_rfl) (by kernel_rfl) rfl (fun _ _ _ h => h) (fun w' hw' => by go_simp) EB.out ?_
      simp only [Act.put, List.setIfInBounds_toArray, List.set_cons_zero, List.set_cons_succ]
      refine early_take (i := 7) 34 (.int .i64 (Y : Int)) rfl rfl (by kernel_rfl) (by kernel_rfl) (by kernel_rfl) (by kernel_rfl) rfl (fun _ _ _ h => h) (fun w' hw' => by have hc0 := hw'.cell 1; go_simp) EB.out ?_
      simp only [Act.put, List.setIfInBounds_toArray, List.set_cons_zero, List.set_cons_succ]
      refine early_take (i := 8) 35 (.int .u64 (Y : Int)) rfl rfl (by kernel_rfl) (by kernel_rfl) (by kernel_rfl) (by kernel_rfl) rfl (fun _ _ _ h => h) (fun w' hw' => by go_simp; exact wrap64 (by omega)) EB.out ?_
      simp only [Act.put, List.setIfInBounds_toArray, List.set_cons_zero, List.set_cons_succ]
      refine early_only (i := 4) (by kernel_rfl) rfl (fun K hK => ?_)
      simp only [opWp, List.getElem?_toArray, List.getElem?_cons_succ, List.getElem?_cons_zero]
      go_simp
      have T := Lib.hid (T.out.up ((Below.refl _ _).alloc (Nat.le_refl _) (.cells #[.int .u8 (X : Int)] 5)))
      have EB := Lib.hid (EB.out.alloc (.cells #[.int .u8 (X : Int)] 5))
      have HH := Lib.hid (one_byte (w := wa) hx1)
      generalize wa.alloc (.cells #[.int .u8 (X : Int)] 5) = wb at *
      generalize wa.heap.size = h3 at *
      refine hK _ _ (fun _ => EB.out) ?_
      refine early_only (i := 5) (by kernel_rfl) rfl (fun K hK => ?_)
      simp only [opWp, List.getElem?_toArray, List.getElem?_cons_succ, List.getElem?_cons_zero]
      refine wp_append_has (.tmp 27) (.tmp 31) rfl (w.heap.size + 1) u5 _ F rfl T.out.own ⟨h3, 0, none⟩ 1 1 (low X 1) rfl HH.out (by rw [LN.out]; omega) T.out.base ?_
      intro A6 c6 w6 hown hgr hwh
      obtain ⟨v6, hv⟩ : ∃ v, v = Value.slice A6 (F.length + 1) c6 := ⟨_, rfl⟩
      rw [← hv] at hown hwh ⊢
      have OWN6 := Lib.hid (show v6.ownBlock ≠ some g from fun e => (hwh g e).elim OWN.out (fun h => by have := EB.out.lt; omega))
      have EB := Lib.hid (T.out.keep hgr EB.out OWN.out)
      have OWN := OWN6
      clear hwh OWN6
      have T := Lib.hid (T.out.grow hown hgr)
      clear hown hgr hv HH
      refine hK _ _ (fun _ => EB.out) ?_
      simp only [Act.put, List.setIfInBounds_toArray, List.set_cons_zero, List.set_cons_succ]
      refine early_only (i := 9) (by kernel_rfl) rfl (fun K hK => ?_)
      simp only [opWp, List.getElem?_toArray, List.getElem?_cons_succ, List.getElem?_cons_zero]
      go_simp
      go_at_call 26
      refine (put_any 4 Y _ (by omega) (by omega)).mono ?_
      rintro e w7 ⟨v7, rfl, hf⟩
      obtain ⟨A7, c7, rfl, _, _, _, hh, _⟩ := own_slice hf.1
      obtain ⟨S7, rfl⟩ := some_of hh (by omega)
      have T := Lib.hid (T.out.up hf.2)
      have EB := Lib.hid (EB.out.below hf.2 EB.out.lt)
      have HH := Lib.hid hh
      clear hf hh
      refine hK _ _ (fun _ => EB.out) ?_
      refine early_only (i := 10) (by kernel_rfl) rfl (fun K hK => ?_)
      simp only [opWp, List.getElem?_toArray, List.getElem?_cons_succ, List.getElem?_cons_zero]
      refine wp_append_has (.tmp 32) (.tmp 36) rfl (w.heap.size + 1) v6 _ (F ++ low X 1) rfl T.out.own S7 4 c7 (low Y 4) rfl HH.out (by rw [List.length_append, LN.out, low_len]; omega) T.out.base ?_
      intro A8 c8 w8 hown hgr _
      obtain ⟨v8, hv⟩ : ∃ v, v = Value.slice A8 ((F ++ low X 1).length + 4) c8 := ⟨_, rfl⟩
      rw [← hv] at hown ⊢
      have EB := Lib.hid (T.out.keep hgr EB.out OWN.out)
      have T := Lib.hid (T.out.grow hown hgr)
      clear hown hgr hv HH
      refine hK _ _ (fun _ => EB.out) ?_
      simp only [Act.put, List.setIfInBounds_toArray, List.set_cons_zero, List.set_cons_succ]
      refine early_take (i := 11) 5 v8 rfl rfl (by kernel_rfl) (by kernel_rfl) (by kernel_rfl) (by kernel_rfl) rfl (fun _ _ _ h => h) (fun w' hw' => by go_simp) EB.out ?_
      simp only [Act.put, List.setIfInBounds_toArray, List.set_cons_zero, List.set_cons_succ]
      refine early_done (by kernel_rfl) ?_
      go_wp2_with fail
      have T2 := T.out
      rw [← EN.out] at T2
      exact ⟨⟨k + 1, by omega, by go_num, T2⟩, by simp [intOf]; omega⟩
    · obtain rfl : k = n := by omega
      have ELL : es.take k = es := List.take_of_length_le (by rw [HL.out]; omega)
      rw [ELL] at T
      clear ELL
      have LN := Lib.hid (show (body q s es).length = 11 + 5 * k by rw [body_len, HL.out])
      have T := Lib.hid (show Tel w wr #[.int .u64 (q : Int), .int .i64 z, .slice A k c] u5 (body q s es) from T.out)
      have HT := Lib.hid (show told q s es M = pad (sealL (body q s es)) M from rfl)
      generalize body q s es = F at *
      obtain ⟨AX, cX, hv, _, _, _, hh, _⟩ := own_slice T.out.own
      subst hv
      have HX := Lib.hid hh
      clear hh
      go_wp2_with fail
      refine (sealed_any AX _ cX _ wr (by rw [LN.out]; omega) HX.out).mono ?_
      rintro e w17 ⟨v17, rfl, hf⟩
      have T := Lib.hid (T.out.other hf)
      clear hf HX
      have Q15 := Lib.hid (show (sealL F).length = 15 + 5 * k by rw [sealL_len, LN.out]; omega)
      generalize sealL F = Q at *
      go_wp2
      go_loopw [5] (fun v wr => ∃ j : Nat, 15 + 5 * k ≤ j ∧ j ≤ M ∧ lenV v = j ∧ Tel w wr #[.int .u64 (q : Int), .int .i64 z, .slice A k c] v (pad Q j)) (fun v _ => M - lenV v)
      case atStart =>
        refine ⟨15 + 5 * k, Nat.le_refl _, by have := HM.out; omega, ?_, by rw [pad_self Q15.out]; exact T.out⟩
        obtain ⟨A, c, e, _⟩ := own_slice T.out.own
        rw [e, Q15.out]
        rfl
      case round =>
        obtain ⟨j, hj, hjb, hlen, hT⟩ := hrel
        obtain ⟨A5, c5, e, _, _, hnil, hh, _⟩ := own_slice hT.own
        have hpl : (pad Q j).length = j := pad_len Q j (by rw [Q15.out]; exact hj)
        rw [hpl] at e hh
        subst e
        have T := Lib.hid hT
        have PL := Lib.hid hpl
        have hsz := hT.base
        have hMM : M ≤ 1000000 := by have := HM.out; omega
        clear hlen hT hpl hh hnil
        by_cases hlt2 : j < block
        · have hjM : j < M := by have := HM.out; omega
          go_wp2_with (at_builtin; refine wpList_append_has rfl (.tmp 45) (.tmp 46) rfl (w.heap.size + 1) (.slice A5 j c5) j (pad Q j) rfl (own_len (own_below T.out.own ((Below.refl _ _).alloc (Nat.le_refl _) _)) PL.out) (some ⟨wr.heap.size, 0, none⟩) 1 1 [0#8] rfl (one_nought wr) (fun e => by cases e) (by omega) (by simp; omega) ?_; intro A3 c3 w3 hown3 hg3 _; have R := Lib.hid ((T.out.up ((Below.refl _ _).alloc (Nat.le_refl _) _)).grow (M := pad Q (j + 1)) (by rw [← fill_next Q j (by rw [Q15.out]; exact hj), List.map_append]; exact hown3) hg3); clear hown3 hg3)
          go_roundw
          case rel => exact ⟨j + 1, by omega, by omega, rfl, R.out⟩
          case measure => simp [lenV]; omega
        · obtain rfl : j = M := by have := HM.out; omega
          go_wp2
          go_ret
          rw [HT.out]
          exact ⟨_, rfl, own_base (own_len T.out.own PL.out) (fun k hk => by have := (T.out.own.lt k hk).1; omega), T.out.bel⟩
end Go.Proofs.Ytmdgnglefikpjaa
