/-
  TEXTS JOINED: LgD.
-/
import Derived.Test.YtplmdmchkaacoaaGreatJ41
import Derived.Test.YtplmdmchkaacoaaGreatJ42
import Derived.Test.YtplmdmchkaacoaaGreatJ27
import Derived.Test.YtplmdmchkaacoaaGreatJ37

/-
  THE WALKS OF block, staged, Read.
-/
namespace Go.Proofs.YtplmdmchkaacoaaGreat
open Go.RowKit
open L7 (Rr Rc)
open L12 (Sg)
open L13 (setN)
set_option linter.unusedVariables false
set_option maxRecDepth 100000

theorem wp_append_zeros {w : World} {o : Oper} {a : Act} {K : Act → World → Prop} {Q : Exit → Act → World → Prop} (s x : Operand)
    (ho : o.op = .call { callee := .builtin .append, args := #[s, x], argTypes := #[57, 3] }) (base : Nat) (v : Value) (n : Nat) (l : List (BitVec 8)) (hs : a.eval s = v) (hown : w.ownsRow base 5 1 v n (l.map val))
    (m : Nat) (hx : a.eval x = .int .i64 (m : Int)) (hm : n + m ≤ 1000000) (hbase : base ≤ w.heap.size)
    (h : ∀ v' w', w'.ownsRow base 5 1 v' (n + m) ((l ++ List.replicate m 0#8).map val) → w.grownBy w' v.ownBlock → (v'.ownBlock = v.ownBlock ∨ v'.ownBlock = some w.heap.size) → K (a.put o.dst v') w') :
    Oper.wp Tryz.prog o a w K Q := by
  obtain ⟨v', w', hr, h2, h3, h4⟩ := runz_own (w := w) base o.type v n l hown m hm hbase
  unfold Oper.wp execOp
  simp only [ho, resolve, invoke, builtin, Sem.run_bind, Sem.run_pure, Result.andThen_ok, List.map_toArray, List.map_cons, List.map_nil, hs, hx, hr]
  exact h v' w' h2 h3 h4
theorem fl_mem {x : Int} {r : Rr} : ∀ {l : List Rr}, L14.fl Rr.lba x l = some r → r ∈ l
  | [], h => by cases h
  | y :: t, h => by
    rw [L14.fl_cons] at h
    split at h
    · split at h
      · injection h with h; rw [h]; exact List.mem_cons_self
      · cases h
    · exact List.mem_cons_of_mem _ (fl_mem h)
theorem blk_len {nb : Nat} {d : Bytes} (h : d.length ≤ nb) : (blk nb d).length = nb := by
  unfold blk
  simp
  omega
section
variable {w w' : World} {P : Pl} {q : Ql} {O : Nat → Prop} {x : LS} {l : Int}
set_option maxHeartbeats 800000 in
theorem block_any (h : LG w P q O x l) (A : Option Addr) (n c : Nat) (d : Bytes) (hd : Has w A n d) (hn : n ≤ x.a.nb) : Calls Tryz.prog 62 #[.pointer (some ⟨q.b, 0, none⟩), .slice A n c] w (Cloned w x.a.nb (blk x.a.nb d)) := by
  have H := Lib.hid h
  have HD := Lib.hid (show Has w.drew A n d from hd)
  have NN := small_nats h.wf
  have hb := h.wf.small.hb
  have hlen := hd.1
  have e1 : IntKind.i64.wrap (x.a.b - (n : Int)) = x.a.b - (n : Int) := wrap_of (by omega) (by omega)
  have hmax := fun (w : World) => run_max2 (P := Tryz.prog) w #[3, 3] 3 (x.a.b - (n : Int)) 0 ((x.a.nb - n : Nat) : Int) (by omega)
  have S0 : (fun w' : World => LB w' P q x) w.drew := h.lb
  clear h hd
  go_enter Tryz.func62, Tryz.ntmps62
  go_wp2_with fail
  refine wp_region_early (fun w' : World => LB w' P q x) (fun _ => true) (by kernel_rfl) ?_
  change wpEarly _ _ _ _ _ _ 13 (Array.replicate 13 false) _ _
  refine early_take (i := 0) 5 (.slice A n c) rfl rfl (by kernel_rfl) (by kernel_rfl) (by kernel_rfl) (by kernel_rfl) rfl (fun _ _ _ h => h) (fun w' hw' => by go_simp) S0 ?_
  simp only [Act.put, List.setIfInBounds_toArray, List.set_cons_zero, List.set_cons_succ]
  refine early_take (i := 2) 7 (.pointer (some ⟨q.b, 0, none⟩)) rfl rfl (by kernel_rfl) (by kernel_rfl) (by kernel_rfl) (by kernel_rfl) rfl (fun _ _ _ h => h) (fun w' hw' => by go_simp) S0 ?_
  simp only [Act.put, List.setIfInBounds_toArray, List.set_cons_zero, List.set_cons_succ]
  refine early_take (i := 3) 8 (.pointer (some ⟨q.b, 0, none⟩)) rfl rfl (by kernel_rfl) (by kernel_rfl) (by kernel_rfl) (by kernel_rfl) rfl (fun _ _ _ h => h) (fun w' hw' => by go_simp) S0 ?_
  simp only [Act.put, List.setIfInBounds_toArray, List.set_cons_zero, List.set_cons_succ]
  refine early_take (i := 4) 9 (.pointer (some ⟨q.b, 0, none⟩)) rfl rfl (by kernel_rfl) (by kernel_rfl) (by kernel_rfl) (by kernel_rfl) rfl (fun _ _ _ h => h) (fun w' hw' => by go_simp) S0 ?_
  simp only [Act.put, List.setIfInBounds_toArray, List.set_cons_zero, List.set_cons_succ]
  refine early_take (i := 5) 10 (.pointer (some ⟨q.b, 1, none⟩)) rfl rfl (by kernel_rfl) (by kernel_rfl) (by kernel_rfl) (by kernel_rfl) rfl (fun _ _ _ h => h) (fun w' hw' => by go_simp) S0 ?_
  simp only [Act.put, List.setIfInBounds_toArray, List.set_cons_zero, List.set_cons_succ]
  refine early_take (i := 6) 11 (.int .i64 x.a.b) rfl rfl (by kernel_rfl) (by kernel_rfl) (by kernel_rfl) (by kernel_rfl) rfl (fun _ _ _ h => h) (fun w' hw' => by have k := hw'.c1; go_simp) S0 ?_
  simp only [Act.put, List.setIfInBounds_toArray, List.set_cons_zero, List.set_cons_succ]
  refine early_take (i := 7) 12 (.slice A n c) rfl rfl (by kernel_rfl) (by kernel_rfl) (by kernel_rfl) (by kernel_rfl) rfl (fun _ _ _ h => h) (fun w' hw' => by go_simp) S0 ?_
  simp only [Act.put, List.setIfInBounds_toArray, List.set_cons_zero, List.set_cons_succ]
  refine early_take (i := 8) 13 (.int .i64 (n : Int)) rfl rfl (by kernel_rfl) (by kernel_rfl) (by kernel_rfl) (by kernel_rfl) rfl (fun _ _ _ h => h) (fun w' hw' => by go_simp) S0 ?_
  simp only [Act.put, List.setIfInBounds_toArray, List.set_cons_zero, List.set_cons_succ]
  refine early_take (i := 9) 14 (.int .i64 (x.a.b - (n : Int))) rfl rfl (by kernel_rfl) (by kernel_rfl) (by kernel_rfl) (by kernel_rfl) rfl (fun _ _ _ h => h) (fun w' hw' => by go_simp) S0 ?_
  simp only [Act.put, List.setIfInBounds_toArray, List.set_cons_zero, List.set_cons_succ]
  refine early_take (i := 10) 15 (.int .i64 ((x.a.nb - n : Nat) : Int)) rfl rfl (by kernel_rfl) (by kernel_rfl) (by kernel_rfl) (by kernel_rfl) rfl (fun _ _ _ h => h) (fun w' hw' => by have k := hmax w'; go_simp) S0 ?_
  simp only [Act.put, List.setIfInBounds_toArray, List.set_cons_zero, List.set_cons_succ]
  refine early_only (i := 1) (by kernel_rfl) rfl (fun K hK => ?_)
  simp only [opWp, List.getElem?_toArray, List.getElem?_cons_succ, List.getElem?_cons_zero]
  go_simp
  go_at_call 55
  refine (L7.bclone_any A n c d _ (by omega) HD.out).mono ?_
  rintro e w2 ⟨v2, rfl, ho, hb⟩
  have O2 := Lib.hid ho
  have B2 := Lib.hid (below_drew hb)
  have S2 : (fun w' : World => LB w' P q x) w2 := (H.out.up B2.out).lb
  clear ho hb
  refine hK _ _ (fun _ => S2) ?_
  refine early_only (i := 11) (by kernel_rfl) rfl (fun K hK => ?_)
  simp only [opWp, List.getElem?_toArray, List.getElem?_cons_succ, List.getElem?_cons_zero]
  refine wp_append_zeros (.tmp 6) (.tmp 15) rfl w.heap.size v2 n d rfl O2.out (x.a.nb - n) rfl (by omega) B2.out.size ?_
  intro v3 w3 hown hg hv
  have O3 := Lib.hid hown
  have B3 := Lib.hid (B2.out.grown hg (by have := B2.out.size; omega) (fun k hk => (O2.out.lt k hk).1))
  have S3 : (fun w' : World => LB w' P q x) w3 := (H.out.up B3.out).lb
  clear hown hg hv
  refine hK _ _ (fun _ => S3) ?_
  refine early_take (i := 12) 4 v3 rfl rfl (by kernel_rfl) (by kernel_rfl) (by kernel_rfl) (by kernel_rfl) rfl (fun _ _ _ h => h) (fun w' hw' => by go_simp) S3 ?_
  simp only [Act.put, List.setIfInBounds_toArray, List.set_cons_zero, List.set_cons_succ]
  refine early_done (by kernel_rfl) ?_
  have e2 : n + (x.a.nb - n) = x.a.nb := by omega
  have O4 := O3.out
  rw [e2] at O4
  have O5 := Lib.hid O4
  clear O4 hmax e2
  go_wp2
  go_ret
  refine ⟨v3, rfl, ?_, B3.out⟩
  unfold blk
  rw [hlen]
  exact O5.out
/-- What a block has of which this is the last record. -/
def stag (nb : Nat) (k : Int) (d : Bytes) : Bytes := if k = 2 then blk nb [] else blk nb d
theorem staged_any (h : LG w P q O x l) (s : Nat) (k b : Int) (A : Option Addr) (n c : Nat) (d : Bytes) (hd : Has w A n d) (hn : n ≤ x.a.nb) :
    Calls Tryz.prog 61 #[.pointer (some ⟨q.b, 0, none⟩), .agg #[.int .u64 (s : Int), .int .i64 k, .int .i64 b, .slice A n c]] w (Cloned w x.a.nb (stag x.a.nb k d)) := by
  have HD := Lib.hid hd
  have H0 := Lib.hid h
  have NN := Lib.hid hn
  clear h hd hn
  unfold stag
  by_cases hk : k = 2
  · subst hk
    have HI := Lib.hid (show (if (2 : Int) = 2 then blk x.a.nb [] else blk x.a.nb d) = blk x.a.nb [] from if_pos rfl)
    rw [HI.out]
    clear HI
    have bel : Below w.heap.size w (w.alloc (.cells #[.int .u64 (s : Int), .int .i64 2, .int .i64 b, .slice A n c] 111)) := (Below.refl _ _).alloc (Nat.le_refl _) _
    have H := Lib.hid (H0.out.up bel)
    have B0 := Lib.hid bel
    have k1 := (At.new (w := w) (g := w.heap.size) #[.int .u64 (s : Int), .int .i64 2, .int .i64 b, .slice A n c] 111 rfl).cell 1
    clear bel
    go_enter Tryz.func61, Tryz.ntmps61
    go_wp2_with fail
    refine (block_any H.out none 0 0 [] (Has.nil _ _) (Nat.zero_le _)).mono ?_
    rintro e w2 ⟨v2, rfl, ho, hb⟩
    have O2 := Lib.hid (own_base ho (fun j hj => Nat.le_trans B0.out.size (ho.lt j hj).1))
    have B2 := Lib.hid (B0.out.trans (hb.mono B0.out.size))
    clear ho hb
    go_wp2
    go_ret
    exact ⟨v2, rfl, O2.out, B2.out⟩
  · have HI := Lib.hid (show (if k = 2 then blk x.a.nb [] else blk x.a.nb d) = blk x.a.nb d from if_neg hk)
    rw [HI.out]
    clear HI
    have bel : Below w.heap.size w (w.alloc (.cells #[.int .u64 (s : Int), .int .i64 k, .int .i64 b, .slice A n c] 111)) := (Below.refl _ _).alloc (Nat.le_refl _) _
    have H := Lib.hid (H0.out.up bel)
    have HD1 := Lib.hid (HD.out.below bel)
    have B0 := Lib.hid bel
    have k1 := (At.new (w := w) (g := w.heap.size) #[.int .u64 (s : Int), .int .i64 k, .int .i64 b, .slice A n c] 111 rfl).cell 1
    have k3 := (At.new (w := w) (g := w.heap.size) #[.int .u64 (s : Int), .int .i64 k, .int .i64 b, .slice A n c] 111 rfl).cell 3
    clear bel
    go_enter Tryz.func61, Tryz.ntmps61
    go_wp2_with fail
    refine (block_any H.out A n c d HD1.out NN.out).mono ?_
    rintro e w2 ⟨v2, rfl, ho, hb⟩
    have O2 := Lib.hid (own_base ho (fun j hj => Nat.le_trans B0.out.size (ho.lt j hj).1))
    have B2 := Lib.hid (B0.out.trans (hb.mono B0.out.size))
    clear ho hb
    go_wp2
    go_ret
    exact ⟨v2, rfl, O2.out, B2.out⟩
/-- What is read at a place. -/
def LS.at_ (x : LS) (p : Int) : Bytes := (x.a.d ((p / ((x.a.M : Int) - 2) + 1 + (1 + p % ((x.a.M : Int) - 2))) % (x.a.M : Int)).toNat).read (x.a.at_ (p / ((x.a.M : Int) - 2)))
/-- What a block reads as. -/
def LS.reads (x : LS) (b : Int) : Bytes :=
  match L14.fl Rr.lba b x.recs with
  | some r => stag x.a.nb r.kind r.l
  | none => if L13.lies x.a.lb x.V b = -1 then blk x.a.nb [] else x.at_ (L13.lies x.a.lb x.V b)
/-- Records that were answered, as the stage wants them. -/
theorem recs14 {w : World} {B : Nat} {v : Value} {R : List Rr} (h : L7.Recs w B v R) (hr : ∀ r ∈ R, (-9223372036854775808 ≤ r.lba ∧ r.lba ≤ 9223372036854775807) ∧ r.seq ≤ 18446744073709551615) :
    ∃ A c L, v = .slice A L.length c ∧ L14.Rs w A L.length L ∧ L.map Rc.abs = R ∧ L14.Rw w B v L ∧ (∀ a, A = some a → B ≤ a.block) ∧ (∀ y ∈ L, 0 < y.n → ∀ a, y.A = some a → B ≤ a.block) := by
  obtain ⟨L, h1, h2, h3, h4⟩ := h
  have hw : L14.Rw w B v L := ⟨h1.own, fun y hy => by
    have := hr y.abs (by rw [← h2]; exact List.mem_map_of_mem hy)
    exact ⟨h1.has y hy, h1.len y hy, this.1, this.2⟩, h1.off⟩
  obtain ⟨A, c, e, _, _, hs, ha, _⟩ := hw.form
  exact ⟨A, c, L, e, hs, h2, hw, fun a ha' => (ha a ha').1, h3⟩
theorem recs_in {x : LS} (ha : x.a.Wf) (hw : x.Wf) : ∀ r ∈ x.recs, (-9223372036854775808 ≤ r.lba ∧ r.lba ≤ 9223372036854775807) ∧ r.seq ≤ 18446744073709551615 := by
  intro r hr
  have h1 := (hw.ok r hr).lba
  have h2 := hw.top r hr
  have h3 := hw.rl
  have h4 := ha.small.hl
  omega
theorem few_recs {x : LS} (ha : x.a.Wf) (hw : x.Wf) : x.recs.length ≤ 9 := by
  have h1 := hw.few
  have h2 := ha.small.ok.2.2.1.2
  have hs := ha.small.hs
  have hm := ha.small.hm
  have : x.a.s * ((x.a.M : Int) - 2) ≤ 9 := Int.le_trans (Int.mul_le_mul (show x.a.s ≤ 3 by omega) (show (x.a.M : Int) - 2 ≤ 3 by omega) (by omega) (by omega)) (by omega)
  omega
theorem read_off (h : LG w P q O x l) (b : Int) (hb : ¬ (0 ≤ b ∧ b < x.a.l)) : Calls Tryz.prog 21 #[.pointer (some ⟨q.b, 0, none⟩), .int .i64 b] w fun e w' => e = .returned (.tuple #[.slice none 0 0, .int .i64 1]) ∧ w' = w := by
  have k5 := h.c5
  have hd : decide (0 ≤ b ∧ b < x.a.l) = false := decide_eq_false hb
  clear h
  go_enter Tryz.func21, Tryz.ntmps21
  go_wp2_with fail
  refine (lhas_any b x.a.l _).mono ?_
  rintro e w2 ⟨rfl, hw2⟩
  replace hw2 := hw2.symm
  subst hw2
  rw [hd]
  go_wp2
  go_ret2
  exact ⟨rfl, rfl⟩
theorem read_broken (h : LG w P q O x (-1)) (b : Int) (hb : 0 ≤ b ∧ b < x.a.l) (hbr : x.a.broken = true) : Calls Tryz.prog 21 #[.pointer (some ⟨q.b, 0, none⟩), .int .i64 b] w fun e w' => e = .returned (.tuple #[.slice none 0 0, .int .i64 3]) ∧ w' = w := by
  have k5 := h.c5
  have k6 := h.c6
  obtain ⟨O0, ha, _⟩ := h.zoomA
  have HA := Lib.hid ha.arr
  have hd : decide (0 ≤ b ∧ b < x.a.l) = true := decide_eq_true hb
  clear h ha
  go_enter Tryz.func21, Tryz.ntmps21
  go_wp2_with fail
  refine (lhas_any b x.a.l _).mono ?_
  rintro e w2 ⟨rfl, hw2⟩
  replace hw2 := hw2.symm
  subst hw2
  rw [hd]
  go_wp2_with fail
  refine (broken_any HA.out).mono ?_
  rintro e w2 ⟨rfl, hw2⟩
  replace hw2 := hw2.symm
  subst hw2
  rw [hbr]
  go_wp2
  go_ret2
  exact ⟨rfl, rfl⟩
theorem LB.but {S : Nat → Prop} (h : LB w P q x) (hb : But S w w') (hn : ¬ S q.b) : LB w' P q x := At.but h hb hn
/-- A chunk read while nothing fails. -/
theorem calm_chunk {w w' : World} {s s' : AS} {m : Nat} {i : Int} {v : Value} {er : Int} (hc : Calm s) (h : ChunkAs w w' s s' m i v er) : er = 0 ∧ Rel (fun _ => Aged) 12 s s' ∧ NewRow w w' v ((s.d m).read i) := by
  cases h with
  | got _ hr _ _ hv _ => exact ⟨rfl, hr, hv⟩
  | rest _ hr hs _ => exact absurd hs (by rw [(hc.rel hr).stale]; omega)
  | gone hg => exact absurd (hc 0) (hg.unsound 0)
/-- What reading a block comes to while nothing fails. -/
def RdAs (w : World) (P : Pl) (q : Ql) (O : Nat → Prop) (x : LS) (b : Int) (e : Ending) (w' : World) : Prop :=
  ∃ v a', e = .returned (.tuple #[v, .int .i64 0]) ∧ Dg w P q O { x with a := a' } (-1) w' ∧ Rel (fun _ => Aged) 12 x.a a' ∧ NewRow w w' v (x.reads b)
set_option maxHeartbeats 1600000 in
theorem read_calm (h : LG w P q O x (-1)) (hw : x.Wf) (hc : Calm x.a) (hu : x.a.u ≤ 700000) (b : Int) (hb : 0 ≤ b ∧ b < x.a.l) : Calls Tryz.prog 21 #[.pointer (some ⟨q.b, 0, none⟩), .int .i64 b] w (RdAs w P q O x b) := by
  have H := Lib.hid h
  have HW := Lib.hid hw
  have HC := Lib.hid hc
  have HU := Lib.hid hu
  have HB := Lib.hid hb
  have RI := Lib.hid (recs_in h.wf hw)
  have FEW := Lib.hid (few_recs h.wf hw)
  have NN := Lib.hid (small_nats h.wf)
  have SM := Lib.hid h.wf.small.hm
  have SHL := Lib.hid h.wf.small.hl
  have WF := Lib.hid h.wf
  have NL := Lib.hid (show x.a.N * ((x.a.M : Int) - 2) ≤ 54 from Int.le_trans (Int.mul_le_mul (show x.a.N ≤ 18 from h.wf.n.2) (show (x.a.M : Int) - 2 ≤ 3 by have := h.wf.small.hm; omega) (by have := h.wf.small.hm; omega) (by omega)) (by omega))
  have k5 := h.c5
  have k6 := h.c6
  have k7 := h.c7
  obtain ⟨O0, ha, _⟩ := h.zoomA
  have HA := Lib.hid ha.arr
  have hd : decide (0 ≤ b ∧ b < x.a.l) = true := decide_eq_true hb
  have hbr := hc.whole
  obtain ⟨T, hn, _⟩ := h.zoomN
  have HN := Lib.hid hn
  clear h ha hw hc hu hb hn
  go_enter Tryz.func21, Tryz.ntmps21
  go_wp2_with fail
  refine (lhas_any b x.a.l _).mono ?_
  rintro e w2 ⟨rfl, hw2⟩
  replace hw2 := hw2.symm
  subst hw2
  rw [hd]
  go_wp2_with fail
  refine (broken_any HA.out).mono ?_
  rintro e w2 ⟨rfl, hw2⟩
  replace hw2 := hw2.symm
  subst hw2
  rw [hbr]
  clear hd hbr HA
  go_wp2_with fail
  refine (L7.records_any HN.out (by have := FEW.out; show x.recs.length ≤ 1000; omega)).mono ?_
  rintro e w3 ⟨v, rfl, hR, hbl⟩
  have hR : L7.Recs w3 w.heap.size v x.recs := hR
  obtain ⟨A, c, L, rfl, hs, hL, _, _, _⟩ := recs14 hR RI.out
  have hll : L.length ≤ 1000 := by have := FEW.out; rw [← hL] at this; simp at this; omega
  have G3 := Lib.hid (H.out.up hbl)
  have B3 := Lib.hid hbl
  have LL := Lib.hid hL
  clear hR hbl k5 k6 k7
  go_wp2_with fail
  refine (L14.find_any A L.length c L b w3 hll hs ⟨by have := HB.out; omega, by have := HB.out; have := SHL.out; omega⟩).mono ?_
  rintro e w4 ⟨y, rfl, hok, hy, hbl⟩
  rw [LL.out] at hy ⊢
  have G4 := Lib.hid (G3.out.up hbl)
  have B4 := Lib.hid (B3.out.trans (hbl.mono B3.out.size))
  have OKY := Lib.hid hok
  clear hbl hs hok
  cases hf : L14.fl Rr.lba b x.recs with
  | some r =>
    rw [hf] at hy
    obtain rfl : y.abs = r := hy
    have hmem : y.abs ∈ x.recs := fl_mem hf
    have RK := Lib.hid (HW.out.ok _ hmem)
    have RD := Lib.hid (show x.reads b = stag x.a.nb y.kind y.l by unfold LS.reads; rw [hf]; rfl)
    have G5 := Lib.hid (G4.out.alloc (.cells (L14.lit y.seq y.kind y.lba y.A y.n y.c) 111))
    have B5 := Lib.hid (B4.out.alloc B4.out.size (.cells (L14.lit y.seq y.kind y.lba y.A y.n y.c) 111))
    have HY := Lib.hid (OKY.out.has.below ((Below.refl w4.heap.size w4).alloc (Nat.le_refl _) (.cells (L14.lit y.seq y.kind y.lba y.A y.n y.c) 111)))
    have YN := Lib.hid (show y.n ≤ x.a.nb by have := RK.out.len; have := OKY.out.has.1; show y.n ≤ _; rw [← this]; assumption)
    clear hmem
    obtain ⟨ys, yk, yl, yA, yn, yc, yd⟩ := y
    clear hf
    go_wp2_with fail
    refine (staged_any G5.out ys yk yl yA yn yc yd HY.out YN.out).mono ?_
    rintro e w6 ⟨v6, rfl, ho, hbl⟩
    have G6 := Lib.hid (G5.out.up hbl)
    have B6 := Lib.hid (B5.out.trans (hbl.mono B5.out.size))
    have O6 := Lib.hid (own_base ho (fun j hj => Nat.le_trans B5.out.size (ho.lt j hj).1))
    clear ho hbl
    go_wp2
    go_ret2
    refine ⟨v6, x.a, rfl, ⟨O, G6.out, fun k hk => .inl hk, But.of_below B6.out⟩, Rel.refl (fun _ _ => Aged.refl _) HC.out.whole (by omega), ?_⟩
    rw [RD.out]
    unfold NewRow
    have e : (stag x.a.nb yk yd).length = x.a.nb := by
      unfold stag
      split
      · exact blk_len (Nat.zero_le _)
      · exact blk_len (by have := RK.out.len; exact this)
    rw [e]
    exact O6.out
  | none =>
    have RD := Lib.hid (show x.reads b = if L13.lies x.a.lb x.V b = -1 then blk x.a.nb [] else x.at_ (L13.lies x.a.lb x.V b) by unfold LS.reads; rw [hf])
    have k8 := (G4.out.alloc (.cells (L14.lit y.seq y.kind y.lba y.A y.n y.c) 111)).c8
    have G5 := Lib.hid (G4.out.alloc (.cells (L14.lit y.seq y.kind y.lba y.A y.n y.c) 111))
    have B5 := Lib.hid (B4.out.alloc B4.out.size (.cells (L14.lit y.seq y.kind y.lba y.A y.n y.c) 111))
    obtain ⟨T0, A0, m0, _, _⟩ := G5.out.zoomM
    have M0 := Lib.hid m0
    clear hy m0 hf
    obtain ⟨ys, yk, yl, yA, yn, yc, yd⟩ := y
    go_wp2_with fail
    refine (L13.geti_any b M0.out).mono ?_
    rintro e w6 ⟨rfl, hw6⟩
    obtain ⟨p, hp⟩ : ∃ p, p = L13.lies x.a.lb x.V b := ⟨_, rfl⟩
    rw [← hp]
    rw [← hp] at RD
    have HPV := Lib.hid (show -1 ≤ p ∧ p < x.a.N * ((x.a.M : Int) - 2) by
      obtain ⟨k, rfl⟩ := Int.eq_ofNat_of_zero_le HB.out.1
      rw [hp, L13.lies_in _ (by have := NN.out.2.2.1; have := HB.out.2; omega)]
      exact HW.out.V k)
    have G6 := Lib.hid (show LG w6 P q O x (-1) by rw [hw6]; exact G5.out)
    have B6 := Lib.hid (show Below w.heap.size w w6 by rw [hw6]; exact B5.out)
    clear hp hw6 k8
    by_cases hpn : p = -1
    · subst hpn
      go_wp2_with fail
      refine (block_any G6.out none 0 0 [] (Has.nil _ _) (Nat.zero_le _)).mono ?_
      rintro e w7 ⟨v7, rfl, ho, hbl⟩
      have G7 := Lib.hid (G6.out.up hbl)
      have B7 := Lib.hid (B6.out.trans (hbl.mono B6.out.size))
      have O7 := Lib.hid (own_base ho (fun j hj => Nat.le_trans B6.out.size (ho.lt j hj).1))
      clear ho hbl
      go_wp2
      go_ret2
      refine ⟨v7, x.a, rfl, ⟨O, G7.out, fun k hk => .inl hk, But.of_below B7.out⟩, Rel.refl (fun _ _ => Aged.refl _) HC.out.whole (by omega), ?_⟩
      rw [RD.out, if_pos trivial]
      unfold NewRow
      rw [blk_len (Nat.zero_le _)]
      exact O7.out
    · have p0 : 0 ≤ p := by have := HPV.out; omega
      have RG := G6.out.lb.range
      go_wp2_with (first | (refine wpList_load_mid rfl 27 (.tmp 49) rfl q.b 0 rfl x.a.sh _ RG Tryz.underlying27 rfl rfl ?_) | fail)
      refine (L5.spot_any (x.a.M : Int) x.a.b x.a.g x.a.s x.a.n x.a.l p ⟨p0, by have := HPV.out; have := NL.out; omega⟩ ⟨by have := SM.out; omega, by have := SM.out; omega⟩ _).mono ?_
      rintro e w7 ⟨rfl, hbl⟩
      have G7 := Lib.hid (G6.out.up hbl)
      have B7 := Lib.hid (B6.out.trans (hbl.mono B6.out.size))
      have G8 := Lib.hid (G7.out.alloc (.cells #[.int .i64 (p / ((x.a.M : Int) - 2)), .int .i64 (1 + p % ((x.a.M : Int) - 2))] 123))
      have B8 := Lib.hid (B7.out.alloc B7.out.size (.cells #[.int .i64 (p / ((x.a.M : Int) - 2)), .int .i64 (1 + p % ((x.a.M : Int) - 2))] 123))
      have SA := Lib.hid (At.new (w := w7) (g := w7.heap.size) #[.int .i64 (p / ((x.a.M : Int) - 2)), .int .i64 (1 + p % ((x.a.M : Int) - 2))] 123 rfl)
      have SO := Lib.hid (show ¬ O w7.heap.size from fun e => by have := G7.out.lt _ e; omega)
      obtain ⟨SB, hSB⟩ : ∃ SB, SB = w7.heap.size := ⟨_, rfl⟩
      rw [← hSB] at SA SO
      clear hbl RG
      go_wp2_with fail
      rw [← hSB]
      generalize w7.alloc (.cells #[.int .i64 (p / ((x.a.M : Int) - 2)), .int .i64 (1 + p % ((x.a.M : Int) - 2))] 123) = W8 at *
      clear hSB
      obtain ⟨O0, ha, hO0, hQB, hZ⟩ := G8.out.drew.zoomA
      have A6 := Lib.hid ha.arr
      have Z6 := Lib.hid hZ
      have QB := Lib.hid hQB
      have SBO := Lib.hid (show ¬ O0 SB from fun e => SO.out (hO0 _ e))
      have TT := Lib.hid (show 0 ≤ p / ((x.a.M : Int) - 2) ∧ p / ((x.a.M : Int) - 2) < x.a.N from ⟨Int.ediv_nonneg p0 (by have := SM.out; omega), Int.ediv_lt_of_lt_mul (by have := SM.out; omega) HPV.out.2⟩)
      have KK := Lib.hid (show 0 ≤ 1 + p % ((x.a.M : Int) - 2) ∧ 1 + p % ((x.a.M : Int) - 2) < (x.a.M : Int) - 1 by
        have h1 := Int.emod_nonneg p (show (x.a.M : Int) - 2 ≠ 0 by have := SM.out; omega)
        have h2 := Int.emod_lt_of_pos p (show 0 < (x.a.M : Int) - 2 by have := SM.out; omega)
        omega)
      obtain ⟨MM, hMM⟩ : ∃ MM, MM = ((p / ((x.a.M : Int) - 2) + 1 + (1 + p % ((x.a.M : Int) - 2))) % (x.a.M : Int)).toNat := ⟨_, rfl⟩
      have EM := Lib.hid (show (p / ((x.a.M : Int) - 2) + 1 + (1 + p % ((x.a.M : Int) - 2))) % (x.a.M : Int) = (MM : Int) by
        have := Int.emod_nonneg (p / ((x.a.M : Int) - 2) + 1 + (1 + p % ((x.a.M : Int) - 2))) (show (x.a.M : Int) ≠ 0 by have := SM.out; omega)
        rw [hMM]; omega)
      have RD2 := Lib.hid (show x.reads b = (x.a.d MM).read (x.a.at_ (p / ((x.a.M : Int) - 2))) by rw [RD.out, if_neg hpn, hMM]; rfl)
      have S0 : (fun w' : World => LB w' P q x ∧ At w' SB #[.int .i64 (p / ((x.a.M : Int) - 2)), .int .i64 (1 + p % ((x.a.M : Int) - 2))] 123) W8.drew := ⟨G8.out.lb, SA.out⟩
      clear ha hO0 hQB hZ hMM RD
      refine wp_region_early (fun w' : World => LB w' P q x ∧ At w' SB #[.int .i64 (p / ((x.a.M : Int) - 2)), .int .i64 (1 + p % ((x.a.M : Int) - 2))] 123) (fun _ => true) (by kernel_rfl) ?_
      change wpEarly _ _ _ _ _ _ 13 (Array.replicate 13 false) _ _
      refine early_take (i := 0) 53 (.pointer (some ⟨q.b, 0, none⟩)) rfl rfl (by kernel_rfl) (by kernel_rfl) (by kernel_rfl) (by kernel_rfl) rfl (fun _ _ _ h => h) (fun w' hw' => by go_simp) S0 ?_
      simp only [Act.put, List.setIfInBounds_toArray, List.set_cons_zero, List.set_cons_succ]
      refine early_take (i := 1) 54 (.pointer (some ⟨q.b, 0, none⟩)) rfl rfl (by kernel_rfl) (by kernel_rfl) (by kernel_rfl) (by kernel_rfl) rfl (fun _ _ _ h => h) (fun w' hw' => by go_simp) S0 ?_
      simp only [Act.put, List.setIfInBounds_toArray, List.set_cons_zero, List.set_cons_succ]
      refine early_take (i := 2) 55 (.pointer (some ⟨q.b, 6, none⟩)) rfl rfl (by kernel_rfl) (by kernel_rfl) (by kernel_rfl) (by kernel_rfl) rfl (fun _ _ _ h => h) (fun w' hw' => by go_simp) S0 ?_
      simp only [Act.put, List.setIfInBounds_toArray, List.set_cons_zero, List.set_cons_succ]
      refine early_take (i := 3) 56 (.pointer (some ⟨P.a, 0, none⟩)) rfl rfl (by kernel_rfl) (by kernel_rfl) (by kernel_rfl) (by kernel_rfl) rfl (fun _ _ _ h => h) (fun w' hw' => by have k := hw'.1.c6; go_simp) S0 ?_
      simp only [Act.put, List.setIfInBounds_toArray, List.set_cons_zero, List.set_cons_succ]
      refine early_take (i := 4) 57 (.pointer (some ⟨SB, 0, none⟩)) rfl rfl (by kernel_rfl) (by kernel_rfl) (by kernel_rfl) (by kernel_rfl) rfl (fun _ _ _ h => h) (fun w' hw' => by go_simp) S0 ?_
      simp only [Act.put, List.setIfInBounds_toArray, List.set_cons_zero, List.set_cons_succ]
      refine early_take (i := 5) 58 (.int .i64 (p / ((x.a.M : Int) - 2))) rfl rfl (by kernel_rfl) (by kernel_rfl) (by kernel_rfl) (by kernel_rfl) rfl (fun _ _ _ h => h) (fun w' hw' => by have k := hw'.2.cell 0; go_simp) S0 ?_
      simp only [Act.put, List.setIfInBounds_toArray, List.set_cons_zero, List.set_cons_succ]
      refine early_take (i := 6) 59 (.pointer (some ⟨SB, 1, none⟩)) rfl rfl (by kernel_rfl) (by kernel_rfl) (by kernel_rfl) (by kernel_rfl) rfl (fun _ _ _ h => h) (fun w' hw' => by go_simp) S0 ?_
      simp only [Act.put, List.setIfInBounds_toArray, List.set_cons_zero, List.set_cons_succ]
      refine early_take (i := 7) 60 (.int .i64 (1 + p % ((x.a.M : Int) - 2))) rfl rfl (by kernel_rfl) (by kernel_rfl) (by kernel_rfl) (by kernel_rfl) rfl (fun _ _ _ h => h) (fun w' hw' => by have k := hw'.2.cell 1; go_simp) S0 ?_
      simp only [Act.put, List.setIfInBounds_toArray, List.set_cons_zero, List.set_cons_succ]
      refine early_only (i := 8) (by kernel_rfl) rfl (fun K hK => ?_)
      simp only [opWp, List.getElem?_toArray, List.getElem?_cons_succ, List.getElem?_cons_zero]
      go_simp
      go_at_call 24
      refine (Chunk_any (p / ((x.a.M : Int) - 2)) (1 + p % ((x.a.M : Int) - 2)) MM TT.out KK.out EM.out A6.out HU.out).mono ?_
      rintro e w7 ⟨v7, er, a7, rfl, c1, c2, c3⟩
      have CA := calm_chunk HC.out c3
      obtain ⟨rfl, c4, c5⟩ := CA
      have hD := Z6.out a7 (-1) w7 c4.same ⟨O0, c1.arl, fun k hk => .inl hk, c2⟩
      have D7 := Lib.hid hD
      have RL := Lib.hid c4
      have NR := Lib.hid c5
      have S7 : (fun w' : World => LB w' P q x ∧ At w' SB #[.int .i64 (p / ((x.a.M : Int) - 2)), .int .i64 (1 + p % ((x.a.M : Int) - 2))] 123) w7 := ⟨S0.1.but c2 QB.out, S0.2.but c2 SBO.out⟩
      clear c1 c2 c3 c4 c5 hD
      refine hK _ _ (fun _ => S7) ?_
      refine early_take (i := 9) 62 v7 rfl rfl (by kernel_rfl) (by kernel_rfl) (by kernel_rfl) (by kernel_rfl) rfl (fun _ _ _ h => h) (fun w' hw' => by go_simp) S7 ?_
      simp only [Act.put, List.setIfInBounds_toArray, List.set_cons_zero, List.set_cons_succ]
      refine early_take (i := 10) 63 (.int .i64 0) rfl rfl (by kernel_rfl) (by kernel_rfl) (by kernel_rfl) (by kernel_rfl) rfl (fun _ _ _ h => h) (fun w' hw' => by go_simp) S7 ?_
      simp only [Act.put, List.setIfInBounds_toArray, List.set_cons_zero, List.set_cons_succ]
      refine early_take (i := 11) 4 v7 rfl rfl (by kernel_rfl) (by kernel_rfl) (by kernel_rfl) (by kernel_rfl) rfl (fun _ _ _ h => h) (fun w' hw' => by go_simp) S7 ?_
      simp only [Act.put, List.setIfInBounds_toArray, List.set_cons_zero, List.set_cons_succ]
      refine early_take (i := 12) 5 (.int .i64 0) rfl rfl (by kernel_rfl) (by kernel_rfl) (by kernel_rfl) (by kernel_rfl) rfl (fun _ _ _ h => h) (fun w' hw' => by go_simp) S7 ?_
      simp only [Act.put, List.setIfInBounds_toArray, List.set_cons_zero, List.set_cons_succ]
      refine early_done (by kernel_rfl) ?_
      go_wp2
      go_ret2
      refine ⟨v7, a7, rfl, Dg.trans (fun _ h => .inl h) (But.of_below B8.out) D7.out.of_drew, RL.out, ?_⟩
      rw [RD2.out]
      exact own_base NR.out (fun j hj => Nat.le_trans B8.out.size (NR.out.lt j hj).1)
end
end Go.Proofs.YtplmdmchkaacoaaGreat
