/-
  TEXTS JOINED: L9Rds, LgE.
-/
import Derived.Test.YtplmdmchkaacoaaGreatJ44
import Derived.Test.YtplmdmchkaacoaaGreatJ20
import Derived.Test.YtplmdmchkaacoaaGreatJ22
import Derived.Deep.CutRange
import Derived.Deep.CutBlock
import Derived.Deep.DeepCutAuto
import Derived.Test.YtplmdmchkaacoaaGreatJ43
import Derived.Test.YtplmdmchkaacoaaGreatJ31

/-
  THE WALK OF Reads: the note of bytes, as the document has it.
-/
namespace Go.Proofs.YtplmdmchkaacoaaGreat.L9
open Go.RowKit
set_option linter.unusedVariables false
set_option maxRecDepth 100000


/-- The bytes' variable in the first block, the answer in the second. -/
structure Rds (w0 w : World) (v : Value) : Prop where
  box : At w w0.heap.size #[v] 57
  res : At w (w0.heap.size + 1) #[.int .u64 0, .int .i64 0, .slice none 0 0] 66
  bel : Below w0.heap.size w0 w
theorem Rds.start (w : World) (v : Value) : Rds w ((w.alloc (.cells #[v] 57)).alloc (.cells #[.int .u64 0, .int .i64 0, .slice none 0 0] 66)) v :=
  ⟨(At.new _ _ rfl).alloc _, At.new _ _ (by simp), ((Below.refl _ _).alloc (Nat.le_refl _) _).alloc (by simp) _⟩
section
variable {w0 w w' : World} {v : Value}
theorem Rds.up (h : Rds w0 w v) (hb : Below w.heap.size w w') : Rds w0 w' v := ⟨h.box.below hb h.box.lt, h.res.below hb h.res.lt, h.bel.trans (hb.mono h.bel.size)⟩
theorem Rds.drewN (h : Rds w0 w v) (k : Nat) : Rds w0 (w.drewN k) v := ⟨h.box, h.res, below_drewN h.bel k⟩
theorem Rds.but {S : Nat → Prop} (h : Rds w0 w v) (hb : But S w w') (hs : ∀ k, S k → w0.heap.size + 1 < k) : Rds w0 w' v :=
  ⟨h.box.but hb (fun e => by have := hs _ e; omega), h.res.but hb (fun e => by have := hs _ e; omega), h.bel.trans (hb.below (fun k e => by have := hs k e; omega) h.bel.size)⟩
theorem Rds.done (h : Rds w0 w v) (hb : But (fun k => k = w0.heap.size + 1) w w') : Below w0.heap.size w0 w' := h.bel.trans (hb.below (fun k e => by omega) h.bel.size)
theorem Rds.base (h : Rds w0 w v) : w0.heap.size + 1 + 1 ≤ w.heap.size := h.res.lt
/-- And the note in block P, whose row of the call's own holds es. -/
structure Rdp (w0 w : World) (v : Value) (P q : Nat) (z : Int) (u : Value) (es : List En) : Prop where
  r : Rds w0 w v
  pb : At w P #[.int .u64 (q : Int), .int .i64 z, u] 66
  own : w.ownsRow (w0.heap.size + 1 + 1) 73 2 u es.length (flat es)
  np : w0.heap.size + 1 < P
  off : u.ownBlock ≠ some P
variable {P q : Nat} {z : Int} {u : Value} {es : List En}
theorem Rdp.up (h : Rdp w0 w v P q z u es) (hb : Below w.heap.size w w') : Rdp w0 w' v P q z u es :=
  ⟨h.r.up hb, h.pb.below hb h.pb.lt, own_below h.own hb, h.np, h.off⟩
theorem Rdp.after {wa w2 : World} (h : Rdp w0 w v P q z u es) (ha : Below w.heap.size w wa) (hg : wa.grownBy w2 u.ownBlock) : At w2 P #[.int .u64 (q : Int), .int .i64 z, u] 66 :=
  (h.up ha).pb.but (S := fun k => u.ownBlock = some k) ((But.refl _ _).grown hg (fun k hk _ => hk)) h.off
theorem Rdp.push {wa w2 : World} {n c : Nat} {A : Option Addr} {x : En} (h : Rdp w0 w v P q z u es) (ha : Below w.heap.size w wa) (hown : w2.ownsRow (w0.heap.size + 1 + 1) 73 2 (.slice A n c) n (flat (es ++ [x]))) (hg : wa.grownBy w2 u.ownBlock)
    (hf : ∀ g, (Value.slice A n c).ownBlock = some g → u.ownBlock = some g ∨ wa.heap.size ≤ g) : Rdp w0 (w2.setCell ⟨P, 2, none⟩ (.slice A n c)) v P q z (.slice A n c) (es ++ [x]) := by
  have h1 := h.up ha
  have lo : ∀ k, u.ownBlock = some k → w0.heap.size + 1 + 1 ≤ k := fun k hk => (h.own.lt k hk).1
  have bt : But (fun k => u.ownBlock = some k) wa w2 := (But.refl _ _).grown hg (fun k hk _ => hk)
  have hn : n = (es ++ [x]).length := by have := hown.1; rw [flat_len] at this; omega
  have bs : But (fun k => k = P) w2 (w2.setCell ⟨P, 2, none⟩ (.slice A n c)) := (But.refl (fun k => k = P) w2).setCell (p := ⟨P, 2, none⟩) (fun _ => rfl) _
  have ho : (Value.slice A n c).ownBlock ≠ some P := fun e => (hf P e).elim h.off (fun h2 => by have := h1.pb.lt; omega)
  refine ⟨(h1.r.but bt (fun k e => by have := lo k e; omega)).but bs (fun k e => by have := h.np; omega), (h.after ha hg).set 2 _, ?_, h.np, ho⟩
  rw [← hn]
  exact own_but hown bs (fun k hk e => ho (e ▸ hk))
end
theorem run_append_ent2 {w : World} {ty : TypeId} (base : Nat) (v : Value) (n : Nat) (L : List En) (hown : w.ownsRow base 73 2 v n (flat L)) (S : Addr) (m c : Nat) (M : List En) (hk : Src w S m M) (hm : n + m ≤ 1000000) (hbase : base ≤ w.heap.size) :
    ∃ A cap w', (Builtin.append_ #[64, 64] ty #[v, .slice (some S) m c]).run Tryz.prog w = .ok (.slice A (n + m) cap) w' ∧ w'.ownsRow base 73 2 (.slice A (n + m) cap) (n + m) (flat (L ++ M)) ∧ w.grownBy w' v.ownBlock ∧
      (∀ g, (Value.slice A (n + m) cap).ownBlock = some g → v.ownBlock = some g ∨ w.heap.size ≤ g) := by
  obtain ⟨i0, hi, hz0, hz1, hz2⟩ := info_parts ent_info
  obtain ⟨v', w', hr, h2, h3, h4, h5⟩ := run_append_own_at (P := Tryz.prog) w base 64 ty 73 i0 _ 2 16 Tryz.underlying64 hi hz0 hz1 hz2 rfl (by decide) v n (flat L) hown S m c (flat M) (by rw [flat_len, hk.1]) hk.2 (flat_one M) (by unfold maxLen; omega) (by omega) hbase
  obtain ⟨A, cap, rfl⟩ : ∃ A cap, v' = .slice A (n + m) cap := by
    rcases h2.2 with ⟨rfl, e⟩ | ⟨g, cap, cur, rfl, _⟩
    · exact ⟨none, 0, by rw [e]⟩
    · exact ⟨_, cap, rfl⟩
  refine ⟨A, cap, w', hr, by rw [flat_append]; exact h2, h3, fun g hg => ?_⟩
  rcases h5 with e | e
  · exact .inl (by rw [← e]; exact hg)
  · rw [e] at hg
    injection hg with hg
    exact .inr (by omega)
theorem wpList_append_ent2 {w : World} {ops : Array Oper} {rest : List Oper} {o : Oper} {a : Act} {Q : Exit → Act → World → Prop} (hgd : o.guard = none) (s x : Operand)
    (ho : o.op = .call { callee := .builtin .append, args := #[s, x], argTypes := #[64, 64] }) (base : Nat) (v : Value) (n : Nat) (L : List En) (hs : a.eval s = v) (hown : w.ownsRow base 73 2 v n (flat L))
    (S : Addr) (m c : Nat) (M : List En) (hx : a.eval x = .slice (some S) m c) (hk : Src w S m M) (hm : n + m ≤ 1000000) (hbase : base ≤ w.heap.size)
    (h : ∀ A cap w', w'.ownsRow base 73 2 (.slice A (n + m) cap) (n + m) (flat (L ++ M)) → w.grownBy w' v.ownBlock → (∀ g, (Value.slice A (n + m) cap).ownBlock = some g → v.ownBlock = some g ∨ w.heap.size ≤ g) →
      wpList Tryz.prog ops Q rest (a.put o.dst (.slice A (n + m) cap)) w') : wpList Tryz.prog ops Q (o :: rest) a w := by
  refine wpList_plain hgd fun K hK => ?_
  obtain ⟨A, cap, w', hr, h2, h3, h4⟩ := run_append_ent2 (ty := o.type) base v n L hown S m c M hk hm hbase
  unfold Oper.wp execOp
  simp only [ho, resolve, invoke, builtin, Sem.run_bind, Sem.run_pure, Result.andThen_ok, List.map_toArray, List.map_cons, List.map_nil, hs, hx, hr]
  exact hK _ _ (h A cap w' h2 h3 h4)
theorem fine_next (L : List (BitVec 8)) (k : Nat) : Fine (enUpto L (k + 1)) ↔ Fine (enUpto L k) ∧ (enAt L k).ok := by
  rw [enUpto_next]
  constructor
  · intro h
    exact ⟨fun x hx => h x (List.mem_append_left _ hx), h _ (List.mem_append_right _ (by simp))⟩
  · rintro ⟨h1, h2⟩ x hx
    rcases List.mem_append.1 hx with hx | hx
    · exact h1 x hx
    · simp at hx
      subst hx
      exact h2
theorem none0_next (L : List (BitVec 8)) (j : Nat) (h : j < L.length) : None0 (L.take (j + 1)) ↔ None0 (L.take j) ∧ L[j] = 0#8 := by
  unfold None0
  rw [List.take_succ_eq_append_getElem h]
  constructor
  · intro h1
    exact ⟨fun x hx => h1 x (List.mem_append_left _ hx), h1 _ (List.mem_append_right _ (by simp))⟩
  · rintro ⟨h1, h2⟩ x hx
    rcases List.mem_append.1 hx with hx | hx
    · exact h1 x hx
    · simp at hx
      subst hx
      exact h2
theorem fld_one (L : List (BitVec 8)) (h : 0 < L.length) : fld L 0 1 = L[0].toNat := by
  unfold fld
  rw [List.drop_zero, num_take_next L 0 h]
  simp [num]
theorem rfail_made {w w2 : World} {k : Nat} (hb : Below w.heap.size w w2) : Answer w (Nt.zero, k) (.returned (.tuple #[.agg #[.int .u64 0, .int .i64 0, .slice none 0 0], .int .i64 (k : Int)])) w2 :=
  ⟨none, 0, rfl, Ers.nil _ _, hb⟩

set_option maxHeartbeats 800000 in
theorem reads_size (A : Option Addr) (n c : Nat) (s : Int) (w : World) (hn : n ≤ 500000) (hr : ¬ (0 ≤ s ∧ 15 + 5 * s ≤ (n : Int))) (hs : -9223372036854775808 ≤ s ∧ s ≤ 9223372036854775807) :
    Calls Tryz.prog 25 #[.slice A n c, .int .i64 s] w (Answer w (Nt.zero, 6)) := by
  have T := Lib.hid (Rds.start w (.slice A n c))
  have b0 := T.out.box.cell 0
  by_cases h0 : s < 0
  · clear hr
    go_enter Tryz.func25, Tryz.ntmps25
    go_wp2_with (refine wpList_store_part rfl 66 (.tmp 4) (.tmp 30) rfl (w.heap.size + 1) 0 66 #[.int .u64 0, .int .i64 0, .slice none 0 0] #[.int .u64 0, .int .i64 0, .slice none 0 0] rfl rfl T.out.res size28 (by simp) (note_all 0 _ _ _ _) ?_; intro w9 hat9 hb9; have R := Lib.hid (show At w9 (w.heap.size + 1) #[.int .u64 0, .int .i64 0, .slice none 0 0] 66 from hat9); have BB := Lib.hid (T.out.done hb9); clear hat9 hb9)
    refine bodyPost_ret (results_cell_slot (p := 4) (u := 5) (ty := 66) rfl _ _ (w.heap.size + 1) #[.int .u64 0, .int .i64 0, .slice none 0 0] _ rfl R.out Tryz.underlying66 size28) rfl ?_
    exact rfail_made BB.out
  · by_cases h1 : (n : Int) < s
    · clear hr
      go_enter Tryz.func25, Tryz.ntmps25
      go_wp2_with (refine wpList_store_part rfl 66 (.tmp 4) (.tmp 30) rfl (w.heap.size + 1) 0 66 #[.int .u64 0, .int .i64 0, .slice none 0 0] #[.int .u64 0, .int .i64 0, .slice none 0 0] rfl rfl T.out.res size28 (by simp) (note_all 0 _ _ _ _) ?_; intro w9 hat9 hb9; have R := Lib.hid (show At w9 (w.heap.size + 1) #[.int .u64 0, .int .i64 0, .slice none 0 0] 66 from hat9); have BB := Lib.hid (T.out.done hb9); clear hat9 hb9)
      refine bodyPost_ret (results_cell_slot (p := 4) (u := 5) (ty := 66) rfl _ _ (w.heap.size + 1) #[.int .u64 0, .int .i64 0, .slice none 0 0] _ rfl R.out Tryz.underlying66 size28) rfl ?_
      exact rfail_made BB.out
    · have h2 : (n : Int) < 15 + 5 * s := by omega
      clear hr
      go_enter Tryz.func25, Tryz.ntmps25
      go_wp2_with (refine wpList_store_part rfl 66 (.tmp 4) (.tmp 30) rfl (w.heap.size + 1) 0 66 #[.int .u64 0, .int .i64 0, .slice none 0 0] #[.int .u64 0, .int .i64 0, .slice none 0 0] rfl rfl T.out.res size28 (by simp) (note_all 0 _ _ _ _) ?_; intro w9 hat9 hb9; have R := Lib.hid (show At w9 (w.heap.size + 1) #[.int .u64 0, .int .i64 0, .slice none 0 0] 66 from hat9); have BB := Lib.hid (T.out.done hb9); clear hat9 hb9)
      refine bodyPost_ret (results_cell_slot (p := 4) (u := 5) (ty := 66) rfl _ _ (w.heap.size + 1) #[.int .u64 0, .int .i64 0, .slice none 0 0] _ rfl R.out Tryz.underlying66 size28) rfl ?_
      exact rfail_made BB.out
end Go.Proofs.YtplmdmchkaacoaaGreat.L9

/-
  THE WALK OF noteOf.
-/
namespace Go.Proofs.YtplmdmchkaacoaaGreat
open Go.RowKit
open L7 (Rr Rc)
open L12 (Sg)
open L13 (setN)
set_option linter.unusedVariables false
set_option maxRecDepth 100000

theorem field_dur (a b c d e f g h i : Value) (w : World) : (Instr.field 96 (.agg #[a, b, c, d, e, f, g, h, i]) 2).run Tryz.prog w = .ok h w := by kernel_rfl
/-- A note that is made: its box, the row of its entries. -/
structure Nb (w0 w : World) (nb : Nat) (q z : Int) (v : Value) (E : List L9.En) : Prop where
  box : At w nb #[.int .u64 q, .int .i64 z, v] 66
  own : w.ownsRow (nb + 1) 73 2 v E.length (L9.flat E)
  bel : Below nb w0 w
  sz : nb ≤ w0.heap.size
theorem Nb.up {w0 w w' : World} {nb : Nat} {q z : Int} {v : Value} {E : List L9.En} (h : Nb w0 w nb q z v E) (hb : Below w.heap.size w w') : Nb w0 w' nb q z v E :=
  ⟨h.box.below hb h.box.lt, own_below h.own hb, h.bel.trans (hb.mono (Nat.le_of_lt h.box.lt)), h.sz⟩
theorem Nb.form {w0 w : World} {nb : Nat} {q z : Int} {v : Value} {E : List L9.En} (h : Nb w0 w nb q z v E) : ∃ A c, v = .slice A E.length c ∧ L9.Ers w A E.length E ∧ (∀ a, A = some a → nb + 1 ≤ a.block) := by
  obtain ⟨A, c, e, h1, h2⟩ := L9.Ers.of_own h.own
  exact ⟨A, c, e, h1, h2⟩
theorem Nb.grown {w0 w w1 w2 : World} {nb : Nat} {q z : Int} {v : Value} {E : List L9.En} (h : Nb w0 w nb q z v E) (hb : Below w.heap.size w w1) (hg : w1.grownBy w2 v.ownBlock) : At w2 nb #[.int .u64 q, .int .i64 z, v] 66 := by
  have b2 : But (fun k => v.ownBlock = some k) w1 w2 := (But.refl _ _).grown hg (fun k hk _ => hk)
  exact (h.up hb).box.but b2 (fun e => by have := (h.own.lt _ e).1; omega)
/-- One entry more: it was appended, and the box's cell was stored. -/
theorem Nb.push {w0 w w1 w2 : World} {nb : Nat} {q z : Int} {v : Value} {E : List L9.En} {A : Option Addr} {c : Nat} {x : L9.En} (h : Nb w0 w nb q z v E) (hb : Below w.heap.size w w1) (hown : w2.ownsRow (nb + 1) 73 2 (.slice A (E.length + 1) c) (E.length + 1) (L9.flat (E ++ [x]))) (hg : w1.grownBy w2 v.ownBlock) :
    Nb w0 (w2.setCell ⟨nb, 2, none⟩ (.slice A (E.length + 1) c)) nb q z (.slice A (E.length + 1) c) (E ++ [x]) := by
  have h1 := h.up hb
  have lo : ∀ k, v.ownBlock = some k → nb + 1 ≤ k := fun k hk => (h.own.lt k hk).1
  have b2 : But (fun k => v.ownBlock = some k) w1 w2 := (But.refl _ _).grown hg (fun k hk _ => hk)
  have b3 : But (fun k => k = nb) w2 (w2.setCell ⟨nb, 2, none⟩ (.slice A (E.length + 1) c)) := (But.refl (fun k => k = nb) w2).setCell (p := ⟨nb, 2, none⟩) (fun _ => rfl) _
  refine ⟨(h1.box.but b2 (fun e => by have := lo _ e; omega)).set 2 _, ?_, ?_, h.sz⟩
  · rw [List.length_append]
    exact own_but hown b3 (fun k hk e => by have := (hown.lt k hk).1; omega)
  · have s1 := h1.bel.size
    exact (h1.bel.trans (b2.below (fun k e => by have := lo _ e; omega) (by have := h1.box.lt; omega))).trans (b3.below (fun k e => by omega) (by have := h1.box.lt; have := b2.size; omega))
section
variable {w w' : World} {P : Pl} {q : Ql} {O : Nat → Prop} {x : LS} {l : Int}
set_option maxHeartbeats 3200000 in
theorem noteOf_any (h : LG w P q O x l) (A : Option Addr) (n c : Nat) (M : List Rc) (hM : L14.Rs w A n M) (hn : n ≤ x.a.sl) (z : Int) (hK : ∀ y ∈ M, 0 ≤ y.kind ∧ 0 ≤ y.lba) (hdur : 0 ≤ x.a.dur ∧ x.a.dur ≤ 1000000) :
    Calls Tryz.prog 84 #[.pointer (some ⟨q.b, 0, none⟩), .slice A n c, .int .i64 z] w fun e w' => ∃ A' c', e = .returned (.agg #[.int .u64 (x.a.dur + 1), .int .i64 z, .slice A' x.a.sl c']) ∧ L9.Ers w' A' x.a.sl (M.map (fun y => ent y.abs) ++ List.replicate (x.a.sl - n) ⟨0, 0⟩) ∧ (∀ a, A' = some a → w.heap.size ≤ a.block) ∧ Below w.heap.size w w' := by
  have HK := Lib.hid hK
  have HN := Lib.hid hn
  have DU := Lib.hid hdur
  have NN := Lib.hid (small_nats h.wf)
  have SM := Lib.hid h.wf.small.hm
  have hn3 : n ≤ 3 := by have := (small_nats h.wf).1; have := h.wf.small.hm; omega
  have bel : Below w.heap.size w (w.alloc (.cells #[.int .u64 0, .int .i64 0, .slice none 0 0] 66)) := (Below.refl _ _).alloc (Nat.le_refl _) _
  have G0 := Lib.hid (h.up bel)
  have M0 := Lib.hid (hM.below bel)
  have T0 := Lib.hid (At.new (w := w) (g := w.heap.size) #[.int .u64 0, .int .i64 0, .slice none 0 0] 66 rfl)
  have B0 := Lib.hid bel
  have k7 := G0.out.c7
  obtain ⟨O0, ha, _⟩ := G0.out.zoomA
  have AN := Lib.hid ha.nv
  have HL := Lib.hid hM.len
  have NA0 := Lib.hid (show 0 < n → ∀ a, A = some a → a.block < w.heap.size from fun h0 a ha => by obtain ⟨b, off, e, hb, _⟩ := hM.cells h0; rw [e] at ha; injection ha with ha; subst ha; exact hb)
  have ND0 := Lib.hid (show ∀ y ∈ M, 0 < y.n → ∀ a, y.A = some a → a.block < w.heap.size from fun y hy h0 a ha => (hM.ok y hy).has.low h0 a ha)
  clear h hM hn hK hdur bel ha
  go_enter Tryz.func84, Tryz.ntmps84
  go_wp2_with fail
  refine (root_any AN.out).mono ?_
  rintro e w1 ⟨rfl, hb⟩
  have G1 := Lib.hid (G0.out.up hb)
  have M1 := Lib.hid (M0.out.below hb)
  have T1 := Lib.hid (T0.out.below hb T0.out.lt)
  have B1 := Lib.hid (B0.out.trans (hb.mono B0.out.size))
  have e1 : IntKind.u64.wrap (x.a.dur + 1) = x.a.dur + 1 := by
    obtain ⟨d, hd⟩ := Int.eq_ofNat_of_zero_le DU.out.1
    rw [hd]
    exact L9.wrap64 (N := d + 1) (by have := DU.out.2; omega)
  have fd := fun (w : World) => field_dur (.int .i64 (x.a.M : Int)) (.int .i64 x.a.b) (.int .i64 x.a.g) (.int .i64 x.a.s) (.int .i64 x.a.n) (.int .i64 x.a.l) (.int .u64 0) (.int .u64 x.a.dur) (.int .i64 x.a.stale) w
  clear hb k7
  unfold Rt.cs AS.rt
  go_wp2_with fail
  obtain ⟨nb, hnb⟩ : ∃ nb, nb = w1.heap.size := ⟨_, rfl⟩
  obtain ⟨W, hW⟩ : ∃ W, W = w1.alloc (.cells #[.int .u64 (x.a.dur + 1), .int .i64 z, .slice none 0 0] 66) := ⟨_, rfl⟩
  have NB0 := Lib.hid (show Nb W W nb (x.a.dur + 1) z (.slice none 0 0) [] from ⟨by rw [hW, hnb]; exact At.new _ _ rfl, World.ownsRow_nil _ _ _ _, Below.refl _ _, by rw [hW, hnb]; simp⟩)
  have bel : Below w1.heap.size w1 W := by rw [hW]; exact (Below.refl _ _).alloc (Nat.le_refl _) _
  have GW := Lib.hid (G1.out.up bel)
  have MW := Lib.hid (M1.out.below bel)
  have TW := Lib.hid (T1.out.below bel T1.out.lt)
  have BW := Lib.hid (B1.out.trans (bel.mono B1.out.size))
  have LO := Lib.hid (show w.heap.size < nb by rw [hnb]; exact T1.out.lt)
  have LM := Lib.hid (show ∀ k, O k → k < nb from fun k hk => by rw [hnb]; exact G1.out.lt k hk)
  have SRC := Lib.hid (show ∀ k, k < nb → k < W.heap.size from fun k hk => by rw [hnb] at hk; exact Nat.lt_of_lt_of_le hk bel.size)
  rw [← hW, ← hnb]
  clear hnb hW bel fd e1
  have RB := Lib.hid (show ∀ (w2 : World), Below nb W w2 → LG w2 P q O x l ∧ At w2 w.heap.size #[.int .u64 0, .int .i64 0, .slice none 0 0] 66 from fun w2 hb => ⟨GW.out.but (S := fun k => nb ≤ k) ⟨hb.os, hb.tape, hb.output, hb.size, fun k hk hn => hb.block k (by omega)⟩ (fun k hk => by have := LM.out k hk; omega), TW.out.below hb LO.out⟩)
  go_loopw [21] (fun i wr => ∃ (k : Nat) (v : Value) (E : List L9.En), k ≤ n ∧ i = .int .i64 (k : Int) ∧ Nb W wr nb (x.a.dur + 1) z v E ∧ E = (M.take k).map (fun y => ent y.abs)) (fun i _ => n - (RowKit.intOf i).toNat)
  case atStart => exact ⟨0, _, [], Nat.zero_le _, rfl, NB0.out, rfl⟩
  case round =>
    obtain ⟨k, v, E, hk, rfl, hN, hE⟩ := hrel
    have N1 := Lib.hid hN
    have HE := Lib.hid hE
    obtain ⟨Av, cv, rfl, _, _⟩ := hN.form
    have d2 : wr.cell? ⟨nb, 2, none⟩ = some (.slice Av E.length cv) := hN.box.cell 2
    have f2 := hN.box.frozen 2
    clear hN hE
    by_cases hlt : k < n
    · have hs : L14.Rs wr A n M := MW.out.but (S := fun j => nb ≤ j) ⟨N1.out.bel.os, N1.out.bel.tape, N1.out.bel.output, N1.out.bel.size, fun j hj hn => N1.out.bel.block j (by omega)⟩ (fun h0 a ha => by have := NA0.out h0 a ha; have := LO.out; omega) (fun y hy h0 a ha => by have := ND0.out y hy h0 a ha; have := LO.out; omega)
      obtain ⟨b, off, rfl, hbl, hl, y, hy, oy, q0, q1, q2, q3⟩ := hs.one hlt
      have KY := HK.out y (by rw [← hy]; exact List.getElem_mem hl)
      obtain ⟨ys, yk, yl, yA, yn, yc, yd⟩ := y
      obtain ⟨kk, rfl⟩ := Int.eq_ofNat_of_zero_le KY.1
      obtain ⟨bb, rfl⟩ := Int.eq_ofNat_of_zero_le KY.2
      have NE := Lib.hid (show (M.take (k + 1)).map (fun y => ent y.abs) = E ++ [⟨kk, bb⟩] by rw [List.take_succ_eq_append_getElem hl, List.map_append, ← HE.out, hy]; rfl)
      have HEL := Lib.hid (show E.length ≤ n by rw [HE.out]; simp; omega)
      have B2 := Lib.hid ((Below.refl wr.heap.size wr).alloc (Nat.le_refl _) (.cells #[.int .u64 (ys : Int), .int .i64 (kk : Int), .int .i64 (bb : Int), .slice yA yn yc] 111))
      have d2 : (wr.alloc (.cells #[.int .u64 (ys : Int), .int .i64 (kk : Int), .int .i64 (bb : Int), .slice yA yn yc] 111)).cell? ⟨nb, 2, none⟩ = some (.slice Av E.length cv) := (N1.out.up B2.out).box.cell 2
      have r1 : (wr.alloc (.cells #[.int .u64 (ys : Int), .int .i64 (kk : Int), .int .i64 (bb : Int), .slice yA yn yc] 111)).cell? ⟨wr.heap.size, 1, none⟩ = some (.int .i64 (kk : Int)) := (At.new (w := wr) (g := wr.heap.size) #[.int .u64 (ys : Int), .int .i64 (kk : Int), .int .i64 (bb : Int), .slice yA yn yc] 111 rfl).cell 1
      have r2 : (wr.alloc (.cells #[.int .u64 (ys : Int), .int .i64 (kk : Int), .int .i64 (bb : Int), .slice yA yn yc] 111)).cell? ⟨wr.heap.size, 2, none⟩ = some (.int .i64 (bb : Int)) := (At.new (w := wr) (g := wr.heap.size) #[.int .u64 (ys : Int), .int .i64 (kk : Int), .int .i64 (bb : Int), .slice yA yn yc] 111 rfl).cell 2
      clear KY hs hy oy
      simp only at q0 q1 q2 q3
      go_wp2_with (at_builtin; refine L9.wpList_append_ent2 rfl (.tmp 26) (.tmp 32) rfl (nb + 1) (.slice Av E.length cv) E.length E rfl (own_below N1.out.own (B2.out.alloc B2.out.size (.cells #[.int .i64 (kk : Int), .int .i64 (bb : Int)] 73))) ⟨wr.heap.size + 1, 0, none⟩ 1 1 [⟨kk, bb⟩] rfl (L9.Src.one ⟨kk, bb⟩ (At.new _ 73 (by simp))) (by have := HEL.out; have := HN.out; have := SM.out; have := NN.out.1; omega) (by have := N1.out.box.lt; simp; omega) ?_; intro A3 c3 w3 hown hg hf; have NX := Lib.hid (N1.out.push (B2.out.alloc B2.out.size (.cells #[.int .i64 (kk : Int), .int .i64 (bb : Int)] 73)) hown hg); have D3 := N1.out.grown (B2.out.alloc B2.out.size (.cells #[.int .i64 (kk : Int), .int .i64 (bb : Int)] 73)) hg; have d3 : w3.cell? ⟨nb, 2, none⟩ = some (.slice Av E.length cv) := D3.cell 2; have f3 := D3.frozen 2; clear hown hg hf D3)
      go_roundw
      case rel => exact ⟨k + 1, _, E ++ [⟨kk, bb⟩], by omega, by go_num, NX.out, NE.out.symm⟩
      case measure => simp [RowKit.intOf]; omega
    · obtain rfl : k = n := by omega
      have HE2 := Lib.hid (show E = M.map (fun y => ent y.abs) by rw [HE.out, List.take_of_length_le (by rw [HL.out]; exact Nat.le_refl _)])
      have HEL := Lib.hid (show E.length = k by rw [HE2.out]; simp [HL.out])
      obtain ⟨m, hm⟩ : ∃ m, m = x.a.sl - k := ⟨_, rfl⟩
      have HMM := Lib.hid (show m ≤ 3 ∧ x.a.sl = k + m by have := NN.out.1; have := SM.out; have := HN.out; omega)
      clear hm d2 f2
      go_wp2_with fail
      go_loopg [45] m (fun gg _ wr2 => ∃ (j : Nat) (v2 : Value) (E2 : List L9.En), j ≤ m ∧ m - j ≤ gg ∧ Nb W wr2 nb (x.a.dur + 1) z v2 E2 ∧ E2 = E ++ List.replicate j ⟨0, 0⟩)
      case atStart => exact ⟨0, _, E, Nat.zero_le _, by omega, N1.out, by simp⟩
      case round =>
        obtain ⟨j, v2, E2, hj, hgg, hN2, hE2⟩ := hrel
        have NB := Lib.hid hN2
        have HE3 := Lib.hid hE2
        obtain ⟨Av, cv, rfl, _, _⟩ := hN2.form
        have LE2 := Lib.hid (show E2.length = k + j by rw [hE2]; simp [HEL.out])
        have G2 := Lib.hid (RB.out wr hN2.bel).1
        have S0 : (fun w' : World => LB w' P q x ∧ At w' nb #[.int .u64 (x.a.dur + 1), .int .i64 z, .slice Av E2.length cv] 66) wr.drew := ⟨G2.out.lb, hN2.box⟩
        clear hN2 hE2
        go_wp2_with fail
        refine wp_region_early (fun w' : World => LB w' P q x ∧ At w' nb #[.int .u64 (x.a.dur + 1), .int .i64 z, .slice Av E2.length cv] 66) (fun _ => true) (by kernel_rfl) ?_
        change wpEarly _ _ _ _ _ _ 9 (Array.replicate 9 false) _ _
        refine early_take (i := 0) 36 (.pointer (some ⟨nb, 2, none⟩)) rfl rfl (by kernel_rfl) (by kernel_rfl) (by kernel_rfl) (by kernel_rfl) rfl (fun _ _ _ h => h) (fun w' hw' => by go_simp) S0 ?_
        simp only [Act.put, List.setIfInBounds_toArray, List.set_cons_zero, List.set_cons_succ]
        refine early_take (i := 1) 37 (.slice Av E2.length cv) rfl rfl (by kernel_rfl) (by kernel_rfl) (by kernel_rfl) (by kernel_rfl) rfl (fun _ _ _ h => h) (fun w' hw' => by have k : w'.cell? ⟨nb, 2, none⟩ = some (.slice Av E2.length cv) := hw'.2.cell 2; go_simp) S0 ?_
        simp only [Act.put, List.setIfInBounds_toArray, List.set_cons_zero, List.set_cons_succ]
        refine early_take (i := 2) 38 (.int .i64 (E2.length : Int)) rfl rfl (by kernel_rfl) (by kernel_rfl) (by kernel_rfl) (by kernel_rfl) rfl (fun _ _ _ h => h) (fun w' hw' => by go_simp) S0 ?_
        simp only [Act.put, List.setIfInBounds_toArray, List.set_cons_zero, List.set_cons_succ]
        refine early_take (i := 3) 39 (.pointer (some ⟨q.b, 0, none⟩)) rfl rfl (by kernel_rfl) (by kernel_rfl) (by kernel_rfl) (by kernel_rfl) rfl (fun _ _ _ h => h) (fun w' hw' => by go_simp) S0 ?_
        simp only [Act.put, List.setIfInBounds_toArray, List.set_cons_zero, List.set_cons_succ]
        refine early_take (i := 4) 40 (.pointer (some ⟨q.b, 0, none⟩)) rfl rfl (by kernel_rfl) (by kernel_rfl) (by kernel_rfl) (by kernel_rfl) rfl (fun _ _ _ h => h) (fun w' hw' => by go_simp) S0 ?_
        simp only [Act.put, List.setIfInBounds_toArray, List.set_cons_zero, List.set_cons_succ]
        refine early_take (i := 5) 41 (.pointer (some ⟨q.b, 0, none⟩)) rfl rfl (by kernel_rfl) (by kernel_rfl) (by kernel_rfl) (by kernel_rfl) rfl (fun _ _ _ h => h) (fun w' hw' => by go_simp) S0 ?_
        simp only [Act.put, List.setIfInBounds_toArray, List.set_cons_zero, List.set_cons_succ]
        refine early_take (i := 6) 42 (sv (x.a.M : Int) x.a.b x.a.g x.a.s x.a.n x.a.l) rfl rfl (by kernel_rfl) (by kernel_rfl) (by kernel_rfl) (by kernel_rfl) rfl (fun _ _ _ h => h) (fun w' hw' => exec_shape (s := x.a) (x := .tmp 41) rfl rfl hw'.1.range) S0 ?_
        simp only [Act.put, List.setIfInBounds_toArray, List.set_cons_zero, List.set_cons_succ]
        refine early_only (i := 7) (by kernel_rfl) rfl (fun K hK => ?_)
        simp only [opWp, List.getElem?_toArray, List.getElem?_cons_succ, List.getElem?_cons_zero]
        go_simp
        go_at_call 56
        refine (slots_any (x.a.M : Int) x.a.b x.a.g x.a.s x.a.n x.a.l ⟨by have := SM.out; omega, by have := SM.out; omega⟩ _).mono ?_
        rintro e w3 ⟨rfl, hb⟩
        have B3 := Lib.hid (below_drew hb)
        have N3 := Lib.hid (NB.out.up B3.out)
        have G3 := Lib.hid (G2.out.up B3.out)
        have S3 : (fun w' : World => LB w' P q x ∧ At w' nb #[.int .u64 (x.a.dur + 1), .int .i64 z, .slice Av E2.length cv] 66) w3 := ⟨G3.out.lb, N3.out.box⟩
        clear hb
        refine hK _ _ (fun _ => S3) ?_
        refine early_take (i := 8) 44 (.bool (decide ((E2.length : Int) < (x.a.M : Int) - 2))) rfl rfl (by kernel_rfl) (by kernel_rfl) (by kernel_rfl) (by kernel_rfl) rfl (fun _ _ _ h => h) (fun w' hw' => by go_simp) S3 ?_
        simp only [Act.put, List.setIfInBounds_toArray, List.set_cons_zero, List.set_cons_succ]
        refine early_done (by kernel_rfl) ?_
        clear S0 S3
        by_cases hlt : j < m
        · have ht : decide ((E2.length : Int) < (x.a.M : Int) - 2) = true := decide_eq_true (by have := LE2.out; have := HMM.out; have := NN.out.1; omega)
          have d2 : w3.cell? ⟨nb, 2, none⟩ = some (.slice Av E2.length cv) := N3.out.box.cell 2
          have B4 := Lib.hid ((Below.refl w3.heap.size w3).alloc (Nat.le_refl _) (.cells #[.int .i64 0, .int .i64 0] 73))
          rw [ht]
          clear ht
          go_wp2_with (at_builtin; refine L9.wpList_append_ent2 rfl (.tmp 46) (.tmp 48) rfl (nb + 1) (.slice Av E2.length cv) E2.length E2 rfl (own_below N3.out.own B4.out) ⟨w3.heap.size, 0, none⟩ 1 1 [⟨0, 0⟩] rfl (L9.Src.one ⟨0, 0⟩ (At.new _ 73 rfl)) (by have := HMM.out; have := LE2.out; omega) (by have := N3.out.box.lt; simp; omega) ?_; intro A3 c3 w5 hown hg hf; have NX := Lib.hid (N3.out.push B4.out hown hg); have D3 := N3.out.grown B4.out hg; have d3 : w5.cell? ⟨nb, 2, none⟩ = some (.slice Av E2.length cv) := D3.cell 2; have f3 := D3.frozen 2; clear hown hg hf D3)
          go_roundg (m - (j + 1))
          case measure => omega
          case rel => exact ⟨j + 1, _, E2 ++ [⟨0, 0⟩], by omega, Nat.le_refl _, NX.out, by rw [HE3.out, List.append_assoc, List.replicate_succ']⟩
        · obtain rfl : j = m := by omega
          have ht : decide ((E2.length : Int) < (x.a.M : Int) - 2) = false := decide_eq_false (by have := LE2.out; have := HMM.out; have := NN.out.1; omega)
          have T3 := Lib.hid (RB.out w3 N3.out.bel).2
          rw [ht]
          clear ht
          go_wp2_with (first
            | (refine wpList_load_part rfl 66 (.tmp 7) rfl nb 0 #[.int .u64 (x.a.dur + 1), .int .i64 z, .slice Av E2.length cv] _ ?_ ?_ Tryz.underlying66 rfl L9.size28 ?_)
            | (refine wpList_store_part rfl 66 (.tmp 6) (.tmp 51) rfl w.heap.size 0 66 #[.int .u64 0, .int .i64 0, .slice none 0 0] #[.int .u64 (x.a.dur + 1), .int .i64 z, .slice Av E2.length cv] ?_ ?_ ?_ L9.size28 ?_ ?_ ?_))
          · intro j hj
            exact (N3.out.box.cell j).trans (by simp)
          · exact T3.out
          · exact ⟨rfl, rfl, rfl⟩
          · intro w4 hat hb
            have A4 := Lib.hid (show At w4 w.heap.size #[.int .u64 (x.a.dur + 1), .int .i64 z, .slice Av E2.length cv] 66 from hat)
            have B4 := Lib.hid hb
            obtain ⟨_, _, e5, ER, EO⟩ := N3.out.form
            injection e5 with e5 _ e6
            subst e5 e6
            clear hat hb
            go_wp2
            refine bodyPost_ret (results_cell_row (p := 6) (ty := 66) rfl _ w4 w.heap.size 66 #[.int .u64 (x.a.dur + 1), .int .i64 z, .slice Av E2.length cv] (0, 0) _ rfl A4.out Tryz.underlying66 rfl L9.size28) rfl ?_
            have e7 : E2.length = x.a.sl := by rw [LE2.out, HMM.out.2]
            have e8 : E2 = M.map (fun y => ent y.abs) ++ List.replicate (x.a.sl - k) ⟨0, 0⟩ := by rw [HE3.out, HE2.out]; congr 2; have := HMM.out.2; omega
            refine ⟨Av, ⟨cv, by rw [e7]⟩, ?_, fun a ha => by have := EO a ha; have := LO.out; omega, ?_⟩
            · rw [← e8, ← e7]
              exact ER.but B4.out (fun h0 a ha e => by have := EO a ha; have := LO.out; omega)
            · have b1 : Below w.heap.size w w3 := BW.out.trans (N3.out.bel.mono (Nat.le_of_lt LO.out))
              exact b1.trans (B4.out.below (fun k e => Nat.le_of_eq e.symm) b1.size)
end
end Go.Proofs.YtplmdmchkaacoaaGreat
