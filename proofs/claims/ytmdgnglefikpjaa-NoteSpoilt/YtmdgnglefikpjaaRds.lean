/-
  THE WALK OF Reads: the note of bytes, as the document has it.
-/
import Derived.Test.YtmdgnglefikpjaaReadAt
import Derived.Deep.CutRange
import Derived.Deep.CutBlock
import Derived.Deep.DeepCutAuto
namespace Go.Proofs.Ytmdgnglefikpjaa
open Go.RowKit
set_option linter.unusedVariables false
set_option maxRecDepth 100000


/-- The bytes' variable in the first block, the answer in the second. -/
structure Rds (w0 w : World) (v : Value) : Prop where
  box : At w w0.heap.size #[v] 30
  res : At w (w0.heap.size + 1) #[.int .u64 0, .int .i64 0, .slice none 0 0] 28
  bel : Below w0.heap.size w0 w
theorem Rds.start (w : World) (v : Value) : Rds w ((w.alloc (.cells #[v] 30)).alloc (.cells #[.int .u64 0, .int .i64 0, .slice none 0 0] 28)) v :=
  ⟨(At.new _ _ rfl).alloc _, At.new _ _ (by simp), ((Below.refl _ _).alloc (Nat.le_refl _) _).alloc (by simp) _⟩
section
variable {w0 w w' : World} {v : Value}
theorem Rds.up (h : Rds w0 w v) (hb : Below w.heap.size w w') : Rds w0 w' v := ⟨h.box.below hb h.box.lt, h.res.below hb h.res.lt, h.bel.trans (hb.mono h.bel.size)⟩
theorem Rds.drewN (h : Rds w0 w v) (k : Nat) : Rds w0 (w.drewN k) v := ⟨h.box, h.res, below_drewN h.bel k⟩
theorem Rds.but {S : Nat → Prop} (h : Rds w0 w v) (hb : But S w w') (hs : ∀ k, S k → w0.heap.size + 1 < k) : Rds w0 w' v :=
  ⟨h.box.but hb (fun e => by have := hs _ e; omega), h.res.but hb (fun e => by have := hs _ e; omega), h.bel.trans (hb.below (fun k e => by have := hs k e; omega) h.bel.size)⟩
theorem Rds.done (h : Rds w0 w v) (hb : But (fun k => k = w0.heap.size + 1) w w') : Below w0.heap.size w0 w' := h.bel.trans (hb.below (fun k e => by omega) h.bel.size)
theorem Rds.base (h : Rds w0 w v) : w0.heap.size + 1 + 1 ≤ w.heap.size := h.res.lt
/-- And the note in block P, whose row of the call's own holds es. -/
structure Rdp (w0 w : World) (v : Value) (P q : Nat) (z : Int) (u : Value) (es : List En) : Prop where
  r : Rds w0 w v
  pb : At w P #[.int .u64 (q : Int), .int .i64 z, u] 28
  own : w.ownsRow (w0.heap.size + 1 + 1) 48 2 u es.length (flat es)
  np : w0.heap.size + 1 < P
  off : u.ownBlock ≠ some P
variable {P q : Nat} {z : Int} {u : Value} {es : List En}
theorem Rdp.up (h : Rdp w0 w v P q z u es) (hb : Below w.heap.size w w') : Rdp w0 w' v P q z u es :=
  ⟨h.r.up hb, h.pb.below hb h.pb.lt, own_below h.own hb, h.np, h.off⟩
theorem Rdp.after {wa w2 : World} (h : Rdp w0 w v P q z u es) (ha : Below w.heap.size w wa) (hg : wa.grownBy w2 u.ownBlock) : At w2 P #[.int .u64 (q : Int), .int .i64 z, u] 28 :=
  (h.up ha).pb.but (S := fun k => u.ownBlock = some k) ((But.refl _ _).grown hg (fun k hk _ => hk)) h.off
theorem Rdp.push {wa w2 : World} {n c : Nat} {A : Option Addr} {x : En} (h : Rdp w0 w v P q z u es) (ha : Below w.heap.size w wa) (hown : w2.ownsRow (w0.heap.size + 1 + 1) 48 2 (.slice A n c) n (flat (es ++ [x]))) (hg : wa.grownBy w2 u.ownBlock)
    (hf : ∀ g, (Value.slice A n c).ownBlock = some g → u.ownBlock = some g ∨ wa.heap.size ≤ g) : Rdp w0 (w2.setCell ⟨P, 2, none⟩ (.slice A n c)) v P q z (.slice A n c) (es ++ [x]) := by
  have h1 := h.up ha
  have lo : ∀ k, u.ownBlock = some k → w0.heap.size + 1 + 1 ≤ k := fun k hk => (h.own.lt k hk).1
  have bt : But (fun k => u.ownBlock = some k) wa w2 := (But.refl _ _).grown hg (fun k hk _ => hk)
  have hn : n = (es ++ [x]).length := by have := hown.1; rw [flat_len] at this; omega
  have bs : But (fun k => k = P) w2 (w2.setCell ⟨P, 2, none⟩ (.slice A n c)) := (But.refl (fun k => k = P) w2).setCell (p := ⟨P, 2, none⟩) (fun _ => rfl) _
  have ho : (Value.slice A n c).ownBlock ≠ some P := fun e => (hf P e).elim h.off (fun h2 => by have := h1.pb.lt; omega)
  refine ⟨(h1.r.but bt (fun k e => by have := lo k e; omega)).but bs (fun k e => by have := h.np; omega), (h.after ha hg).set 2 _, ?_, h.np, ho⟩
  rw [← hn]
  exact own_but hown bs (fun k hk e => ho (e ▸ hk))
end
theorem run_append_ent2 {w : World} {ty : TypeId} (base : Nat) (v : Value) (n : Nat) (L : List En) (hown : w.ownsRow base 48 2 v n (flat L)) (S : Addr) (m c : Nat) (M : List En) (hk : Src w S m M) (hm : n + m ≤ 1000000) (hbase : base ≤ w.heap.size) :
    ∃ A cap w', (Builtin.append_ #[26, 26] ty #[v, .slice (some S) m c]).run Try.prog w = .ok (.slice A (n + m) cap) w' ∧ w'.ownsRow base 48 2 (.slice A (n + m) cap) (n + m) (flat (L ++ M)) ∧ w.grownBy w' v.ownBlock ∧
      (∀ g, (Value.slice A (n + m) cap).ownBlock = some g → v.ownBlock = some g ∨ w.heap.size ≤ g) := by
  obtain ⟨i0, hi, hz0, hz1, hz2⟩ := info_parts ent_info
  obtain ⟨v', w', hr, h2, h3, h4, h5⟩ := run_append_own_at (P := Try.prog) w base 26 ty 48 i0 _ 2 16 Try.underlying26 hi hz0 hz1 hz2 rfl (by decide) v n (flat L) hown S m c (flat M) (by rw [flat_len, hk.1]) hk.2 (flat_one M) (by unfold maxLen; omega) (by omega) hbase
  obtain ⟨A, cap, rfl⟩ : ∃ A cap, v' = .slice A (n + m) cap := by
    rcases h2.2 with ⟨rfl, e⟩ | ⟨g, cap, cur, rfl, _⟩
    · exact ⟨none, 0, by rw [e]⟩
    · exact ⟨_, cap, rfl⟩
  refine ⟨A, cap, w', hr, by rw [flat_append]; exact h2, h3, fun g hg => ?_⟩
  rcases h5 with e | e
  · exact .inl (by rw [← e]; exact hg)
  · rw [e] at hg
    injection hg with hg
    exact .inr (by omega)
theorem wpList_append_ent2 {w : World} {ops : Array Oper} {rest : List Oper} {o : Oper} {a : Act} {Q : Exit → Act → World → Prop} (hgd : o.guard = none) (s x : Operand)
    (ho : o.op = .call { callee := .builtin .append, args := #[s, x], argTypes := #[26, 26] }) (base : Nat) (v : Value) (n : Nat) (L : List En) (hs : a.eval s = v) (hown : w.ownsRow base 48 2 v n (flat L))
    (S : Addr) (m c : Nat) (M : List En) (hx : a.eval x = .slice (some S) m c) (hk : Src w S m M) (hm : n + m ≤ 1000000) (hbase : base ≤ w.heap.size)
    (h : ∀ A cap w', w'.ownsRow base 48 2 (.slice A (n + m) cap) (n + m) (flat (L ++ M)) → w.grownBy w' v.ownBlock → (∀ g, (Value.slice A (n + m) cap).ownBlock = some g → v.ownBlock = some g ∨ w.heap.size ≤ g) →
      wpList Try.prog ops Q rest (a.put o.dst (.slice A (n + m) cap)) w') : wpList Try.prog ops Q (o :: rest) a w := by
  refine wpList_plain hgd fun K hK => ?_
  obtain ⟨A, cap, w', hr, h2, h3, h4⟩ := run_append_ent2 (ty := o.type) base v n L hown S m c M hk hm hbase
  unfold Oper.wp execOp
  simp only [ho, resolve, invoke, builtin, Sem.run_bind, Sem.run_pure, Result.andThen_ok, List.map_toArray, List.map_cons, List.map_nil, hs, hx, hr]
  exact hK _ _ (h A cap w' h2 h3 h4)
theorem fine_next (L : List (BitVec 8)) (k : Nat) : Fine (enUpto L (k + 1)) ↔ Fine (enUpto L k) ∧ (enAt L k).ok := by
  rw [enUpto_next]
  constructor
  · intro h
    exact ⟨fun x hx => h x (List.mem_append_left _ hx), h _ (List.mem_append_right _ (by simp))⟩
  · rintro ⟨h1, h2⟩ x hx
    rcases List.mem_append.1 hx with hx | hx
    · exact h1 x hx
    · simp at hx
      subst hx
      exact h2
theorem none0_next (L : List (BitVec 8)) (j : Nat) (h : j < L.length) : None0 (L.take (j + 1)) ↔ None0 (L.take j) ∧ L[j] = 0#8 := by
  unfold None0
  rw [List.take_succ_eq_append_getElem h]
  constructor
  · intro h1
    exact ⟨fun x hx => h1 x (List.mem_append_left _ hx), h1 _ (List.mem_append_right _ (by simp))⟩
  · rintro ⟨h1, h2⟩ x hx
    rcases List.mem_append.1 hx with hx | hx
    · exact h1 x hx
    · simp at hx
      subst hx
      exact h2
theorem fld_one (L : List (BitVec 8)) (h : 0 < L.length) : fld L 0 1 = L[0].toNat := by
  unfold fld
  rw [List.drop_zero, num_take_next L 0 h]
  simp [num]
theorem rfail_made {w w2 : World} {k : Nat} (hb : Below w.heap.size w w2) : Answer w (Nt.zero, k) (.returned (.tuple #[.agg #[.int .u64 0, .int .i64 0, .slice none 0 0], .int .i64 (k : Int)])) w2 :=
  ⟨none, 0, rfl, Ers.nil _ _, hb⟩

set_option maxHeartbeats 800000 in
theorem reads_size (A : Option Addr) (n c : Nat) (s : Int) (w : World) (hn : n ≤ 500000) (hr : ¬ (0 ≤ s ∧ 15 + 5 * s ≤ (n : Int))) (hs : -9223372036854775808 ≤ s ∧ s ≤ 9223372036854775807) :
    Calls Try.prog 15 #[.slice A n c, .int .i64 s] w (Answer w (Nt.zero, 6)) := by
  have T := Lib.hid (Rds.start w (.slice A n c))
  have b0 := T.out.box.cell 0
  by_cases h0 : s < 0
  · clear hr
    go_enter Try.func15, Try.ntmps15
    go_wp2_with (refine wpList_store_part rfl 28 (.tmp 4) (.tmp 30) rfl (w.heap.size + 1) 0 28 #[.int .u64 0, .int .i64 0, .slice none 0 0] #[.int .u64 0, .int .i64 0, .slice none 0 0] rfl rfl T.out.res size28 (by simp) (note_all 0 _ _ _ _) ?_; intro w9 hat9 hb9; have R := Lib.hid (show At w9 (w.heap.size + 1) #[.int .u64 0, .int .i64 0, .slice none 0 0] 28 from hat9); have BB := Lib.hid (T.out.done hb9); clear hat9 hb9)
    refine bodyPost_ret (results_cell_slot (p := 4) (u := 5) (ty := 28) rfl _ _ (w.heap.size + 1) #[.int .u64 0, .int .i64 0, .slice none 0 0] _ rfl R.out Try.underlying28 size28) rfl ?_
    exact rfail_made BB.out
  · by_cases h1 : (n : Int) < s
    · clear hr
      go_enter Try.func15, Try.ntmps15
      go_wp2_with (refine wpList_store_part rfl 28 (.tmp 4) (.tmp 30) rfl (w.heap.size + 1) 0 28 #[.int .u64 0, .int .i64 0, .slice none 0 0] #[.int .u64 0, .int .i64 0, .slice none 0 0] rfl rfl T.out.res size28 (by simp) (note_all 0 _ _ _ _) ?_; intro w9 hat9 hb9; have R := Lib.hid (show At w9 (w.heap.size + 1) #[.int .u64 0, .int .i64 0, .slice none 0 0] 28 from hat9); have BB := Lib.hid (T.out.done hb9); clear hat9 hb9)
      refine bodyPost_ret (results_cell_slot (p := 4) (u := 5) (ty := 28) rfl _ _ (w.heap.size + 1) #[.int .u64 0, .int .i64 0, .slice none 0 0] _ rfl R.out Try.underlying28 size28) rfl ?_
      exact rfail_made BB.out
    · have h2 : (n : Int) < 15 + 5 * s := by omega
      clear hr
      go_enter Try.func15, Try.ntmps15
      go_wp2_with (refine wpList_store_part rfl 28 (.tmp 4) (.tmp 30) rfl (w.heap.size + 1) 0 28 #[.int .u64 0, .int .i64 0, .slice none 0 0] #[.int .u64 0, .int .i64 0, .slice none 0 0] rfl rfl T.out.res size28 (by simp) (note_all 0 _ _ _ _) ?_; intro w9 hat9 hb9; have R := Lib.hid (show At w9 (w.heap.size + 1) #[.int .u64 0, .int .i64 0, .slice none 0 0] 28 from hat9); have BB := Lib.hid (T.out.done hb9); clear hat9 hb9)
      refine bodyPost_ret (results_cell_slot (p := 4) (u := 5) (ty := 28) rfl _ _ (w.heap.size + 1) #[.int .u64 0, .int .i64 0, .slice none 0 0] _ rfl R.out Try.underlying28 size28) rfl ?_
      exact rfail_made BB.out
end Go.Proofs.Ytmdgnglefikpjaa
