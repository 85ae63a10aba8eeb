/-
  THE MEMORY, AND WHAT NvPlays KEEPS BESIDE IT.
-/
import Derived.Test.YtolienlbdfbdeaaActs
import Derived.Laws.StructEq
namespace Go.Proofs.Ytolienlbdfbdeaa
open Go.RowKit
set_option linter.unusedVariables false
set_option maxRecDepth 100000

/-- The memory, and what the law keeps beside it: the root at rb, the records v. -/
structure Play (B0 B : Nat) (w0 w : World) (g rb : Nat) (T : Nat → Prop) (s : NS) (u : Int) (v : Value) (L : List Rc) (k : Nat) : Prop where
  sys : Sys B w0 w g B T s u (-1)
  root : At w rb s.root.cs 32
  rbo : ¬ T rb ∧ ¬ rb = B ∧ B ≤ rb
  recs : Rw w 0 v L
  abs : L.map Rc.abs = s.recs
  vo : ∀ j, v.ownBlock = some j → ¬ T j ∧ ¬ j = B ∧ B ≤ j ∧ j ≠ rb
  data : ∀ x ∈ L, 0 < x.n → ∀ a, x.A = some a → a.block < B0
  low : B0 ≤ B
  last : s.last ≤ k
  ub : 0 ≤ u ∧ u ≤ k
  few : s.recs.length ≤ k

abbrev zeros15 : Array Value := #[.int .u8 0, .int .u8 0, .int .i64 0, .slice none 0 0, .int .u64 0, .int .u8 0, .int .i64 0, .int .i64 0, .int .i64 0, .int .i64 0, .int .i64 0, .int .i64 0, .int .u64 0, .int .u64 0, .int .i64 0]
abbrev zeros9 : Array Value := #[.int .i64 0, .int .i64 0, .int .i64 0, .int .i64 0, .int .i64 0, .int .i64 0, .int .u64 0, .int .u64 0, .int .i64 0]
theorem part_act (x : Ac) : part zeros15 0 x.cs = x.cs := rfl
theorem part_whole (r q : Rt) : part q.cs 0 r.cs = r.cs := rfl
theorem part_nought (r : Rt) : part zeros9 0 r.cs = r.cs := rfl

/-- A struct that fills its block, loaded. -/
theorem exec_load_whole {w : World} {a : Act} {op : Oper} {ty : TypeId} {x : Operand} {g : Nat} {cells : Array Value} {fs : Array Field} (ho : op.op = .load ty x) (hx : a.eval x = .pointer (some ⟨g, 0, none⟩)) (hat : At w g cells ty)
    (hu : Try.prog.underlying ty = some (.struct fs)) (hi : (Try.prog.info? ty).map (·.size) = some cells.size) : (execOp a.eval op).run Try.prog w = .ok (.value (.agg cells)) w := by
  have hrun := run_loadVar_row (P := Try.prog) w g ty ty cells (0, 0) _ hat hu rfl hi
  unfold execOp
  simp only [ho, hx, Instr.loadAt, Instr.sureAddr, Sem.run_bind, Sem.run_pure, Result.andThen_ok, hrun]
theorem root_neq (r : Rt) (w : World) : (binOp .neq 32 (.agg r.cs) (.agg r.cs)).run Try.prog w = .ok (.bool false) w := by
  unfold Rt.cs
  simp [go_sem, Try.underlying32, Try.underlying29]
theorem root_eql (r : Rt) (w : World) : (binOp .eql 32 (.agg r.cs) (.agg r.cs)).run Try.prog w = .ok (.bool true) w := by
  unfold Rt.cs
  simp [go_sem, Try.underlying32, Try.underlying29]
theorem Has.low {w : World} {A : Option Addr} {n : Nat} {l : List (BitVec 8)} (h : Has w A n l) (h0 : 0 < n) (a : Addr) (ha : A = some a) : a.block < w.heap.size := by
  obtain ⟨b, o, e, hlt, _⟩ := h.2 h0
  rw [ha] at e
  injection e with e
  subst e
  exact hlt
section
variable {B0 B : Nat} {w0 w w' : World} {g rb : Nat} {T : Nat → Prop} {s : NS} {u : Int} {v : Value} {L : List Rc} {k : Nat}
theorem Play.up (h : Play B0 B w0 w g rb T s u v L k) (hb : Below w.heap.size w w') : Play B0 B w0 w' g rb T s u v L k :=
  { h with sys := h.sys.up hb, root := h.root.below hb h.root.lt, recs := h.recs.up hb }
theorem Play.drewN (h : Play B0 B w0 w g rb T s u v L k) (n : Nat) : Play B0 B w0 (w.drewN n) g rb T s u v L k :=
  { h with sys := h.sys.drewN n, root := h.root, recs := h.recs.drewN n }
/-- What the law keeps, behind an operation of the memory. -/
theorem Play.side {w2 : World} (h : Play B0 B w0 w g rb T s u v L k) (hb : But (fun j => T j ∨ j = B) w w2) : At w2 rb s.root.cs 32 ∧ Rw w2 0 v L := by
  refine ⟨h.root.but hb (fun e => e.elim h.rbo.1 h.rbo.2.1), h.recs.but hb (fun j hj e => e.elim (h.vo j hj).1 (h.vo j hj).2.1) (fun x hx h0 a ha e => ?_)⟩
  have h1 := h.data x hx h0 a ha
  have h2 := h.low
  rcases e with e | e
  · have := h.sys.own _ e; omega
  · omega
theorem Play.rbT {w2 : World} {T' : Nat → Prop} (h : Play B0 B w0 w g rb T s u v L k) (hT : ∀ j, T' j → T j ∨ w.heap.size ≤ j) : ¬ T' rb ∧ ¬ rb = B ∧ B ≤ rb :=
  ⟨fun ht => (hT rb ht).elim h.rbo.1 (fun h' => by have := h.root.lt; omega), h.rbo.2⟩
theorem Play.vT {T' : Nat → Prop} (h : Play B0 B w0 w g rb T s u v L k) (hT : ∀ j, T' j → T j ∨ w.heap.size ≤ j) : ∀ j, v.ownBlock = some j → ¬ T' j ∧ ¬ j = B ∧ B ≤ j ∧ j ≠ rb := fun j hj =>
  ⟨fun ht => (hT j ht).elim (h.vo j hj).1 (fun h' => by have := (h.recs.own.lt j hj).2; omega), (h.vo j hj).2⟩
/-- The root is set, in the memory and beside it. -/
theorem Play.set {w2 w3 : World} {r : Rt} {u' : Int} (h : Play B0 B w0 w g rb T s u v L k) (hs : Sys B w0 w2 g B T (s.set r) u' (-1)) (hb : But (fun j => T j ∨ j = B) w w2) (hat : At w3 rb r.cs 32) (hb3 : But (fun j => j = rb) w2 w3) (hu : 0 ≤ u' ∧ u' ≤ k + 1) :
    Play B0 B w0 w3 g rb T (s.set r) u' v L (k + 1) := by
  obtain ⟨h1, h2⟩ := h.side hb
  refine ⟨hs.but hb3 (fun j hj e => h.rbo.1 (e ▸ hj)) (fun e => h.rbo.2.1 e.symm) (fun j e => e ▸ h.rbo.2.2), hat, h.rbo, h2.but hb3 (fun j hj => (h.vo j hj).2.2.2) (fun x hx h0 a ha e => ?_), h.abs, h.vo, h.data, h.low, Nat.le_succ_of_le h.last, hu, Nat.le_succ_of_le h.few⟩
  have := h.data x hx h0 a ha
  have := h.low
  have := h.rbo.2.2
  omega
/-- Nothing is done. -/
theorem Play.idle (h : Play B0 B w0 w g rb T s u v L k) : Play B0 B w0 w g rb T s u v L (k + 1) :=
  { h with last := Nat.le_succ_of_le h.last, ub := ⟨h.ub.1, by have := h.ub.2; omega⟩, few := Nat.le_succ_of_le h.few }
/-- A record is added, in the memory and beside it. -/
theorem Play.add {w2 wa w3 : World} {T' : Nat → Prop} {kd lba : Int} {A8 A3 xA : Option Addr} {c8 c3 xn xc m : Nat} {d : List (BitVec 8)} (h : Play B0 B w0 w g rb T s u (.slice A8 L.length c8) L k) (hs : Sys B w0 w2 g B T' (s.add kd lba d) (u + 1) (-1))
    (hT : ∀ j, T' j → T j ∨ w.heap.size ≤ j) (hb : But (fun j => T j ∨ j = B) w w2) (ha : Below w2.heap.size w2 wa) (hown : w3.ownsRow 0 40 4 (.slice A3 m c3) m (flat (L ++ [⟨s.last + 1, kd, lba, xA, xn, xc, d⟩]))) (hg : wa.grownBy w3 (Value.slice A8 L.length c8).ownBlock)
    (hf : ∀ j, (Value.slice A3 m c3).ownBlock = some j → (Value.slice A8 L.length c8).ownBlock = some j ∨ wa.heap.size ≤ j) (hd : Has w2 xA xn d) (hn : xn ≤ 100) (hl : 0 < xn → ∀ a, xA = some a → a.block < B0) :
    Play B0 B w0 w3 g rb T' (s.add kd lba d) (u + 1) (.slice A3 m c3) (L ++ [⟨s.last + 1, kd, lba, xA, xn, xc, d⟩]) (k + 1) := by
  obtain ⟨h1, h2⟩ := h.side hb
  have sa := hs.up ha
  have bt : But (fun j => (Value.slice A8 L.length c8).ownBlock = some j) wa w3 := (But.refl _ _).grown hg (fun j hj _ => hj)
  have vT := h.vT hT
  have rbT := h.rbT (w2 := w2) hT
  refine ⟨sa.but bt (fun j hj e => (vT j e).1 hj) (fun e => (vT B e).2.1 rfl) (fun j e => (vT j e).2.2.1), (h1.below ha h1.lt).but bt (fun e => (vT rb e).2.2.2 rfl), rbT, (h2.up ha).push hown hg hf (hd.below ha) hn (fun h0 a haa e => ?_), ?_, fun j hj => ?_, fun x hx => ?_, h.low, ?_, ?_, ?_⟩
  · have := hl h0 a haa
    have := (vT _ e).2.2.1
    have := h.low
    omega
  · rw [List.map_append, h.abs]
    rfl
  · rcases hf j hj with e | e
    · exact vT j e
    · have h3 := sa.off j e
      exact ⟨h3.1, h3.2, Nat.le_trans sa.size e, by have := h1.lt; have := ha.size; omega⟩
  · rcases List.mem_append.1 hx with hx | hx
    · exact h.data x hx
    · simp at hx; subst hx; exact hl
  · have := h.last
    show s.last + 1 ≤ k + 1
    omega
  · have := h.ub
    omega
  · have := h.few
    show (s.recs ++ [_]).length ≤ k + 1
    simp
    exact this
/-- Records are removed, in the memory and beside it. -/
theorem Play.commit {w2 w3 w4 : World} {d : Int} {q : Nat} {v' : Value} (h : Play B0 B w0 w g rb T s u v L k) (hs : Sys B w0 w2 g B T (s.commit d q) (u + 1) (-1)) (hb : But (fun j => T j ∨ j = B) w w2) (hat : At w3 rb (s.commit d q).root.cs 32) (hb3 : But (fun j => j = rb) w2 w3)
    (hr : Rw w4 0 v' (L.filter (stays q))) (hv : ∀ j, v'.ownBlock = some j → w3.heap.size ≤ j) (hb4 : Below w3.heap.size w3 w4) : Play B0 B w0 w4 g rb T (s.commit d q) (u + 1) v' (L.filter (stays q)) (k + 1) := by
  have s3 := hs.but hb3 (fun j hj e => h.rbo.1 (e ▸ hj)) (fun e => h.rbo.2.1 e.symm) (fun j e => e ▸ h.rbo.2.2)
  refine ⟨s3.up hb4, hat.below hb4 hat.lt, h.rbo, hr, ?_, fun j hj => ?_, fun x hx => h.data x (List.mem_filter.1 hx).1, h.low, Nat.le_succ_of_le h.last, ?_, ?_⟩
  · rw [abs_filter, h.abs]
    rfl
  · have h3 := s3.off j (hv j hj)
    exact ⟨h3.1, h3.2, Nat.le_trans s3.size (hv j hj), by have := hat.lt; have := hv j hj; omega⟩
  · have := h.ub
    omega
  · have h3 := List.length_filter_le (fun r : Rr => decide (q < r.seq)) s.recs
    have := h.few
    show (s.recs.filter _).length ≤ k + 1
    omega
end

end Go.Proofs.Ytolienlbdfbdeaa
