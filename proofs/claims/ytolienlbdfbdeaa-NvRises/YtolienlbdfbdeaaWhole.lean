/-
  THE MEMORY, AND THE VARIABLES THAT NvWhole's CLOSURE HOLDS.
-/
import Derived.Test.YtolienlbdfbdeaaPlay
namespace Go.Proofs.Ytolienlbdfbdeaa
open Go.RowKit
set_option linter.unusedVariables false
set_option maxRecDepth 100000

/-- A struct stored into a block that is known whole, as one operation. -/
theorem wp_store_part {w : World} {op : Oper} {a : Act} {K : Act → World → Prop} {Q : Exit → Act → World → Prop} (ty : TypeId) (x y : Operand) (ho : op.op = .store ty x y) (g o : Nat) (t : TypeId) (c cells : Array Value)
    (hx : a.eval x = .pointer (some ⟨g, o, none⟩)) (hy : a.eval y = .agg cells) (hat : At w g c t) (hi : (Try.prog.info? ty).map (·.size) = some cells.size) (hfit : o + cells.size ≤ c.size) (h1 : cells.all (·.oneCell') = true)
    (h : ∀ w', At w' g (part c o cells) t → But (fun k => k = g) w w' → K (a.put op.dst undef) w') : op.wp Try.prog a w K Q := by
  have hst := run_storeCells_at Try.prog g o t cells.toList 0 c w hat (by simpa using hfit) (fun v hv => (Array.all_eq_true_iff_forall_mem.1 h1) v (by simpa using hv))
  have hrun : (storeVar ty ⟨g, o, none⟩ (.agg cells)).run Try.prog w = .ok () (w.setRow g (part c o cells)) := by
    cases hq : Try.prog.info? ty with
    | none => simp [hq] at hi
    | some i =>
      have hs : cells.size = i.size := by simp [hq] at hi; omega
      simp only [Nat.add_zero, Array.length_toList] at hst
      simp [storeVar, sizeOf, typeInfo, hq, Value.cells, hs, hst, part]
  unfold Oper.wp execOp
  simp only [ho, hx, hy, Instr.storeAt, Instr.sureAddr, Sem.run_bind, Sem.run_pure, Result.andThen_ok, hrun]
  exact h _ (setRow_heap w g _ _ t _ hat) (setRow_but w g _)

/-- The blocks of the variables: the acts, the memory's address, the records that were, the root that was, the answer of Run. -/
structure Vs where
  bl : Nat
  dv : Nat
  wv : Nat
  rv : Nat
  rc : Nat
def Vs.is (V : Vs) (j : Nat) : Prop := j = V.bl ∨ j = V.dv ∨ j = V.wv ∨ j = V.rv ∨ j = V.rc

structure Wh (B : Nat) (w0 w : World) (g : Nat) (T : Nat → Prop) (s : NS) (u l : Int) (V : Vs) (A : Option Addr) (n c : Nat) : Prop where
  sys : Sys B w0 w g B T s u l
  bl : At w V.bl #[.slice A n c] 22
  dv : At w V.dv #[.pointer (some ⟨g, 0, none⟩)] 26
  wv : ∃ v, At w V.wv #[v] 33
  rv : ∃ r : Rt, At w V.rv r.cs 32
  rc : At w V.rc #[.bool false] 4
  off : ∀ j, V.is j → ¬ T j ∧ ¬ j = B
  low : B ≤ V.wv ∧ B ≤ V.rv
  ne : V.bl ≠ V.wv ∧ V.bl ≠ V.rv ∧ V.dv ≠ V.wv ∧ V.dv ≠ V.rv ∧ V.rc ≠ V.wv ∧ V.rc ≠ V.rv ∧ V.wv ≠ V.rv

section
variable {B : Nat} {w0 w w' : World} {g : Nat} {T T' : Nat → Prop} {s s' : NS} {u l u' l' : Int} {V : Vs} {A : Option Addr} {n c : Nat}
theorem Wh.lt (h : Wh B w0 w g T s u l V A n c) : ∀ j, V.is j → j < w.heap.size := by
  rintro j (rfl | rfl | rfl | rfl | rfl)
  · exact h.bl.lt
  · exact h.dv.lt
  · exact h.wv.elim fun _ h => h.lt
  · exact h.rv.elim fun _ h => h.lt
  · exact h.rc.lt
/-- Behind an operation of the memory. -/
theorem Wh.go (h : Wh B w0 w g T s u l V A n c) (hs : Sys B w0 w' g B T' s' u' l') (hT : ∀ j, T' j → T j ∨ w.heap.size ≤ j) (hb : But (fun j => T j ∨ j = B) w w') : Wh B w0 w' g T' s' u' l' V A n c := by
  have hS : ∀ j, V.is j → ¬ (T j ∨ j = B) := fun j hj e => e.elim (h.off j hj).1 (h.off j hj).2
  obtain ⟨v, hv⟩ := h.wv
  obtain ⟨r, hr⟩ := h.rv
  refine ⟨hs, h.bl.but hb (hS _ (.inl rfl)), h.dv.but hb (hS _ (.inr (.inl rfl))), ⟨v, hv.but hb (hS _ (.inr (.inr (.inl rfl))))⟩, ⟨r, hr.but hb (hS _ (.inr (.inr (.inr (.inl rfl)))))⟩, h.rc.but hb (hS _ (.inr (.inr (.inr (.inr rfl))))), fun j hj => ⟨fun ht => ?_, (h.off j hj).2⟩, h.low, h.ne⟩
  rcases hT j ht with ht | ht
  · exact (h.off j hj).1 ht
  · have := h.lt j hj; omega
theorem Wh.up (h : Wh B w0 w g T s u l V A n c) (hb : Below w.heap.size w w') : Wh B w0 w' g T s u l V A n c :=
  h.go (h.sys.up hb) (fun _ h => .inl h) (But.of_below hb)
theorem Wh.drewN (h : Wh B w0 w g T s u l V A n c) (m : Nat) : Wh B w0 (w.drewN m) g T s u l V A n c :=
  h.up ⟨rfl, rfl, rfl, Nat.le_refl _, fun _ _ => rfl⟩
/-- The variable of the records is set. -/
theorem Wh.setW (h : Wh B w0 w g T s u l V A n c) (v : Value) : Wh B w0 (w.setCell ⟨V.wv, 0, none⟩ v) g T s u l V A n c ∧ At (w.setCell ⟨V.wv, 0, none⟩ v) V.wv #[v] 33 := by
  have bo := But.own w V.wv 0 v
  obtain ⟨v0, hv⟩ := h.wv
  obtain ⟨r, hr⟩ := h.rv
  have hw := h.off V.wv (.inr (.inr (.inl rfl)))
  have hv2 : At (w.setCell ⟨V.wv, 0, none⟩ v) V.wv #[v] 33 := hv.set 0 v
  exact ⟨⟨h.sys.but bo (fun j hj e => hw.1 (e ▸ hj)) (fun e => hw.2 e.symm) (fun j e => e ▸ h.low.1), h.bl.but bo h.ne.1, h.dv.but bo h.ne.2.2.1, ⟨v, hv2⟩, ⟨r, hr.but bo (fun e => h.ne.2.2.2.2.2.2 e.symm)⟩, h.rc.but bo h.ne.2.2.2.2.1, h.off, h.low, h.ne⟩, hv2⟩
/-- The variable of the root is set. -/
theorem Wh.setR (h : Wh B w0 w g T s u l V A n c) {r : Rt} {v : Value} (hv : At w V.wv #[v] 33) (hat : At w' V.rv r.cs 32) (hb : But (fun j => j = V.rv) w w') : Wh B w0 w' g T s u l V A n c ∧ At w' V.wv #[v] 33 := by
  have hw := h.off V.rv (.inr (.inr (.inr (.inl rfl))))
  have hv2 := hv.but hb h.ne.2.2.2.2.2.2
  exact ⟨⟨h.sys.but hb (fun j hj e => hw.1 (e ▸ hj)) (fun e => hw.2 e.symm) (fun j e => e ▸ h.low.2), h.bl.but hb h.ne.2.1, h.dv.but hb h.ne.2.2.2.1, ⟨v, hv2⟩, ⟨r, hat⟩, h.rc.but hb h.ne.2.2.2.2.2.1, h.off, h.low, h.ne⟩, hv2⟩
end

/-- What was answered is kept, wherever else something turns. -/
theorem Recs.but {w w' : World} {S : Nat → Prop} {B : Nat} {v : Value} {R : List Rr} (h : Recs w B v R) (hb : But S w w') (hS : ∀ j, S j → j < B) : Recs w' B v R := by
  obtain ⟨L, hr, ha, hB, hf⟩ := h
  have h1 : ∀ k, v.ownBlock = some k → ¬ S k := fun k hk hs => by have := (hr.own.lt k hk).1; have := hS k hs; omega
  have h2 : ∀ x ∈ L, 0 < x.n → ∀ a, x.A = some a → ¬ S a.block := fun x hx h0 a haa hs => by have := hB x hx h0 a haa; have := hS _ hs; omega
  exact ⟨L, hr.but hb h1 h2, ha, hB, fun x hx => (hf x hx).but hb (h2 x hx)⟩
theorem Recs.up {w w' : World} {B : Nat} {v : Value} {R : List Rr} (h : Recs w B v R) (hb : Below w.heap.size w w') : Recs w' B v R :=
  h.but (S := fun _ => False) (But.of_below hb) (fun _ h => h.elim)
theorem Recs.base {w : World} {B B' : Nat} {v : Value} {R : List Rr} (h : Recs w B v R) (hb : B' ≤ B) : Recs w B' v R := by
  obtain ⟨L, hr, ha, hB, hf⟩ := h
  exact ⟨L, hr.base (fun k hk => Nat.le_trans hb (hr.own.lt k hk).1), ha, fun x hx h0 a haa => Nat.le_trans hb (hB x hx h0 a haa), hf⟩
theorem Recs.slice {w : World} {B : Nat} {v : Value} {R : List Rr} (h : Recs w B v R) : ∃ A c, v = .slice A R.length c := by
  obtain ⟨L, hr, ha, _⟩ := h
  obtain ⟨A, c, e⟩ := hr.slice
  exact ⟨A, c, by rw [e, ← ha, List.length_map]⟩

/-- When the closure has ended: the memory as it is; and if the power went, what was ahead of the operation is what is. -/
def Ended (B : Nat) (w0 : World) (g : Nat) (L : Int) (V : Vs) (A : Option Addr) (n c : Nat) (gone : Bool) (w' : World) : Prop :=
  ∃ T s u l, Wh B w0 w' g T s u l V A n c ∧ s.recs.length ≤ 1000 ∧ (gone = true → u = 1 + L ∧ ∃ v, At w' V.wv #[v] 33 ∧ At w' V.rv s.root.cs 32 ∧ Recs w' (V.rc + 1) v s.recs)

end Go.Proofs.Ytolienlbdfbdeaa
