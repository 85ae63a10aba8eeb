/-
  A REGION THAT DRAWS ITS ORDER AND ENDS IN A STORE TO A CELL THAT IT LOADS: the load may be taken first, if what it reads holds behind every operation that may come before it; of those that wait for the load (the store) nothing is asked.
-/
import Derived.OrdersHeld
namespace Go.Proofs.Ytcekcbheajcfpaa
open Go

section
variable {P : Program} {ops : Array Oper} {Q : Exit → Act → World → Prop} {md : Region.Mode} {S : World → Prop} {E : Nat → Bool}

/-- Whatever order comes: behind the operations that E names S holds. -/
def wpEarly (P : Program) (md : Region.Mode) (ops : Array Oper) (Q : Exit → Act → World → Prop) (S : World → Prop) (E : Nat → Bool) : Nat → Array Bool → Act → World → Prop
  | 0, listed, a, w => Region.ready md ops listed = [] ∧ Q .normal a w
  | fuel + 1, listed, a, w =>
    (Region.ready md ops listed = [] → Q .normal a w) ∧
    ∀ i ∈ Region.ready md ops listed, wpOp P ops Q i (fun a' w' => (E i = true → S w') ∧ wpEarly P md ops Q S E fuel (listed.setIfInBounds i true) a' w') a w

theorem wpAny_of_early : ∀ (fuel : Nat) (listed : Array Bool) (a : Act) (w : World), wpEarly P md ops Q S E fuel listed a w → wpAny P md ops Q fuel listed a w
  | 0, _, _, _, h => h
  | fuel + 1, _, _, _, h => ⟨h.1, fun i hi => wpOp_mono (fun a' w' h' => wpAny_of_early fuel _ a' w' h'.2) (h.2 i hi)⟩

/-- Does the operation j wait for the operation i itself? -/
def waits (md : Region.Mode) (ops : Array Oper) (i j : Nat) : Bool :=
  match ops[j]? with
  | some o => o.after.any fun e => Region.binds md e && e.on == i
  | none => true
theorem not_waits {i j : Nat} {o : Oper} (ho : ops[j]? = some o) (h : ∀ e ∈ o.after, Region.binds md e = true → e.on ≠ i) : waits md ops i j = false := by
  unfold waits
  rw [ho]
  refine Bool.eq_false_iff.2 (fun hc => ?_)
  obtain ⟨e, he, hb⟩ := Array.any_eq_true'.1 hc
  simp only [Bool.and_eq_true, beq_iff_eq] at hb
  exact h e he hb.1 hb.2
/-- All that may come before i are named by E. -/
def named (md : Region.Mode) (ops : Array Oper) (E : Nat → Bool) (i : Nat) : Bool := (List.range ops.size).all fun j => E j || waits md ops i j

theorem early_first {i : Nat} {oi : Oper} {v : Value} (hi : ops[i]? = some oi) (hsel : ∀ (j : Nat) (o : Oper) cs b, ops[j]? = some o → o.op ≠ .select cs b) (hE : named md ops E i = true)
    (hQ : ∀ c a w, Q (.panic c) (a.put oi.dst v) w → Q (.panic c) a w) :
    ∀ (fuel : Nat) (listed : Array Bool) (a : Act) (w : World),
      (∀ j oj, ops[j]? = some oj → j ≠ i → listed.getD j true = false → (∀ e ∈ oj.after, Region.binds md e = true → e.on ≠ i) → oi.apart ops oj = true) →
      i ∈ Region.ready md ops listed → YieldsIf P ops S oi v a → S w →
      wpEarly P md ops Q S E fuel (listed.setIfInBounds i true) (a.put oi.dst v) w → wpEarly P md ops Q S E (fuel + 1) listed a w
  | 0, listed, a, w, _, hr, hy, hS, H => by
    refine ⟨fun h => (by rw [h] at hr; cases hr), fun j hj => ?_⟩
    by_cases hji : j = i
    · subst hji; exact hy.wpOp hi hS ⟨fun _ => hS, H⟩
    · have h0 := ready_mono hj hji
      rw [H.1] at h0
      cases h0
  | fuel + 1, listed, a, w, hfree, hr, hy, hS, H => by
    refine ⟨fun h => (by rw [h] at hr; cases hr), fun j hj => ?_⟩
    by_cases hji : j = i
    · subst hji; exact hy.wpOp hi hS ⟨fun _ => hS, H⟩
    · obtain ⟨hjun, oj, hoj, hall⟩ := mem_ready.1 hj
      have hnot : ∀ e ∈ oj.after, Region.binds md e = true → e.on ≠ i := fun e he hb heq => by
        have h1 := hall e he hb
        have h0 := (mem_ready.1 hr).1
        rw [heq] at h1
        rcases Nat.lt_or_ge i listed.size with h' | h'
        · simp [h'] at h0 h1; rw [h0] at h1; cases h1
        · simp [Array.getElem?_eq_none h'] at h1
      have hEj : E j = true := by
        have h2 := List.all_eq_true.1 hE j (List.mem_range.2 (Array.getElem?_eq_some_iff.1 hoj).1)
        rw [not_waits hoj hnot, Bool.or_false] at h2
        exact h2
      have h2 := wpOp_putIf hoj (hfree j oj hoj hji hjun hnot) (fun cs b => hsel i oi cs b hi) (fun cs b => hsel j oj cs b hoj) hQ hy (H.2 j (ready_mono hj hji))
      have hfree' : ∀ k ok, ops[k]? = some ok → k ≠ i → (listed.setIfInBounds j true).getD k true = false → (∀ e ∈ ok.after, Region.binds md e = true → e.on ≠ i) → oi.apart ops ok = true := fun k ok hk hki hun hno => by
        refine hfree k ok hk hki ?_ hno
        by_cases hjk : j = k
        · subst hjk; exact hjun
        · rw [getD_set_ne true hjk] at hun; exact hun
      refine wpOp_mono (fun a' w' h3 => ⟨h3.2.1, early_first hi hsel hE hQ fuel (listed.setIfInBounds j true) a' w' hfree' (ready_mono hr (Ne.symm hji)) h3.1 (h3.2.1 hEj) ?_⟩) h2
      rw [Array.setIfInBounds_comm _ _ hji]
      exact h3.2.2

/-- Take number i first: its value goes into slot t. -/
theorem early_take {i : Nat} {oi : Oper} {fuel : Nat} {listed : Array Bool} {a : Act} {w : World} (t : Nat) (v : Value) (hi : ops[i]? = some oi) (hd : oi.dst = some t) (hE : named md ops E i = true)
    (hs : Region.noSelect ops = true) (hf : Region.free md ops listed i = true) (hr : (Region.ready md ops listed).contains i = true) (hg : Region.wanted oi (yielded ops a.tmps) = true)
    (hQ : ∀ c a w, Q (.panic c) (a.put (some t) v) w → Q (.panic c) a w) (hy : ∀ w, S w → (execOp a.eval oi).run P w = .ok (.value v) w) (hS : S w)
    (h : wpEarly P md ops Q S E fuel (listed.setIfInBounds i true) (a.put (some t) v) w) : wpEarly P md ops Q S E (fuel + 1) listed a w := by
  rw [← hd] at hQ h
  exact early_first hi (Region.noSelect_spec hs) hE hQ fuel listed a w (Region.free_spec hi hf) (by simpa using hr) (.inl ⟨hg, hy⟩) hS h
/-- What the operation number i does. -/
def opWp (P : Program) (ops : Array Oper) (Q : Exit → Act → World → Prop) (i : Nat) (K : Act → World → Prop) (a : Act) (w : World) : Prop :=
  match ops[i]? with
  | none => False
  | some o => o.wp P a w K Q
/-- Number i alone may come now. -/
theorem early_only {i : Nat} {fuel : Nat} {listed : Array Bool} {a : Act} {w : World} (hr : Region.ready md ops listed = [i]) (hg : (ops[i]?.map fun o => Region.wanted o (yielded ops a.tmps)) = some true)
    (h : ∀ K : Act → World → Prop, (∀ a' w', (E i = true → S w') → wpEarly P md ops Q S E fuel (listed.setIfInBounds i true) a' w' → K a' w') → opWp P ops Q i K a w) : wpEarly P md ops Q S E (fuel + 1) listed a w := by
  refine ⟨fun h0 => (by rw [hr] at h0; cases h0), fun j hj => ?_⟩
  rw [hr] at hj
  obtain rfl : j = i := by simpa using hj
  have h1 := h (fun a' w' => (E j = true → S w') ∧ wpEarly P md ops Q S E fuel (listed.setIfInBounds j true) a' w') (fun a' w' h1 h2 => ⟨h1, h2⟩)
  unfold opWp at h1
  unfold wpOp
  cases ho : ops[j]? with
  | none => rw [ho] at h1; exact h1.elim
  | some o =>
    rw [ho] at h1 hg
    simp only
    rw [if_pos (by simpa using hg)]
    exact .inl h1
/-- One of those that may come now: what it does. -/
def EarlyStep (P : Program) (md : Region.Mode) (ops : Array Oper) (Q : Exit → Act → World → Prop) (S : World → Prop) (E : Nat → Bool) (fuel : Nat) (listed : Array Bool) (a : Act) (w : World) (i : Nat) : Prop :=
  (ops[i]?.map fun o => Region.wanted o (yielded ops a.tmps)) = some true ∧
  ∀ K : Act → World → Prop, (∀ a' w', (E i = true → S w') → wpEarly P md ops Q S E fuel (listed.setIfInBounds i true) a' w' → K a' w') → opWp P ops Q i K a w
/-- Whichever of them comes. -/
theorem early_all {fuel : Nat} {listed : Array Bool} {a : Act} {w : World} (l : List Nat) (hr : Region.ready md ops listed = l) (hl : l ≠ []) (h : ∀ i ∈ l, EarlyStep P md ops Q S E fuel listed a w i) : wpEarly P md ops Q S E (fuel + 1) listed a w := by
  refine ⟨fun h0 => (hl (hr.symm.trans h0)).elim, fun j hj => ?_⟩
  rw [hr] at hj
  obtain ⟨hg, h⟩ := h j hj
  have h1 := h (fun a' w' => (E j = true → S w') ∧ wpEarly P md ops Q S E fuel (listed.setIfInBounds j true) a' w') (fun a' w' h1 h2 => ⟨h1, h2⟩)
  unfold opWp at h1
  unfold wpOp
  cases ho : ops[j]? with
  | none => rw [ho] at h1; exact h1.elim
  | some o =>
    rw [ho] at h1 hg
    simp only
    rw [if_pos (by simpa using hg)]
    exact .inl h1
theorem early_two {fuel : Nat} {listed : Array Bool} {a : Act} {w : World} {i j : Nat} (hr : Region.ready md ops listed = [i, j]) (h1 : EarlyStep P md ops Q S E fuel listed a w i) (h2 : EarlyStep P md ops Q S E fuel listed a w j) : wpEarly P md ops Q S E (fuel + 1) listed a w :=
  early_all _ hr (by simp) (by simp only [List.mem_cons, List.not_mem_nil, or_false]; rintro k (rfl | rfl) <;> assumption)
theorem early_three {fuel : Nat} {listed : Array Bool} {a : Act} {w : World} {i j k : Nat} (hr : Region.ready md ops listed = [i, j, k]) (h1 : EarlyStep P md ops Q S E fuel listed a w i) (h2 : EarlyStep P md ops Q S E fuel listed a w j) (h3 : EarlyStep P md ops Q S E fuel listed a w k) : wpEarly P md ops Q S E (fuel + 1) listed a w :=
  early_all _ hr (by simp) (by simp only [List.mem_cons, List.not_mem_nil, or_false]; rintro k (rfl | rfl | rfl) <;> assumption)
/-- By the number of operations that are left: whatever holds of the states. -/
theorem early_ind {n : Nat} {listed : Array Bool} {a : Act} {w : World} (I : Act → Nat → Array Bool → Act → World → Prop) (h0 : I a n listed a w)
    (h : ∀ fuel, (∀ fuel', fuel' < fuel → ∀ l b u, I a fuel' l b u → wpEarly P md ops Q S E fuel' l b u) → ∀ l b u, I a fuel l b u → wpEarly P md ops Q S E fuel l b u) : wpEarly P md ops Q S E n listed a w := by
  have key : ∀ N k, k < N → ∀ l b u, I a k l b u → wpEarly P md ops Q S E k l b u := by
    intro N
    induction N with
    | zero => intro k hk; omega
    | succ N ih => intro k hk l b u hI; exact h k (fun k' hk' => ih k' (by omega)) l b u hI
  exact key (n + 1) n (by omega) _ _ _ h0
theorem early_four {fuel : Nat} {listed : Array Bool} {a : Act} {w : World} {i j k l : Nat} (hr : Region.ready md ops listed = [i, j, k, l]) (h1 : EarlyStep P md ops Q S E fuel listed a w i) (h2 : EarlyStep P md ops Q S E fuel listed a w j) (h3 : EarlyStep P md ops Q S E fuel listed a w k) (h4 : EarlyStep P md ops Q S E fuel listed a w l) : wpEarly P md ops Q S E (fuel + 1) listed a w :=
  early_all _ hr (by simp) (by simp only [List.mem_cons, List.not_mem_nil, or_false]; rintro k (rfl | rfl | rfl | rfl) <;> assumption)
theorem early_done {listed : Array Bool} {a : Act} {w : World} (hr : Region.ready md ops listed = []) (h : Q .normal a w) : wpEarly P md ops Q S E 0 listed a w := ⟨hr, h⟩
theorem wp_region_early {id : Nat} {a : Act} {w : World} (S : World → Prop) (E : Nat → Bool) (hm : P.follows .mixedOrders = true)
    (h : wpEarly P .any ops Q S E ops.size (Array.replicate ops.size false) a { w with drawn := w.drawn + 1 }) : (Code.region id ops true).wp P Q a w :=
  wp_region_any hm (wpAny_of_early _ _ _ _ h)
end

end Go.Proofs.Ytcekcbheajcfpaa
