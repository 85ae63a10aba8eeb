/-
  TEXTS JOINED: Early, Dev.
-/
import Derived.OrdersHeld
import Derived.Test.YtplmdmchkaacoaaGreatJ07

/-
  A REGION THAT DRAWS ITS ORDER AND ENDS IN A STORE TO A CELL THAT IT LOADS: the load may be taken first, if what it reads holds behind every operation that may come before it; of those that wait for the load (the store) nothing is asked.
-/
namespace Go.Proofs.YtplmdmchkaacoaaGreat
open Go

section
variable {P : Program} {ops : Array Oper} {Q : Exit → Act → World → Prop} {md : Region.Mode} {S : World → Prop} {E : Nat → Bool}

/-- Whatever order comes: behind the operations that E names S holds. -/
def wpEarly (P : Program) (md : Region.Mode) (ops : Array Oper) (Q : Exit → Act → World → Prop) (S : World → Prop) (E : Nat → Bool) : Nat → Array Bool → Act → World → Prop
  | 0, listed, a, w => Region.ready md ops listed = [] ∧ Q .normal a w
  | fuel + 1, listed, a, w =>
    (Region.ready md ops listed = [] → Q .normal a w) ∧
    ∀ i ∈ Region.ready md ops listed, wpOp P ops Q i (fun a' w' => (E i = true → S w') ∧ wpEarly P md ops Q S E fuel (listed.setIfInBounds i true) a' w') a w

theorem wpAny_of_early : ∀ (fuel : Nat) (listed : Array Bool) (a : Act) (w : World), wpEarly P md ops Q S E fuel listed a w → wpAny P md ops Q fuel listed a w
  | 0, _, _, _, h => h
  | fuel + 1, _, _, _, h => ⟨h.1, fun i hi => wpOp_mono (fun a' w' h' => wpAny_of_early fuel _ a' w' h'.2) (h.2 i hi)⟩

/-- Does the operation j wait for the operation i itself? -/
def waits (md : Region.Mode) (ops : Array Oper) (i j : Nat) : Bool :=
  match ops[j]? with
  | some o => o.after.any fun e => Region.binds md e && e.on == i
  | none => true
theorem not_waits {i j : Nat} {o : Oper} (ho : ops[j]? = some o) (h : ∀ e ∈ o.after, Region.binds md e = true → e.on ≠ i) : waits md ops i j = false := by
  unfold waits
  rw [ho]
  refine Bool.eq_false_iff.2 (fun hc => ?_)
  obtain ⟨e, he, hb⟩ := Array.any_eq_true'.1 hc
  simp only [Bool.and_eq_true, beq_iff_eq] at hb
  exact h e he hb.1 hb.2
/-- All that may come before i are named by E. -/
def named (md : Region.Mode) (ops : Array Oper) (E : Nat → Bool) (i : Nat) : Bool := (List.range ops.size).all fun j => E j || waits md ops i j

theorem early_first {i : Nat} {oi : Oper} {v : Value} (hi : ops[i]? = some oi) (hsel : ∀ (j : Nat) (o : Oper) cs b, ops[j]? = some o → o.op ≠ .select cs b) (hE : named md ops E i = true)
    (hQ : ∀ c a w, Q (.panic c) (a.put oi.dst v) w → Q (.panic c) a w) :
    ∀ (fuel : Nat) (listed : Array Bool) (a : Act) (w : World),
      (∀ j oj, ops[j]? = some oj → j ≠ i → listed.getD j true = false → (∀ e ∈ oj.after, Region.binds md e = true → e.on ≠ i) → oi.apart ops oj = true) →
      i ∈ Region.ready md ops listed → YieldsIf P ops S oi v a → S w →
      wpEarly P md ops Q S E fuel (listed.setIfInBounds i true) (a.put oi.dst v) w → wpEarly P md ops Q S E (fuel + 1) listed a w
  | 0, listed, a, w, _, hr, hy, hS, H => by
    refine ⟨fun h => (by rw [h] at hr; cases hr), fun j hj => ?_⟩
    by_cases hji : j = i
    · subst hji; exact hy.wpOp hi hS ⟨fun _ => hS, H⟩
    · have h0 := ready_mono hj hji
      rw [H.1] at h0
      cases h0
  | fuel + 1, listed, a, w, hfree, hr, hy, hS, H => by
    refine ⟨fun h => (by rw [h] at hr; cases hr), fun j hj => ?_⟩
    by_cases hji : j = i
    · subst hji; exact hy.wpOp hi hS ⟨fun _ => hS, H⟩
    · obtain ⟨hjun, oj, hoj, hall⟩ := mem_ready.1 hj
      have hnot : ∀ e ∈ oj.after, Region.binds md e = true → e.on ≠ i := fun e he hb heq => by
        have h1 := hall e he hb
        have h0 := (mem_ready.1 hr).1
        rw [heq] at h1
        rcases Nat.lt_or_ge i listed.size with h' | h'
        · simp [h'] at h0 h1; rw [h0] at h1; cases h1
        · simp [Array.getElem?_eq_none h'] at h1
      have hEj : E j = true := by
        have h2 := List.all_eq_true.1 hE j (List.mem_range.2 (Array.getElem?_eq_some_iff.1 hoj).1)
        rw [not_waits hoj hnot, Bool.or_false] at h2
        exact h2
      have h2 := wpOp_putIf hoj (hfree j oj hoj hji hjun hnot) (fun cs b => hsel i oi cs b hi) (fun cs b => hsel j oj cs b hoj) hQ hy (H.2 j (ready_mono hj hji))
      have hfree' : ∀ k ok, ops[k]? = some ok → k ≠ i → (listed.setIfInBounds j true).getD k true = false → (∀ e ∈ ok.after, Region.binds md e = true → e.on ≠ i) → oi.apart ops ok = true := fun k ok hk hki hun hno => by
        refine hfree k ok hk hki ?_ hno
        by_cases hjk : j = k
        · subst hjk; exact hjun
        · rw [getD_set_ne true hjk] at hun; exact hun
      refine wpOp_mono (fun a' w' h3 => ⟨h3.2.1, early_first hi hsel hE hQ fuel (listed.setIfInBounds j true) a' w' hfree' (ready_mono hr (Ne.symm hji)) h3.1 (h3.2.1 hEj) ?_⟩) h2
      rw [Array.setIfInBounds_comm _ _ hji]
      exact h3.2.2

/-- Take number i first: its value goes into slot t. -/
theorem early_take {i : Nat} {oi : Oper} {fuel : Nat} {listed : Array Bool} {a : Act} {w : World} (t : Nat) (v : Value) (hi : ops[i]? = some oi) (hd : oi.dst = some t) (hE : named md ops E i = true)
    (hs : Region.noSelect ops = true) (hf : Region.free md ops listed i = true) (hr : (Region.ready md ops listed).contains i = true) (hg : Region.wanted oi (yielded ops a.tmps) = true)
    (hQ : ∀ c a w, Q (.panic c) (a.put (some t) v) w → Q (.panic c) a w) (hy : ∀ w, S w → (execOp a.eval oi).run P w = .ok (.value v) w) (hS : S w)
    (h : wpEarly P md ops Q S E fuel (listed.setIfInBounds i true) (a.put (some t) v) w) : wpEarly P md ops Q S E (fuel + 1) listed a w := by
  rw [← hd] at hQ h
  exact early_first hi (Region.noSelect_spec hs) hE hQ fuel listed a w (Region.free_spec hi hf) (by simpa using hr) (.inl ⟨hg, hy⟩) hS h
/-- What the operation number i does. -/
def opWp (P : Program) (ops : Array Oper) (Q : Exit → Act → World → Prop) (i : Nat) (K : Act → World → Prop) (a : Act) (w : World) : Prop :=
  match ops[i]? with
  | none => False
  | some o => o.wp P a w K Q
/-- Number i alone may come now. -/
theorem early_only {i : Nat} {fuel : Nat} {listed : Array Bool} {a : Act} {w : World} (hr : Region.ready md ops listed = [i]) (hg : (ops[i]?.map fun o => Region.wanted o (yielded ops a.tmps)) = some true)
    (h : ∀ K : Act → World → Prop, (∀ a' w', (E i = true → S w') → wpEarly P md ops Q S E fuel (listed.setIfInBounds i true) a' w' → K a' w') → opWp P ops Q i K a w) : wpEarly P md ops Q S E (fuel + 1) listed a w := by
  refine ⟨fun h0 => (by rw [hr] at h0; cases h0), fun j hj => ?_⟩
  rw [hr] at hj
  obtain rfl : j = i := by simpa using hj
  have h1 := h (fun a' w' => (E j = true → S w') ∧ wpEarly P md ops Q S E fuel (listed.setIfInBounds j true) a' w') (fun a' w' h1 h2 => ⟨h1, h2⟩)
  unfold opWp at h1
  unfold wpOp
  cases ho : ops[j]? with
  | none => rw [ho] at h1; exact h1.elim
  | some o =>
    rw [ho] at h1 hg
    simp only
    rw [if_pos (by simpa using hg)]
    exact .inl h1
/-- One of those that may come now: what it does. -/
def EarlyStep (P : Program) (md : Region.Mode) (ops : Array Oper) (Q : Exit → Act → World → Prop) (S : World → Prop) (E : Nat → Bool) (fuel : Nat) (listed : Array Bool) (a : Act) (w : World) (i : Nat) : Prop :=
  (ops[i]?.map fun o => Region.wanted o (yielded ops a.tmps)) = some true ∧
  ∀ K : Act → World → Prop, (∀ a' w', (E i = true → S w') → wpEarly P md ops Q S E fuel (listed.setIfInBounds i true) a' w' → K a' w') → opWp P ops Q i K a w
/-- Whichever of them comes. -/
theorem early_all {fuel : Nat} {listed : Array Bool} {a : Act} {w : World} (l : List Nat) (hr : Region.ready md ops listed = l) (hl : l ≠ []) (h : ∀ i ∈ l, EarlyStep P md ops Q S E fuel listed a w i) : wpEarly P md ops Q S E (fuel + 1) listed a w := by
  refine ⟨fun h0 => (hl (hr.symm.trans h0)).elim, fun j hj => ?_⟩
  rw [hr] at hj
  obtain ⟨hg, h⟩ := h j hj
  have h1 := h (fun a' w' => (E j = true → S w') ∧ wpEarly P md ops Q S E fuel (listed.setIfInBounds j true) a' w') (fun a' w' h1 h2 => ⟨h1, h2⟩)
  unfold opWp at h1
  unfold wpOp
  cases ho : ops[j]? with
  | none => rw [ho] at h1; exact h1.elim
  | some o =>
    rw [ho] at h1 hg
    simp only
    rw [if_pos (by simpa using hg)]
    exact .inl h1
theorem early_two {fuel : Nat} {listed : Array Bool} {a : Act} {w : World} {i j : Nat} (hr : Region.ready md ops listed = [i, j]) (h1 : EarlyStep P md ops Q S E fuel listed a w i) (h2 : EarlyStep P md ops Q S E fuel listed a w j) : wpEarly P md ops Q S E (fuel + 1) listed a w :=
  early_all _ hr (by simp) (by simp only [List.mem_cons, List.not_mem_nil, or_false]; rintro k (rfl | rfl) <;> assumption)
theorem early_three {fuel : Nat} {listed : Array Bool} {a : Act} {w : World} {i j k : Nat} (hr : Region.ready md ops listed = [i, j, k]) (h1 : EarlyStep P md ops Q S E fuel listed a w i) (h2 : EarlyStep P md ops Q S E fuel listed a w j) (h3 : EarlyStep P md ops Q S E fuel listed a w k) : wpEarly P md ops Q S E (fuel + 1) listed a w :=
  early_all _ hr (by simp) (by simp only [List.mem_cons, List.not_mem_nil, or_false]; rintro k (rfl | rfl | rfl) <;> assumption)
/-- By the number of operations that are left: whatever holds of the states. -/
theorem early_ind {n : Nat} {listed : Array Bool} {a : Act} {w : World} (I : Act → Nat → Array Bool → Act → World → Prop) (h0 : I a n listed a w)
    (h : ∀ fuel, (∀ fuel', fuel' < fuel → ∀ l b u, I a fuel' l b u → wpEarly P md ops Q S E fuel' l b u) → ∀ l b u, I a fuel l b u → wpEarly P md ops Q S E fuel l b u) : wpEarly P md ops Q S E n listed a w := by
  have key : ∀ N k, k < N → ∀ l b u, I a k l b u → wpEarly P md ops Q S E k l b u := by
    intro N
    induction N with
    | zero => intro k hk; omega
    | succ N ih => intro k hk l b u hI; exact h k (fun k' hk' => ih k' (by omega)) l b u hI
  exact key (n + 1) n (by omega) _ _ _ h0
theorem early_four {fuel : Nat} {listed : Array Bool} {a : Act} {w : World} {i j k l : Nat} (hr : Region.ready md ops listed = [i, j, k, l]) (h1 : EarlyStep P md ops Q S E fuel listed a w i) (h2 : EarlyStep P md ops Q S E fuel listed a w j) (h3 : EarlyStep P md ops Q S E fuel listed a w k) (h4 : EarlyStep P md ops Q S E fuel listed a w l) : wpEarly P md ops Q S E (fuel + 1) listed a w :=
  early_all _ hr (by simp) (by simp only [List.mem_cons, List.not_mem_nil, or_false]; rintro k (rfl | rfl | rfl | rfl) <;> assumption)
theorem early_done {listed : Array Bool} {a : Act} {w : World} (hr : Region.ready md ops listed = []) (h : Q .normal a w) : wpEarly P md ops Q S E 0 listed a w := ⟨hr, h⟩
theorem wp_region_early {id : Nat} {a : Act} {w : World} (S : World → Prop) (E : Nat → Bool) (hm : P.follows .mixedOrders = true)
    (h : wpEarly P .any ops Q S E ops.size (Array.replicate ops.size false) a { w with drawn := w.drawn + 1 }) : (Code.region id ops true).wp P Q a w :=
  wp_region_any hm (wpAny_of_early _ _ _ _ h)
end

end Go.Proofs.YtplmdmchkaacoaaGreat

/-
  THE WALKS OF has, chunks, Stale, Broken, setStale, lose AND Lose; a member's operation at the array.
-/
namespace Go.Proofs.YtplmdmchkaacoaaGreat
open Go.RowKit Go.Maps
set_option linter.unusedVariables false
set_option maxRecDepth 100000

theorem inside_any (i n : Int) (w : World) : Calls Tryz.prog 64 #[.int .i64 i, .int .i64 n] w fun e w' => e = .returned (.bool (decide (0 ≤ i ∧ i < n))) ∧ w' = w := by
  by_cases h0 : 0 ≤ i
  · by_cases h1 : i < n
    · rw [decide_eq_true (show 0 ≤ i ∧ i < n from ⟨h0, h1⟩)]
      go_enter Tryz.func64, Tryz.ntmps64
      go_wp2
      go_ret
      exact ⟨rfl, rfl⟩
    · rw [decide_eq_false (show ¬ (0 ≤ i ∧ i < n) from fun h => h1 h.2)]
      go_enter Tryz.func64, Tryz.ntmps64
      go_wp2
      go_ret
      exact ⟨rfl, rfl⟩
  · rw [decide_eq_false (show ¬ (0 ≤ i ∧ i < n) from fun h => h0 h.1)]
    go_enter Tryz.func64, Tryz.ntmps64
    go_wp2
    go_ret
    exact ⟨rfl, rfl⟩

theorem field_stale (a b c d e f g h i : Value) (w : World) : (Instr.field 96 (.agg #[a, b, c, d, e, f, g, h, i]) 3).run Tryz.prog w = .ok i w := by kernel_rfl
theorem field_shape (a b c d e f g h i : Value) (w : World) : (Instr.field 96 (.agg #[a, b, c, d, e, f, g, h, i]) 0).run Tryz.prog w = .ok (.agg #[a, b, c, d, e, f]) w := by kernel_rfl
theorem meth_flush (a : Addr) (w : World) : (method 334 152 (.pointer (some a)) "Flush").run Tryz.prog w = .ok (180, .pointer (some a)) w := by kernel_rfl
theorem meth_read (a : Addr) (w : World) : (method 334 152 (.pointer (some a)) "Read").run Tryz.prog w = .ok (181, .pointer (some a)) w := by kernel_rfl
theorem meth_write (a : Addr) (w : World) : (method 334 152 (.pointer (some a)) "Write").run Tryz.prog w = .ok (182, .pointer (some a)) w := by kernel_rfl
section
variable {w w' : World} {P : Pl} {O : Nat → Prop} {s : AS}

theorem Arr.u (h : Arr w P O s) : 0 ≤ s.u := h.wf.u0
theorem Arr.many (h : Arr w P O s) : 3 ≤ (s.M : Int) ∧ (s.M : Int) ≤ 5 := h.wf.small.hm

/-- A member's operation: the disk, then the array. -/
theorem Ay.keep {T : Nat → Nat → Prop} {i : Nat} {d : DS} (h : Ay w P T s) (hO : ∀ k, O k ↔ ∃ i, T i k) (hi : i < s.M) (hd : Dk w' (P.g i) P.p (T (4 + i)) d) (hp : Pw w' P.p (s.u + 1) (-1)) (hb : But (fun k => T (4 + i) k ∨ k = P.p) w w')
    (h1 : d.sectors = (s.d i).sectors) (h2 : d.size = (s.d i).size) (h3 : d.writes = (s.d i).writes) : Arr w' P O (s.turn i d) ∧ But O w w' := by
  refine ⟨⟨_, h.turn hi hd hp (fun k hk => .inl hk) hb h1 h2 (fun j => by rw [h3]; omega), fun k => ?_⟩, hb.mono ?_⟩
  · rw [hO k]
    constructor
    · rintro ⟨j, hj⟩
      refine ⟨j, ?_⟩
      by_cases e : j = 4 + i
      · simp only [e, if_true]; rw [← e]; exact hj
      · simp only [e, if_false]; exact hj
    · rintro ⟨j, hj⟩
      by_cases e : j = 4 + i
      · simp only [e, if_true] at hj; exact ⟨_, hj⟩
      · simp only [e, if_false] at hj; exact ⟨_, hj⟩
  · rintro k (e | e) _
    · exact (hO k).2 ⟨_, e⟩
    · exact (hO k).2 ⟨2, e ▸ h.t2⟩
theorem Ay.did {T : Nat → Nat → Prop} {T' : Nat → Prop} {i : Nat} {d : DS} (h : Ay w P T s) (hO : ∀ k, O k ↔ ∃ i, T i k) (hi : i < s.M) (hd : Dk w' (P.g i) P.p T' d) (hp : Pw w' P.p (s.u + 1) (-1)) (hT : ∀ k, T' k → T (4 + i) k ∨ w.heap.size ≤ k) (hb : But (fun k => T (4 + i) k ∨ k = P.p) w w')
    (h1 : d.sectors = (s.d i).sectors) (h2 : d.size = (s.d i).size) (h3 : ∀ j, (s.d i).writes j ≤ d.writes j ∧ d.writes j ≤ (s.d i).writes j + 1) : Did w P O (s.turn i d) w' := by
  refine ⟨fun k => ∃ j, (fun j k => if j = 4 + i then T' k else T j k) j k, ⟨_, h.turn hi hd hp hT hb h1 h2 h3, fun k => Iff.rfl⟩, ?_, hb.mono ?_⟩
  · rintro k ⟨j, hj⟩
    by_cases e : j = 4 + i
    · simp only [e, if_true] at hj
      exact (hT k hj).imp (fun h => (hO k).2 ⟨_, h⟩) id
    · simp only [e, if_false] at hj
      exact .inl ((hO k).2 ⟨_, hj⟩)
  · rintro k (e | e) _
    · exact (hO k).2 ⟨_, e⟩
    · exact (hO k).2 ⟨2, e ▸ h.t2⟩

/-- A member is read. -/
theorem dread (m : Nat) (hm : m < s.M) (i : Int) (hi : 0 ≤ i ∧ i < (s.S : Int)) (h : Arr w P O s) (hu : s.u ≤ 900000) :
    Calls Tryz.prog 181 #[.pointer (some ⟨P.g m, 0, none⟩), .int .i64 i] w fun e w' => ∃ v, e = .returned (.tuple #[v, .int .i64 (err ((s.d m).op s.u).dead)]) ∧ NewRow w w' v ((s.d m).got s.u i) ∧ Arr w' P O (s.turn m ((s.d m).op s.u)) ∧ But O w w' := by
  obtain ⟨T, hA, hO⟩ := h
  have hw := hA.wf.each m hm
  refine (read_go i s.u (-1) (by unfold DS.has; rw [hw.1]; exact hi) (hA.dk m hm) hA.pw (by have := hA.wf.u0; omega) (by decide) (by decide)).mono ?_
  rintro e w' ⟨v, rfl, hr, hd, hp, hb⟩
  have ha := (Aged.op (s.d m) s.u).sizes
  have hb' : But (fun k => T (4 + m) k ∨ k = P.p) w w' := hb.mono (fun k hk _ => hk.imp (fun e => by rw [e]; exact (hA.dk m hm).own) id)
  obtain ⟨k1, k2⟩ := hA.keep hO hm hd hp hb' ha.1 ha.2.1 ha.2.2.1
  exact ⟨v, rfl, hr, k1, k2⟩
/-- A member is flushed. -/
theorem dflush (m : Nat) (hm : m < s.M) (h : Arr w P O s) (hu : s.u ≤ 900000) :
    Calls Tryz.prog 180 #[.pointer (some ⟨P.g m, 0, none⟩)] w fun e w' => e = .returned (.int .i64 (err ((s.d m).op s.u).dead)) ∧ Arr w' P O (s.turn m ((s.d m).fl s.u)) ∧ But O w w' := by
  obtain ⟨T, hA, hO⟩ := h
  refine (flush_go s.u (-1) (hA.dk m hm) hA.pw (by have := hA.wf.u0; omega) (by decide) (by decide)).mono ?_
  rintro e w' ⟨rfl, hd, hp, hb⟩
  have ht := fl_turns (s.d m) s.u
  obtain ⟨k1, k2⟩ := hA.keep hO hm hd hp hb ht.sectors ht.size (by unfold DS.fl; split <;> rfl)
  exact ⟨rfl, k1, k2⟩
/-- A member is written. -/
theorem dwrite (m : Nat) (hm : m < s.M) (i : Int) (hi : 0 ≤ i ∧ i < (s.S : Int)) (A : Option Addr) (n cap : Nat) (b : Bytes) (hn : (n : Int) = s.b) (hb : Has w A n b) (hA : ∀ x, A = some x → ¬ O x.block) (h : Arr w P O s) (hu : s.u ≤ 900000) :
    Calls Tryz.prog 182 #[.pointer (some ⟨P.g m, 0, none⟩), .int .i64 i, .slice A n cap] w fun e w' => e = .returned (.int .i64 (err ((s.d m).op s.u).dead)) ∧ Did w P O (s.turn m ((s.d m).put s.u i b)) w' := by
  obtain ⟨T, hY, hO⟩ := h
  have hw := hY.wf.each m hm
  have u0 := hY.wf.u0
  have hn' : n = (s.d m).size := by have := hw.2.1; omega
  subst hn'
  refine (write_go i s.u (-1) A cap b (by unfold DS.has; rw [hw.1]; exact hi) (hY.dk m hm) hY.pw hb (fun x hx => ⟨fun e => hA x hx ((hO _).2 ⟨4 + m, by rw [e]; exact (hY.dk m hm).own⟩), fun e => hA x hx ((hO _).2 ⟨2, by rw [e]; exact hY.t2⟩)⟩) (by omega) (by decide) (by decide) (by have := hw.2.2 i; omega)).mono ?_
  rintro e w' ⟨T', rfl, hd, hp, hT, hb⟩
  have ht := put_turns (s.d m) s.u i b
  refine ⟨rfl, hY.did hO hm hd hp hT hb ht.sectors ht.size (fun j => ?_)⟩
  unfold DS.put
  split
  · show (s.d m).writes j ≤ (s.d m).writes j ∧ _
    exact ⟨Int.le_refl _, by show (s.d m).writes j ≤ (s.d m).writes j + 1; omega⟩
  · unfold DS.write
    show (s.d m).writes j ≤ (if j = i then (s.d m).writes j + 1 else (s.d m).writes j) ∧ (if j = i then (s.d m).writes j + 1 else (s.d m).writes j) ≤ (s.d m).writes j + 1
    split <;> omega
theorem stale_any (h : Arr w P O s) : Calls Tryz.prog 95 #[.pointer (some ⟨P.a, 0, none⟩)] w fun e w' => e = .returned (.int .i64 s.stale) ∧ Below w.heap.size w w' := by
  obtain ⟨c6, c7, c8⟩ := h.cells
  have N := Lib.hid h.nv
  have hf := field_stale
  clear h c6 c8
  go_enter Tryz.func95, Tryz.ntmps95
  go_wp2_with fail
  refine (root_any N.out).mono ?_
  rintro e w' ⟨rfl, hb⟩
  unfold Rt.cs AS.rt
  go_wp2
  go_ret
  exact ⟨rfl, hb⟩
theorem broken_any (h : Arr w P O s) : Calls Tryz.prog 59 #[.pointer (some ⟨P.a, 0, none⟩)] w fun e w' => e = .returned (.bool s.broken) ∧ w' = w := by
  obtain ⟨c6, c7, c8⟩ := h.cells
  clear h c6 c7
  go_enter Tryz.func59, Tryz.ntmps59
  go_wp2
  go_ret
  exact ⟨rfl, rfl⟩
theorem chunks_any (h : Arr w P O s) : Calls Tryz.prog 66 #[.pointer (some ⟨P.a, 0, none⟩)] w fun e w' => e = .returned (.int .i64 ((s.M : Int) - 1)) ∧ w' = w := by
  obtain ⟨c6, c7, c8⟩ := h.cells
  have hM := h.many
  clear h c8 c7
  go_enter Tryz.func66, Tryz.ntmps66
  go_wp2
  go_ret
  exact ⟨rfl, rfl⟩

theorem Arr.setStale (h : Arr w P O s) (q : Int) (hq : -1 ≤ q ∧ q < (s.M : Int)) (hn : Nv w' P.n P.p { s.rt with stale := q } s.rv s.rl) (hp : Pw w' P.p (s.u + 1) (-1)) (hb : But (fun k => k = P.n ∨ k = P.p) w w') : Arr w' P O { s with stale := q, u := s.u + 1 } ∧ But O w w' := by
  obtain ⟨T, hY, hO⟩ := h
  have off : ∀ j, j ≠ 2 → j ≠ 3 → ∀ k, T j k → ¬ (k = P.n ∨ k = P.p) := fun j h2 h3 k hk e => e.elim (fun e => h3 (hY.ap _ _ _ hk (e ▸ hY.t3))) (fun e => h2 (hY.ap _ _ _ hk (e ▸ hY.t2)))
  refine ⟨⟨T, ?_, hO⟩, hb.mono (fun k hk _ => hk.elim (fun e => (hO k).2 ⟨3, e ▸ hY.t3⟩) (fun e => (hO k).2 ⟨2, e ▸ hY.t2⟩))⟩
  exact
    { arr := hY.arr.but hb (off 0 (by omega) (by omega) _ hY.t0)
      row := fun j hj => (hb.cell (p := ⟨P.r, j, none⟩) (hY.lt _ _ hY.t1) (off 1 (by omega) (by omega) _ hY.t1)).trans (hY.row j hj)
      pw := hp
      nv := hn
      dk := fun j hj => (hY.dk j hj).but hb (off _ (by omega) (by omega))
      ap := hY.ap
      t0 := hY.t0
      t1 := hY.t1
      t2 := hY.t2
      t3 := hY.t3
      lt := fun i k hk => Nat.lt_of_lt_of_le (hY.lt i k hk) hb.size
      wf := ⟨hY.wf.small, hY.wf.sect, hY.wf.some_, by have := hY.wf.u0; show 0 ≤ s.u + 1; omega, hq, fun j hj => ⟨(hY.wf.each j hj).1, (hY.wf.each j hj).2.1, fun x => by have := (hY.wf.each j hj).2.2 x; exact ⟨this.1, by show (s.d j).writes x ≤ s.u + 1; omega⟩⟩⟩ }
theorem Arr.apart (h : Arr w P O s) : ¬ P.n = P.p ∧ O P.a ∧ O P.r ∧ O P.p ∧ O P.n := by
  obtain ⟨T, hY, hO⟩ := h
  refine ⟨fun e => ?_, (hO _).2 ⟨_, hY.t0⟩, (hO _).2 ⟨_, hY.t1⟩, (hO _).2 ⟨_, hY.t2⟩, (hO _).2 ⟨_, hY.t3⟩⟩
  have := hY.ap _ _ _ hY.t3 (e ▸ hY.t2)
  omega
theorem Arr.pw (h : Arr w P O s) : Pw w P.p s.u (-1) := by obtain ⟨T, hY, hO⟩ := h; exact hY.pw
theorem part_stale (r : Rt) (q : Int) : r.cs.setIfInBounds 8 (.int .i64 q) = ({ r with stale := q } : Rt).cs := rfl

set_option maxHeartbeats 800000 in
theorem setStale_any (q : Int) (hq : -1 ≤ q ∧ q < (s.M : Int)) (h : Arr w P O s) (hu : s.u ≤ 990000) : Calls Tryz.prog 121 #[.pointer (some ⟨P.a, 0, none⟩), .int .i64 q] w fun e w' => e = .returned (.tuple #[]) ∧ Arr w' P O { s with stale := q, u := s.u + 1 } ∧ But O w w' := by
  obtain ⟨c6, c7, c8⟩ := h.cells
  have HA := Lib.hid h
  clear h c6 c8
  go_enter Tryz.func121, Tryz.ntmps121
  go_wp2_with fail
  refine (root_any HA.out.nv).mono ?_
  rintro e w1 ⟨rfl, hb⟩
  have B1 := Lib.hid hb
  have H1 := Lib.hid (HA.out.up hb)
  clear hb c7
  go_wp2_with (first | (refine wpList_store_part rfl 96 (.tmp 4) (.tmp 9) rfl w1.heap.size 0 96 #[.int .i64 0, .int .i64 0, .int .i64 0, .int .i64 0, .int .i64 0, .int .i64 0, .int .u64 0, .int .u64 0, .int .i64 0] s.rt.cs ?_ ?_ ?_ (root_size _) ?_ ?_ ?_))
  any_goals first | rfl | exact At.new _ 96 rfl | exact rt_one _ | (show 0 + 9 ≤ 9; omega)
  intro w2 hat hb
  have A2 := Lib.hid (show At w2 w1.heap.size s.rt.cs 96 from hat)
  have H2 := Lib.hid ((H1.out.alloc (.cells #[.int .i64 0, .int .i64 0, .int .i64 0, .int .i64 0, .int .i64 0, .int .i64 0, .int .u64 0, .int .u64 0, .int .i64 0] 96)).but hb (fun k hk e => by have := H1.out.lt k hk; omega))
  have B2 := Lib.hid (((But.of_below (S := fun _ => False) B1.out).alloc (.cells #[.int .i64 0, .int .i64 0, .int .i64 0, .int .i64 0, .int .i64 0, .int .i64 0, .int .u64 0, .int .u64 0, .int .i64 0] 96)).trans hb (fun k e hk => by have := B1.out.size; omega))
  have f8 := A2.out.frozen 8
  have d8 : w2.cell? ⟨w1.heap.size, 8, none⟩ = some (.int .i64 s.stale) := A2.out.cell 8
  clear hat hb
  go_wp2_with fail
  have A3 := Lib.hid (show At (w2.setCell ⟨w1.heap.size, 8, none⟩ (.int .i64 q)) w1.heap.size ({ s.rt with stale := q } : Rt).cs 96 from A2.out.set 8 _)
  have B3 := Lib.hid (B2.out.setCell (p := ⟨w1.heap.size, 8, none⟩) (fun hk => by have := B1.out.size; simp at hk; omega) (.int .i64 q))
  have H3 := Lib.hid (H2.out.but (S := fun k => k = w1.heap.size) (But.own w2 w1.heap.size 8 (.int .i64 q)) (fun k hk e => by have := H1.out.lt k hk; omega))
  generalize w2.setCell ⟨w1.heap.size, 8, none⟩ (.int .i64 q) = w3 at *
  clear d8 f8 A2 B2 H2
  have S0 : (fun w' : World => w'.cell? ⟨P.a, 7, none⟩ = some (.pointer (some ⟨P.n, 0, none⟩)) ∧ At w' w1.heap.size ({ s.rt with stale := q } : Rt).cs 96) w3.drew := ⟨H3.out.drew.cells.2.1, A3.out⟩
  refine wp_region_early (fun w' : World => w'.cell? ⟨P.a, 7, none⟩ = some (.pointer (some ⟨P.n, 0, none⟩)) ∧ At w' w1.heap.size ({ s.rt with stale := q } : Rt).cs 96) (fun _ => true) (by kernel_rfl) ?_
  change wpEarly _ _ _ _ _ _ 6 (Array.replicate 6 false) _ w3.drew
  refine early_take (i := 0) 12 (.pointer (some ⟨P.a, 0, none⟩)) rfl rfl (by kernel_rfl) (by kernel_rfl) (by kernel_rfl) (by kernel_rfl) rfl (fun _ _ _ h => h) (fun w' hw' => by go_simp) S0 ?_
  simp only [Act.put, List.setIfInBounds_toArray, List.set_cons_zero, List.set_cons_succ]
  refine early_take (i := 1) 13 (.pointer (some ⟨P.a, 0, none⟩)) rfl rfl (by kernel_rfl) (by kernel_rfl) (by kernel_rfl) (by kernel_rfl) rfl (fun _ _ _ h => h) (fun w' hw' => by go_simp) S0 ?_
  simp only [Act.put, List.setIfInBounds_toArray, List.set_cons_zero, List.set_cons_succ]
  refine early_take (i := 2) 14 (.pointer (some ⟨P.a, 7, none⟩)) rfl rfl (by kernel_rfl) (by kernel_rfl) (by kernel_rfl) (by kernel_rfl) rfl (fun _ _ _ h => h) (fun w' hw' => by go_simp) S0 ?_
  simp only [Act.put, List.setIfInBounds_toArray, List.set_cons_zero, List.set_cons_succ]
  refine early_take (i := 3) 15 (.pointer (some ⟨P.n, 0, none⟩)) rfl rfl (by kernel_rfl) (by kernel_rfl) (by kernel_rfl) (by kernel_rfl) rfl (fun _ _ _ h => h) (fun w' hw' => by obtain ⟨h7, _⟩ := hw'; go_simp) S0 ?_
  simp only [Act.put, List.setIfInBounds_toArray, List.set_cons_zero, List.set_cons_succ]
  refine early_take (i := 4) 16 (.agg ({ s.rt with stale := q } : Rt).cs) rfl rfl (by kernel_rfl) (by kernel_rfl) (by kernel_rfl) (by kernel_rfl) rfl (fun _ _ _ h => h) (fun w' hw' => exec_load_whole (x := .tmp 4) rfl rfl hw'.2 Tryz.underlying96 (root_size _)) S0 ?_
  simp only [Act.put, List.setIfInBounds_toArray, List.set_cons_zero, List.set_cons_succ]
  refine early_only (i := 5) (by kernel_rfl) rfl (fun K hK => ?_)
  simp only [opWp, List.getElem?_toArray, List.getElem?_cons_succ, List.getElem?_cons_zero]
  go_simp
  go_at_call 99
  refine (set_go s.u (-1) ({ s.rt with stale := q } : Rt) H3.out.drew.nv H3.out.drew.pw H3.out.apart.1 (by have := HA.out.u; omega) (by decide) (by decide)).mono ?_
  rintro e w4 ⟨rfl, hn, hp, hb⟩
  obtain ⟨k1, k2⟩ := H3.out.drew.setStale q hq hn hp hb
  refine hK _ _ (fun _ => ?_) ?_
  · exact ⟨k1.cells.2.1, A3.out.but (But.of_drewN 1 k2) (fun e => by have := H1.out.lt _ e; omega)⟩
  · refine early_done (by kernel_rfl) ?_
    go_wp2
    go_end0
    refine ⟨rfl, k1, (B3.out.mono (fun _ h _ => h.elim)).trans (But.of_drewN 1 k2) (fun k h _ => h)⟩

theorem Arr.brk (h : Arr w P O s) : Arr (w.setCell ⟨P.a, 8, none⟩ (.bool true)) P O { s with broken := true } ∧ But O w (w.setCell ⟨P.a, 8, none⟩ (.bool true)) := by
  obtain ⟨T, hY, hO⟩ := h
  have hb := But.own w P.a 8 (.bool true)
  have off : ∀ j, j ≠ 0 → ∀ k, T j k → ¬ k = P.a := fun j hj k hk e => hj (hY.ap _ _ _ hk (e ▸ hY.t0))
  refine ⟨⟨T, ?_, hO⟩, hb.mono (fun k hk _ => (hO k).2 ⟨0, hk ▸ hY.t0⟩)⟩
  exact
    { arr := hY.arr.set 8 (.bool true)
      row := fun j hj => (hb.cell (p := ⟨P.r, j, none⟩) (hY.lt _ _ hY.t1) (off 1 (by omega) _ hY.t1)).trans (hY.row j hj)
      pw := At.but hY.pw hb (off 2 (by omega) _ hY.t2)
      nv := At.but hY.nv hb (off 3 (by omega) _ hY.t3)
      dk := fun j hj => (hY.dk j hj).but hb (off _ (by omega))
      ap := hY.ap
      t0 := hY.t0
      t1 := hY.t1
      t2 := hY.t2
      t3 := hY.t3
      lt := fun i k hk => Nat.lt_of_lt_of_le (hY.lt i k hk) hb.size
      wf := ⟨hY.wf.small, hY.wf.sect, hY.wf.some_, hY.wf.u0, hY.wf.st, hY.wf.each⟩ }

/-- A member is lost. -/
theorem lose_any (m : Nat) (hm : m < s.M) (h : Arr w P O s) (hu : s.u ≤ 990000) : Calls Tryz.prog 81 #[.pointer (some ⟨P.a, 0, none⟩), .int .i64 (m : Int)] w fun e w' => e = .returned (.int .i64 (s.loss m)) ∧ Arr w' P O (s.lose m) ∧ But O w w' := by
  have HA := Lib.hid h
  have hm2 := hm
  have hM := h.many
  clear h
  go_enter Tryz.func81, Tryz.ntmps81
  go_wp2_with fail
  refine (stale_any HA.out).mono ?_
  rintro e w1 ⟨rfl, hb⟩
  have H1 := Lib.hid (HA.out.up hb)
  have B1 := Lib.hid (But.of_below (S := O) hb)
  clear hb
  by_cases h1 : s.stale = (m : Int)
  · have E1 := Lib.hid (show s.loss m = 0 by unfold AS.loss; rw [if_pos h1])
    have E2 := Lib.hid (show s.lose m = s by unfold AS.lose; rw [if_pos h1])
    go_wp2
    go_ret
    rw [E1.out, E2.out]
    exact ⟨rfl, H1.out, B1.out⟩
  · by_cases h2 : s.stale = -1
    · have E1 := Lib.hid (show s.loss m = 0 by unfold AS.loss; rw [if_neg h1, if_pos h2])
      have E2 := Lib.hid (show s.lose m = { s with stale := (m : Int), u := s.u + 1 } by unfold AS.lose; rw [if_neg h1, if_pos h2])
      go_wp2_with fail
      refine (setStale_any (m : Int) (by omega) H1.out hu).mono ?_
      rintro e w2 ⟨rfl, k1, k2⟩
      go_wp2
      go_ret
      rw [E1.out, E2.out]
      exact ⟨rfl, k1, B1.out.trans k2 (fun _ h _ => h)⟩
    · have E1 := Lib.hid (show s.loss m = 3 by unfold AS.loss; rw [if_neg h1, if_neg h2])
      have E2 := Lib.hid (show s.lose m = { s with broken := true } by unfold AS.lose; rw [if_neg h1, if_neg h2])
      obtain ⟨c6, c7, c8⟩ := H1.out.cells
      have f8 := H1.out.frozen 8
      clear c6 c7
      go_wp2
      go_ret
      rw [E1.out, E2.out]
      obtain ⟨k1, k2⟩ := H1.out.brk
      exact ⟨rfl, k1, B1.out.trans k2 (fun _ h _ => h)⟩

end
end Go.Proofs.YtplmdmchkaacoaaGreat
