/-
  PLAIN MATHEMATICS OF THE SUM (CRC-32), no memory and no program in it: the program's form (lowest bit first), the document's form (highest bit first), that both give the same number, that the sum is linear, and that a step can be undone.
-/
namespace Go.Proofs.Ytlmponcoghfghaa.Crc
set_option linter.unusedVariables false
set_option maxRecDepth 100000

/-- One bit taken out of the remainder, as the program does it. -/
def step (c : BitVec 32) : BitVec 32 := if c.getLsbD 0 = true then (c >>> 1) ^^^ 0xEDB88320#32 else c >>> 1
def steps : Nat → BitVec 32 → BitVec 32
  | 0, c => c
  | n + 1, c => step (steps n c)
def byte (c : BitVec 32) (x : BitVec 8) : BitVec 32 := steps 8 (c ^^^ x.setWidth 32)
def fold (c : BitVec 32) (l : List (BitVec 8)) : BitVec 32 := l.foldl byte c
def ones : BitVec 32 := 0xFFFFFFFF#32
def sum (l : List (BitVec 8)) : BitVec 32 := ~~~ fold ones l

theorem fold_snoc (c : BitVec 32) (l : List (BitVec 8)) (x : BitVec 8) : fold c (l ++ [x]) = byte (fold c l) x := by
  simp [fold, List.foldl_append]

theorem fold_take (c : BitVec 32) (l : List (BitVec 8)) (k : Nat) (h : k < l.length) : fold c (l.take (k + 1)) = byte (fold c (l.take k)) l[k] := by
  rw [List.take_succ_eq_append_getElem h, fold_snoc]

/-! ### A step is linear -/
theorem step_bit (c : BitVec 32) (i : Nat) (h : i < 32) : (step c).getLsbD i = ((c.getLsbD (1 + i)) ^^ (c.getLsbD 0 && (0xEDB88320#32).getLsbD i)) := by
  unfold step
  cases h0 : c.getLsbD 0 <;> simp [BitVec.getLsbD_xor, BitVec.getLsbD_ushiftRight]

theorem step_xor (a b : BitVec 32) : step (a ^^^ b) = step a ^^^ step b := by
  apply BitVec.eq_of_getLsbD_eq
  intro i h
  rw [BitVec.getLsbD_xor, step_bit _ i h, step_bit _ i h, step_bit _ i h, BitVec.getLsbD_xor, BitVec.getLsbD_xor]
  cases a.getLsbD (1 + i) <;> cases b.getLsbD (1 + i) <;> cases a.getLsbD 0 <;> cases b.getLsbD 0 <;> cases (0xEDB88320#32).getLsbD i <;> rfl

theorem steps_xor (n : Nat) (a b : BitVec 32) : steps n (a ^^^ b) = steps n a ^^^ steps n b := by
  induction n with
  | zero => rfl
  | succ n ih => simp only [steps, ih, step_xor]

theorem byte_xor (c d e : BitVec 32) (x y z : BitVec 8) : byte (c ^^^ d ^^^ e) (x ^^^ y ^^^ z) = byte c x ^^^ byte d y ^^^ byte e z := by
  unfold byte
  rw [← steps_xor, ← steps_xor]
  congr 1
  apply BitVec.eq_of_getLsbD_eq
  intro i h
  simp only [BitVec.getLsbD_xor, BitVec.getLsbD_setWidth]
  cases c.getLsbD i <;> cases d.getLsbD i <;> cases e.getLsbD i <;> cases x.getLsbD i <;> cases y.getLsbD i <;> cases z.getLsbD i <;> simp

/-! ### A step can be undone -/
theorem step_inj (a b : BitVec 32) (h : step a = step b) : a = b := by
  have h0 : a.getLsbD 0 = b.getLsbD 0 := by
    have e : (step a).getLsbD 31 = (step b).getLsbD 31 := by rw [h]
    rw [step_bit _ 31 (by decide), step_bit _ 31 (by decide)] at e
    have ha : a.getLsbD (1 + 31) = false := BitVec.getLsbD_of_ge _ _ (by decide)
    have hb : b.getLsbD (1 + 31) = false := BitVec.getLsbD_of_ge _ _ (by decide)
    have hp : (0xEDB88320#32).getLsbD 31 = true := by decide
    rw [ha, hb, hp] at e
    simpa using e
  apply BitVec.eq_of_getLsbD_eq
  intro i hi
  cases i with
  | zero => exact h0
  | succ i =>
    have e : (step a).getLsbD i = (step b).getLsbD i := by rw [h]
    rw [step_bit _ i (by omega), step_bit _ i (by omega), h0, Nat.add_comm 1 i] at e
    simpa using e

theorem steps_inj (n : Nat) (a b : BitVec 32) (h : steps n a = steps n b) : a = b := by
  induction n with
  | zero => exact h
  | succ n ih => exact ih (step_inj _ _ h)

theorem byte_inj_left (c d : BitVec 32) (x : BitVec 8) (h : byte c x = byte d x) : c = d := by
  have e := steps_inj 8 _ _ h
  have := congrArg (· ^^^ x.setWidth 32) e
  simpa [BitVec.xor_assoc] using this

theorem byte_inj_right (c : BitVec 32) (x y : BitVec 8) (h : byte c x = byte c y) : x = y := by
  have e := steps_inj 8 _ _ h
  have e2 : x.setWidth 32 = y.setWidth 32 := by
    have := congrArg (c ^^^ ·) e
    simpa [← BitVec.xor_assoc] using this
  apply BitVec.eq_of_getLsbD_eq
  intro i hi
  have e3 : (x.setWidth 32).getLsbD i = (y.setWidth 32).getLsbD i := by rw [e2]
  simpa [BitVec.getLsbD_setWidth, show i < 32 by omega] using e3

theorem fold_inj (l : List (BitVec 8)) : ∀ c d : BitVec 32, fold c l = fold d l → c = d := by
  induction l with
  | nil => intro c d h; exact h
  | cons x l ih => intro c d h; exact byte_inj_left _ _ _ (ih _ _ h)

/-- Of bytes of which one is another one the sum is another one. -/
theorem sum_set_ne (l : List (BitVec 8)) (k : Nat) (h : k < l.length) (y : BitVec 8) (hy : l[k] ≠ y) : sum (l.set k y) ≠ sum l := by
  have el : l = l.take k ++ (l[k] :: l.drop (k + 1)) := by
    rw [List.getElem_cons_drop, List.take_append_drop]
  have es : l.set k y = l.take k ++ (y :: l.drop (k + 1)) := by
    rw [List.set_eq_take_append_cons_drop, if_pos h]
  intro e
  have e1 : fold ones (l.set k y) = fold ones l := by
    have := congrArg (fun b => ~~~ b) e
    simpa [sum] using this
  rw [es] at e1
  have e2 : fold ones l = fold ones (l.take k ++ (l[k] :: l.drop (k + 1))) := congrArg _ el
  rw [e2] at e1
  unfold fold at e1
  rw [List.foldl_append, List.foldl_append, List.foldl_cons, List.foldl_cons] at e1
  exact hy (byte_inj_right _ _ _ (fold_inj _ _ _ e1)).symm

/-! ### The sum of three texts, turned by one another -/
theorem fold_three (a b c x : List (BitVec 8)) (hb : b.length = a.length) (hc : c.length = a.length) (hx : x.length = a.length)
    (h : ∀ i (h1 : i < a.length), x[i] = a[i] ^^^ b[i] ^^^ c[i]) : ∀ u v t : BitVec 32, fold (u ^^^ v ^^^ t) x = fold u a ^^^ fold v b ^^^ fold t c := by
  induction a generalizing b c x with
  | nil =>
    intro u v t
    obtain rfl := List.eq_nil_of_length_eq_zero hb
    obtain rfl := List.eq_nil_of_length_eq_zero hc
    obtain rfl := List.eq_nil_of_length_eq_zero hx
    rfl
  | cons p a ih =>
    intro u v t
    match b, c, x, hb, hc, hx, h with
    | q :: b, r :: c, y :: x, hb, hc, hx, h =>
      have h0 := h 0 (by simp)
      simp only [List.getElem_cons_zero] at h0
      subst h0
      show fold (byte (u ^^^ v ^^^ t) (p ^^^ q ^^^ r)) x = fold (byte u p) a ^^^ fold (byte v q) b ^^^ fold (byte t r) c
      rw [byte_xor]
      refine ih b c x (by simpa using hb) (by simpa using hc) (by simpa using hx) ?_ _ _ _
      intro i h1
      have := h (i + 1) (by simpa using h1)
      simpa using this

theorem not_three (a b c : BitVec 32) : ~~~ (a ^^^ b ^^^ c) = ~~~ a ^^^ ~~~ b ^^^ ~~~ c := by
  apply BitVec.eq_of_getLsbD_eq
  intro i h
  simp only [BitVec.getLsbD_xor, BitVec.getLsbD_not, h, decide_true, Bool.true_and]
  cases a.getLsbD i <;> cases b.getLsbD i <;> cases c.getLsbD i <;> rfl

theorem sum_three (a b c x : List (BitVec 8)) (hb : b.length = a.length) (hc : c.length = a.length) (hx : x.length = a.length)
    (h : ∀ i (h1 : i < a.length), x[i] = a[i] ^^^ b[i] ^^^ c[i]) : sum x = sum a ^^^ sum b ^^^ sum c := by
  unfold sum
  rw [← not_three, ← fold_three a b c x hb hc hx h]
  congr 2

/-! ### The document's form -/
/-- One bit of the text taken into the rest, highest bit first. -/
def rstep (r : BitVec 32) (b : Bool) : BitVec 32 := if (r.getLsbD 31 ^^ b) = true then (r <<< 1) ^^^ 0x04C11DB7#32 else r <<< 1
/-- The i-th bit of a text, each byte's lowest one first. -/
def bitOf (l : List (BitVec 8)) (i : Nat) : Bool := (l.getD (i / 8) 0#8).getLsbD (i % 8)
def rest (l : List (BitVec 8)) : Nat → BitVec 32
  | 0 => ones
  | n + 1 => rstep (rest l n) (bitOf l n)

def stepIn (c : BitVec 32) (b : Bool) : BitVec 32 := step (c ^^^ (if b = true then 1#32 else 0#32))

theorem poly_turned : ∀ i : Fin 32, (0xEDB88320#32).getLsbD i.val = (0x04C11DB7#32).getLsbD (31 - i.val) := by decide

theorem rstep_bit (r : BitVec 32) (b : Bool) (i : Nat) (h : i < 32) : (rstep r b).getLsbD i = ((decide (1 ≤ i) && r.getLsbD (i - 1)) ^^ ((r.getLsbD 31 ^^ b) && (0x04C11DB7#32).getLsbD i)) := by
  unfold rstep
  have e : (r <<< 1).getLsbD i = (decide (1 ≤ i) && r.getLsbD (i - 1)) := by
    rw [BitVec.getLsbD_shiftLeft]
    by_cases h1 : i < 1
    · have : ¬ 1 ≤ i := by omega
      simp [h1, this]
    · have : 1 ≤ i := by omega
      simp [h, h1, this]
  cases h0 : (r.getLsbD 31 ^^ b)
  · simp [e]
  · simp [e, BitVec.getLsbD_xor]

theorem stepIn_bit (c : BitVec 32) (b : Bool) (i : Nat) (h : i < 32) : (stepIn c b).getLsbD i = ((c.getLsbD (1 + i)) ^^ ((c.getLsbD 0 ^^ b) && (0xEDB88320#32).getLsbD i)) := by
  unfold stepIn
  rw [step_bit _ i h, BitVec.getLsbD_xor, BitVec.getLsbD_xor]
  have e1 : (if b = true then 1#32 else 0#32).getLsbD (1 + i) = false := by
    cases b
    · simp
    · simp [BitVec.getLsbD_one]
  have e0 : (if b = true then 1#32 else 0#32).getLsbD 0 = b := by cases b <;> rfl
  rw [e1, e0]
  simp

theorem rev_bit (c : BitVec 32) (i : Nat) (h : i < 32) : c.reverse.getLsbD i = c.getLsbD (31 - i) := by
  rw [BitVec.getLsbD_reverse, BitVec.getMsbD_eq_getLsbD]
  simp [h]

theorem rstep_rev (c : BitVec 32) (b : Bool) : rstep c.reverse b = (stepIn c b).reverse := by
  apply BitVec.eq_of_getLsbD_eq
  intro i h
  rw [rstep_bit _ _ i h, rev_bit _ i h, stepIn_bit _ _ _ (by omega), rev_bit _ 31 (by decide)]
  have hp := poly_turned ⟨31 - i, by omega⟩
  simp only at hp
  rw [hp, show 31 - (31 - i) = i by omega]
  by_cases h1 : 1 ≤ i
  · rw [rev_bit _ (i - 1) (by omega), show 31 - (i - 1) = 1 + (31 - i) by omega]
    simp [h1]
  · have : i = 0 := by omega
    subst this
    have e : c.getLsbD (1 + (31 - 0)) = false := BitVec.getLsbD_of_ge _ _ (by decide)
    rw [e]
    simp

theorem ones_bit (i : Nat) (h : i < 32) : ones.getLsbD i = true := by
  have : ones = BitVec.allOnes 32 := by decide
  rw [this, BitVec.getLsbD_allOnes]
  simp [h]

def bitsIn (y : BitVec 32) : Nat → BitVec 32 → BitVec 32
  | 0, c => c
  | k + 1, c => stepIn (bitsIn y k c) (y.getLsbD k)

theorem step_in (c y : BitVec 32) : step (c ^^^ y) = stepIn c (y.getLsbD 0) ^^^ (y >>> 1) := by
  apply BitVec.eq_of_getLsbD_eq
  intro i h
  rw [step_bit _ i h, BitVec.getLsbD_xor, BitVec.getLsbD_xor, BitVec.getLsbD_xor, stepIn_bit _ _ i h, BitVec.getLsbD_ushiftRight]
  cases c.getLsbD (1 + i) <;> cases y.getLsbD (1 + i) <;> cases c.getLsbD 0 <;> cases y.getLsbD 0 <;> cases (0xEDB88320#32).getLsbD i <;> rfl

theorem steps_in (k : Nat) (c y : BitVec 32) : steps k (c ^^^ y) = bitsIn y k c ^^^ (y >>> k) := by
  induction k with
  | zero => simp [steps, bitsIn]
  | succ k ih =>
    simp only [steps, bitsIn, ih, step_in]
    have e0 : (y >>> k).getLsbD 0 = y.getLsbD k := by simp
    rw [e0, BitVec.shiftRight_add]

theorem byte_in (c : BitVec 32) (x : BitVec 8) : byte c x = bitsIn (x.setWidth 32) 8 c := by
  unfold byte
  rw [steps_in]
  have e : (x.setWidth 32) >>> 8 = 0#32 := by
    apply BitVec.eq_of_getLsbD_eq
    intro i h
    simp [BitVec.getLsbD_ushiftRight, BitVec.getLsbD_setWidth]
  rw [e]
  simp

theorem rest_in (l : List (BitVec 8)) : ∀ j, j ≤ l.length → ∀ k, k ≤ 8 → (k = 0 ∨ j < l.length) →
    rest l (8 * j + k) = (bitsIn ((l.getD j 0#8).setWidth 32) k (fold ones (l.take j))).reverse := by
  have inner : ∀ j, j < l.length → rest l (8 * j) = (fold ones (l.take j)).reverse → ∀ k, k ≤ 8 →
      rest l (8 * j + k) = (bitsIn ((l.getD j 0#8).setWidth 32) k (fold ones (l.take j))).reverse := by
    intro j hj h0 k
    induction k with
    | zero => intro _; exact h0
    | succ k ih =>
      intro hk
      have hb : bitOf l (8 * j + k) = ((l.getD j 0#8).setWidth 32).getLsbD k := by
        unfold bitOf
        rw [show (8 * j + k) / 8 = j by omega, show (8 * j + k) % 8 = k by omega, BitVec.getLsbD_setWidth]
        simp [show k < 32 by omega]
      show rstep (rest l (8 * j + k)) (bitOf l (8 * j + k)) = _
      rw [ih (by omega), hb, rstep_rev]
      rfl
  have outer : ∀ j, j ≤ l.length → rest l (8 * j) = (fold ones (l.take j)).reverse := by
    intro j
    induction j with
    | zero =>
      intro _
      show ones = (fold ones (l.take 0)).reverse
      rw [List.take_zero]
      show ones = ones.reverse
      apply BitVec.eq_of_getLsbD_eq
      intro i h
      rw [rev_bit _ i h, ones_bit _ h, ones_bit _ (by omega)]
    | succ j ih =>
      intro hj
      have e := inner j (by omega) (ih (by omega)) 8 (by omega)
      rw [show 8 * (j + 1) = 8 * j + 8 by omega, e, fold_take _ _ _ (by omega), byte_in]
      have eg : l.getD j 0#8 = l[j] := by rw [List.getD_eq_getElem?_getD, List.getElem?_eq_getElem (by omega)]; rfl
      rw [eg]
  intro j hj k hk hor
  by_cases hjl : j < l.length
  · exact inner j hjl (outer j hj) k hk
  · have : k = 0 := by omega
    subst this
    exact outer j hj

theorem rest_all (l : List (BitVec 8)) : rest l (8 * l.length) = (fold ones l).reverse := by
  have := rest_in l l.length (Nat.le_refl _) 0 (by omega) (.inl rfl)
  simpa [bitsIn] using this

/-- The bits of a number, the lowest one first taken, the last one lowest. -/
def turned (r : BitVec 32) : Nat → BitVec 32
  | 0 => 0#32
  | n + 1 => (turned r n <<< 1) ||| (if r.getLsbD n = true then 1#32 else 0#32)

theorem turned_bit (r : BitVec 32) (n : Nat) (hn : n ≤ 32) (i : Nat) (h : i < 32) : (turned r n).getLsbD i = (decide (i < n) && r.getLsbD (n - 1 - i)) := by
  induction n generalizing i with
  | zero => simp [turned]
  | succ n ih =>
    simp only [turned]
    rw [BitVec.getLsbD_or, BitVec.getLsbD_shiftLeft]
    cases i with
    | zero => cases hr : r.getLsbD n <;> simp [hr]
    | succ i =>
      have e : (if r.getLsbD n = true then 1#32 else 0#32).getLsbD (i + 1) = false := by
        cases r.getLsbD n
        · simp
        · simp [BitVec.getLsbD_one]
      rw [e, show i + 1 - 1 = i by omega, ih (by omega) i (by omega), show n + 1 - 1 - (i + 1) = n - 1 - i by omega]
      have e2 : decide (i + 1 < 32) = true := by simp; omega
      simp [e2]

theorem turned_all (r : BitVec 32) : turned r 32 = r.reverse := by
  apply BitVec.eq_of_getLsbD_eq
  intro i h
  rw [turned_bit r 32 (by omega) i h, rev_bit _ i h]
  simp [h]

theorem reverse_twice (c : BitVec 32) : c.reverse.reverse = c := by
  apply BitVec.eq_of_getLsbD_eq
  intro i h
  rw [rev_bit _ i h, rev_bit _ _ (by omega), show 31 - (31 - i) = i by omega]

/-- The document's sum is the program's. -/
theorem ref_sum (l : List (BitVec 8)) : turned (rest l (8 * l.length)) 32 ^^^ ones = sum l := by
  rw [turned_all, rest_all, reverse_twice]
  unfold sum
  apply BitVec.eq_of_getLsbD_eq
  intro i h
  rw [BitVec.getLsbD_xor, BitVec.getLsbD_not, ones_bit i h]
  simp [h]

end Go.Proofs.Ytlmponcoghfghaa.Crc
