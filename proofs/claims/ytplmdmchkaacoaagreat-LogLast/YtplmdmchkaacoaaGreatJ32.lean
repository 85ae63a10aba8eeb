/-
  TEXTS JOINED: L9Crc, L9Bits, L9Mem, L9SumA, L9SumR.
-/
import Derived.Test.YtplmdmchkaacoaaGreatJ20
import Derived.Test.YtplmdmchkaacoaaGreatJ22
import Derived.Laws.BitsAllLaws
import Derived.Test.YtplmdmchkaacoaaGreatRows
import Derived.WalkKit
import Derived.ProofKit
import Derived.Laws.OwnMore
import Derived.Deep.Draws
import Derived.Laws.Rows
import Derived.WalkLawsBesides
import Derived.Lib.Hide
import Derived.Lib.SlBytesConst

/-
  PLAIN MATHEMATICS OF THE SUM (CRC-32), no memory and no program in it: the program's form (lowest bit first), the document's form (highest bit first), that both give the same number, that the sum is linear, and that a step can be undone.
-/
namespace Go.Proofs.YtplmdmchkaacoaaGreat.L9.Crc
set_option linter.unusedVariables false

/-- One bit taken out of the remainder, as the program does it. -/
def step (c : BitVec 32) : BitVec 32 := if c.getLsbD 0 = true then (c >>> 1) ^^^ 0xEDB88320#32 else c >>> 1
def steps : Nat → BitVec 32 → BitVec 32
  | 0, c => c
  | n + 1, c => step (steps n c)
def byte (c : BitVec 32) (x : BitVec 8) : BitVec 32 := steps 8 (c ^^^ x.setWidth 32)
def fold (c : BitVec 32) (l : List (BitVec 8)) : BitVec 32 := l.foldl byte c
def ones : BitVec 32 := 0xFFFFFFFF#32
def sum (l : List (BitVec 8)) : BitVec 32 := ~~~ fold ones l

theorem fold_snoc (c : BitVec 32) (l : List (BitVec 8)) (x : BitVec 8) : fold c (l ++ [x]) = byte (fold c l) x := by
  simp [fold, List.foldl_append]

theorem fold_take (c : BitVec 32) (l : List (BitVec 8)) (k : Nat) (h : k < l.length) : fold c (l.take (k + 1)) = byte (fold c (l.take k)) l[k] := by
  rw [List.take_succ_eq_append_getElem h, fold_snoc]

/-! ### A step is linear -/
theorem step_bit (c : BitVec 32) (i : Nat) (h : i < 32) : (step c).getLsbD i = ((c.getLsbD (1 + i)) ^^ (c.getLsbD 0 && (0xEDB88320#32).getLsbD i)) := by
  unfold step
  cases h0 : c.getLsbD 0 <;> simp [BitVec.getLsbD_xor, BitVec.getLsbD_ushiftRight]

theorem step_xor (a b : BitVec 32) : step (a ^^^ b) = step a ^^^ step b := by
  apply BitVec.eq_of_getLsbD_eq
  intro i h
  rw [BitVec.getLsbD_xor, step_bit _ i h, step_bit _ i h, step_bit _ i h, BitVec.getLsbD_xor, BitVec.getLsbD_xor]
  cases a.getLsbD (1 + i) <;> cases b.getLsbD (1 + i) <;> cases a.getLsbD 0 <;> cases b.getLsbD 0 <;> cases (0xEDB88320#32).getLsbD i <;> rfl

theorem steps_xor (n : Nat) (a b : BitVec 32) : steps n (a ^^^ b) = steps n a ^^^ steps n b := by
  induction n with
  | zero => rfl
  | succ n ih => simp only [steps, ih, step_xor]

theorem byte_xor (c d e : BitVec 32) (x y z : BitVec 8) : byte (c ^^^ d ^^^ e) (x ^^^ y ^^^ z) = byte c x ^^^ byte d y ^^^ byte e z := by
  unfold byte
  rw [← steps_xor, ← steps_xor]
  congr 1
  apply BitVec.eq_of_getLsbD_eq
  intro i h
  simp only [BitVec.getLsbD_xor, BitVec.getLsbD_setWidth]
  cases c.getLsbD i <;> cases d.getLsbD i <;> cases e.getLsbD i <;> cases x.getLsbD i <;> cases y.getLsbD i <;> cases z.getLsbD i <;> simp

/-! ### A step can be undone -/
theorem step_inj (a b : BitVec 32) (h : step a = step b) : a = b := by
  have h0 : a.getLsbD 0 = b.getLsbD 0 := by
    have e : (step a).getLsbD 31 = (step b).getLsbD 31 := by rw [h]
    rw [step_bit _ 31 (by decide), step_bit _ 31 (by decide)] at e
    have ha : a.getLsbD (1 + 31) = false := BitVec.getLsbD_of_ge _ _ (by decide)
    have hb : b.getLsbD (1 + 31) = false := BitVec.getLsbD_of_ge _ _ (by decide)
    have hp : (0xEDB88320#32).getLsbD 31 = true := by decide
    rw [ha, hb, hp] at e
    simpa using e
  apply BitVec.eq_of_getLsbD_eq
  intro i hi
  cases i with
  | zero => exact h0
  | succ i =>
    have e : (step a).getLsbD i = (step b).getLsbD i := by rw [h]
    rw [step_bit _ i (by omega), step_bit _ i (by omega), h0, Nat.add_comm 1 i] at e
    simpa using e

theorem steps_inj (n : Nat) (a b : BitVec 32) (h : steps n a = steps n b) : a = b := by
  induction n with
  | zero => exact h
  | succ n ih => exact ih (step_inj _ _ h)

theorem byte_inj_left (c d : BitVec 32) (x : BitVec 8) (h : byte c x = byte d x) : c = d := by
  have e := steps_inj 8 _ _ h
  have := congrArg (· ^^^ x.setWidth 32) e
  simpa [BitVec.xor_assoc] using this

theorem byte_inj_right (c : BitVec 32) (x y : BitVec 8) (h : byte c x = byte c y) : x = y := by
  have e := steps_inj 8 _ _ h
  have e2 : x.setWidth 32 = y.setWidth 32 := by
    have := congrArg (c ^^^ ·) e
    simpa [← BitVec.xor_assoc] using this
  apply BitVec.eq_of_getLsbD_eq
  intro i hi
  have e3 : (x.setWidth 32).getLsbD i = (y.setWidth 32).getLsbD i := by rw [e2]
  simpa [BitVec.getLsbD_setWidth, show i < 32 by omega] using e3

theorem fold_inj (l : List (BitVec 8)) : ∀ c d : BitVec 32, fold c l = fold d l → c = d := by
  induction l with
  | nil => intro c d h; exact h
  | cons x l ih => intro c d h; exact byte_inj_left _ _ _ (ih _ _ h)

/-- Of bytes of which one is another one the sum is another one. -/
theorem sum_set_ne (l : List (BitVec 8)) (k : Nat) (h : k < l.length) (y : BitVec 8) (hy : l[k] ≠ y) : sum (l.set k y) ≠ sum l := by
  have el : l = l.take k ++ (l[k] :: l.drop (k + 1)) := by
    rw [List.getElem_cons_drop, List.take_append_drop]
  have es : l.set k y = l.take k ++ (y :: l.drop (k + 1)) := by
    rw [List.set_eq_take_append_cons_drop, if_pos h]
  intro e
  have e1 : fold ones (l.set k y) = fold ones l := by
    have := congrArg (fun b => ~~~ b) e
    simpa [sum] using this
  rw [es] at e1
  have e2 : fold ones l = fold ones (l.take k ++ (l[k] :: l.drop (k + 1))) := congrArg _ el
  rw [e2] at e1
  unfold fold at e1
  rw [List.foldl_append, List.foldl_append, List.foldl_cons, List.foldl_cons] at e1
  exact hy (byte_inj_right _ _ _ (fold_inj _ _ _ e1)).symm

/-! ### The sum of three texts, turned by one another -/
theorem fold_three (a b c x : List (BitVec 8)) (hb : b.length = a.length) (hc : c.length = a.length) (hx : x.length = a.length)
    (h : ∀ i (h1 : i < a.length), x[i] = a[i] ^^^ b[i] ^^^ c[i]) : ∀ u v t : BitVec 32, fold (u ^^^ v ^^^ t) x = fold u a ^^^ fold v b ^^^ fold t c := by
  induction a generalizing b c x with
  | nil =>
    intro u v t
    obtain rfl := List.eq_nil_of_length_eq_zero hb
    obtain rfl := List.eq_nil_of_length_eq_zero hc
    obtain rfl := List.eq_nil_of_length_eq_zero hx
    rfl
  | cons p a ih =>
    intro u v t
    match b, c, x, hb, hc, hx, h with
    | q :: b, r :: c, y :: x, hb, hc, hx, h =>
      have h0 := h 0 (by simp)
      simp only [List.getElem_cons_zero] at h0
      subst h0
      show fold (byte (u ^^^ v ^^^ t) (p ^^^ q ^^^ r)) x = fold (byte u p) a ^^^ fold (byte v q) b ^^^ fold (byte t r) c
      rw [byte_xor]
      refine ih b c x (by simpa using hb) (by simpa using hc) (by simpa using hx) ?_ _ _ _
      intro i h1
      have := h (i + 1) (by simpa using h1)
      simpa using this

theorem not_three (a b c : BitVec 32) : ~~~ (a ^^^ b ^^^ c) = ~~~ a ^^^ ~~~ b ^^^ ~~~ c := by
  apply BitVec.eq_of_getLsbD_eq
  intro i h
  simp only [BitVec.getLsbD_xor, BitVec.getLsbD_not, h, decide_true, Bool.true_and]
  cases a.getLsbD i <;> cases b.getLsbD i <;> cases c.getLsbD i <;> rfl

theorem sum_three (a b c x : List (BitVec 8)) (hb : b.length = a.length) (hc : c.length = a.length) (hx : x.length = a.length)
    (h : ∀ i (h1 : i < a.length), x[i] = a[i] ^^^ b[i] ^^^ c[i]) : sum x = sum a ^^^ sum b ^^^ sum c := by
  unfold sum
  rw [← not_three, ← fold_three a b c x hb hc hx h]
  congr 2

/-! ### The document's form -/
/-- One bit of the text taken into the rest, highest bit first. -/
def rstep (r : BitVec 32) (b : Bool) : BitVec 32 := if (r.getLsbD 31 ^^ b) = true then (r <<< 1) ^^^ 0x04C11DB7#32 else r <<< 1
/-- The i-th bit of a text, each byte's lowest one first. -/
def bitOf (l : List (BitVec 8)) (i : Nat) : Bool := (l.getD (i / 8) 0#8).getLsbD (i % 8)
def rest (l : List (BitVec 8)) : Nat → BitVec 32
  | 0 => ones
  | n + 1 => rstep (rest l n) (bitOf l n)

def stepIn (c : BitVec 32) (b : Bool) : BitVec 32 := step (c ^^^ (if b = true then 1#32 else 0#32))

theorem poly_turned : ∀ i : Fin 32, (0xEDB88320#32).getLsbD i.val = (0x04C11DB7#32).getLsbD (31 - i.val) := by decide

theorem rstep_bit (r : BitVec 32) (b : Bool) (i : Nat) (h : i < 32) : (rstep r b).getLsbD i = ((decide (1 ≤ i) && r.getLsbD (i - 1)) ^^ ((r.getLsbD 31 ^^ b) && (0x04C11DB7#32).getLsbD i)) := by
  unfold rstep
  have e : (r <<< 1).getLsbD i = (decide (1 ≤ i) && r.getLsbD (i - 1)) := by
    rw [BitVec.getLsbD_shiftLeft]
    by_cases h1 : i < 1
    · have : ¬ 1 ≤ i := by omega
      simp [h1, this]
    · have : 1 ≤ i := by omega
      simp [h, h1, this]
  cases h0 : (r.getLsbD 31 ^^ b)
  · simp [e]
  · simp [e, BitVec.getLsbD_xor]

theorem stepIn_bit (c : BitVec 32) (b : Bool) (i : Nat) (h : i < 32) : (stepIn c b).getLsbD i = ((c.getLsbD (1 + i)) ^^ ((c.getLsbD 0 ^^ b) && (0xEDB88320#32).getLsbD i)) := by
  unfold stepIn
  rw [step_bit _ i h, BitVec.getLsbD_xor, BitVec.getLsbD_xor]
  have e1 : (if b = true then 1#32 else 0#32).getLsbD (1 + i) = false := by
    cases b
    · simp
    · simp [BitVec.getLsbD_one]
  have e0 : (if b = true then 1#32 else 0#32).getLsbD 0 = b := by cases b <;> rfl
  rw [e1, e0]
  simp

theorem rev_bit (c : BitVec 32) (i : Nat) (h : i < 32) : c.reverse.getLsbD i = c.getLsbD (31 - i) := by
  rw [BitVec.getLsbD_reverse, BitVec.getMsbD_eq_getLsbD]
  simp [h]

theorem rstep_rev (c : BitVec 32) (b : Bool) : rstep c.reverse b = (stepIn c b).reverse := by
  apply BitVec.eq_of_getLsbD_eq
  intro i h
  rw [rstep_bit _ _ i h, rev_bit _ i h, stepIn_bit _ _ _ (by omega), rev_bit _ 31 (by decide)]
  have hp := poly_turned ⟨31 - i, by omega⟩
  simp only at hp
  rw [hp, show 31 - (31 - i) = i by omega]
  by_cases h1 : 1 ≤ i
  · rw [rev_bit _ (i - 1) (by omega), show 31 - (i - 1) = 1 + (31 - i) by omega]
    simp [h1]
  · have : i = 0 := by omega
    subst this
    have e : c.getLsbD (1 + (31 - 0)) = false := BitVec.getLsbD_of_ge _ _ (by decide)
    rw [e]
    simp

theorem ones_bit (i : Nat) (h : i < 32) : ones.getLsbD i = true := by
  have : ones = BitVec.allOnes 32 := by decide
  rw [this, BitVec.getLsbD_allOnes]
  simp [h]

def bitsIn (y : BitVec 32) : Nat → BitVec 32 → BitVec 32
  | 0, c => c
  | k + 1, c => stepIn (bitsIn y k c) (y.getLsbD k)

theorem step_in (c y : BitVec 32) : step (c ^^^ y) = stepIn c (y.getLsbD 0) ^^^ (y >>> 1) := by
  apply BitVec.eq_of_getLsbD_eq
  intro i h
  rw [step_bit _ i h, BitVec.getLsbD_xor, BitVec.getLsbD_xor, BitVec.getLsbD_xor, stepIn_bit _ _ i h, BitVec.getLsbD_ushiftRight]
  cases c.getLsbD (1 + i) <;> cases y.getLsbD (1 + i) <;> cases c.getLsbD 0 <;> cases y.getLsbD 0 <;> cases (0xEDB88320#32).getLsbD i <;> rfl

theorem steps_in (k : Nat) (c y : BitVec 32) : steps k (c ^^^ y) = bitsIn y k c ^^^ (y >>> k) := by
  induction k with
  | zero => simp [steps, bitsIn]
  | succ k ih =>
    simp only [steps, bitsIn, ih, step_in]
    have e0 : (y >>> k).getLsbD 0 = y.getLsbD k := by simp
    rw [e0, BitVec.shiftRight_add]

theorem byte_in (c : BitVec 32) (x : BitVec 8) : byte c x = bitsIn (x.setWidth 32) 8 c := by
  unfold byte
  rw [steps_in]
  have e : (x.setWidth 32) >>> 8 = 0#32 := by
    apply BitVec.eq_of_getLsbD_eq
    intro i h
    simp [BitVec.getLsbD_ushiftRight, BitVec.getLsbD_setWidth]
  rw [e]
  simp

theorem rest_in (l : List (BitVec 8)) : ∀ j, j ≤ l.length → ∀ k, k ≤ 8 → (k = 0 ∨ j < l.length) →
    rest l (8 * j + k) = (bitsIn ((l.getD j 0#8).setWidth 32) k (fold ones (l.take j))).reverse := by
  have inner : ∀ j, j < l.length → rest l (8 * j) = (fold ones (l.take j)).reverse → ∀ k, k ≤ 8 →
      rest l (8 * j + k) = (bitsIn ((l.getD j 0#8).setWidth 32) k (fold ones (l.take j))).reverse := by
    intro j hj h0 k
    induction k with
    | zero => intro _; exact h0
    | succ k ih =>
      intro hk
      have hb : bitOf l (8 * j + k) = ((l.getD j 0#8).setWidth 32).getLsbD k := by
        unfold bitOf
        rw [show (8 * j + k) / 8 = j by omega, show (8 * j + k) % 8 = k by omega, BitVec.getLsbD_setWidth]
        simp [show k < 32 by omega]
      show rstep (rest l (8 * j + k)) (bitOf l (8 * j + k)) = _
      rw [ih (by omega), hb, rstep_rev]
      rfl
  have outer : ∀ j, j ≤ l.length → rest l (8 * j) = (fold ones (l.take j)).reverse := by
    intro j
    induction j with
    | zero =>
      intro _
      show ones = (fold ones (l.take 0)).reverse
      rw [List.take_zero]
      show ones = ones.reverse
      apply BitVec.eq_of_getLsbD_eq
      intro i h
      rw [rev_bit _ i h, ones_bit _ h, ones_bit _ (by omega)]
    | succ j ih =>
      intro hj
      have e := inner j (by omega) (ih (by omega)) 8 (by omega)
      rw [show 8 * (j + 1) = 8 * j + 8 by omega, e, fold_take _ _ _ (by omega), byte_in]
      have eg : l.getD j 0#8 = l[j] := by rw [List.getD_eq_getElem?_getD, List.getElem?_eq_getElem (by omega)]; rfl
      rw [eg]
  intro j hj k hk hor
  by_cases hjl : j < l.length
  · exact inner j hjl (outer j hj) k hk
  · have : k = 0 := by omega
    subst this
    exact outer j hj

theorem rest_all (l : List (BitVec 8)) : rest l (8 * l.length) = (fold ones l).reverse := by
  have := rest_in l l.length (Nat.le_refl _) 0 (by omega) (.inl rfl)
  simpa [bitsIn] using this

/-- The bits of a number, the lowest one first taken, the last one lowest. -/
def turned (r : BitVec 32) : Nat → BitVec 32
  | 0 => 0#32
  | n + 1 => (turned r n <<< 1) ||| (if r.getLsbD n = true then 1#32 else 0#32)

theorem turned_bit (r : BitVec 32) (n : Nat) (hn : n ≤ 32) (i : Nat) (h : i < 32) : (turned r n).getLsbD i = (decide (i < n) && r.getLsbD (n - 1 - i)) := by
  induction n generalizing i with
  | zero => simp [turned]
  | succ n ih =>
    simp only [turned]
    rw [BitVec.getLsbD_or, BitVec.getLsbD_shiftLeft]
    cases i with
    | zero => cases hr : r.getLsbD n <;> simp [hr]
    | succ i =>
      have e : (if r.getLsbD n = true then 1#32 else 0#32).getLsbD (i + 1) = false := by
        cases r.getLsbD n
        · simp
        · simp [BitVec.getLsbD_one]
      rw [e, show i + 1 - 1 = i by omega, ih (by omega) i (by omega), show n + 1 - 1 - (i + 1) = n - 1 - i by omega]
      have e2 : decide (i + 1 < 32) = true := by simp; omega
      simp [e2]

theorem turned_all (r : BitVec 32) : turned r 32 = r.reverse := by
  apply BitVec.eq_of_getLsbD_eq
  intro i h
  rw [turned_bit r 32 (by omega) i h, rev_bit _ i h]
  simp [h]

theorem reverse_twice (c : BitVec 32) : c.reverse.reverse = c := by
  apply BitVec.eq_of_getLsbD_eq
  intro i h
  rw [rev_bit _ i h, rev_bit _ _ (by omega), show 31 - (31 - i) = i by omega]

/-- The document's sum is the program's. -/
theorem ref_sum (l : List (BitVec 8)) : turned (rest l (8 * l.length)) 32 ^^^ ones = sum l := by
  rw [turned_all, rest_all, reverse_twice]
  unfold sum
  apply BitVec.eq_of_getLsbD_eq
  intro i h
  rw [BitVec.getLsbD_xor, BitVec.getLsbD_not, ones_bit i h]
  simp [h]

end Go.Proofs.YtplmdmchkaacoaaGreat.L9.Crc

/-
  THE MODEL'S NUMBERS AS BITS: what the walk writes for '&', '^', '|', '<<', '>>' and the conversions of uint32 and uint8, said of BitVec.
-/
namespace Go.Proofs.YtplmdmchkaacoaaGreat.L9
set_option maxRecDepth 100000
set_option linter.unusedVariables false

theorem lt32 (a : BitVec 32) : a.toNat < 4294967296 := a.isLt
theorem lt8 (a : BitVec 8) : a.toNat < 256 := a.isLt

theorem xor32 (a b : BitVec 32) : bits .xor .u32 (a.toNat : Int) (b.toNat : Int) = ((a ^^^ b).toNat : Int) := by
  rw [u32_xor_nat _ _ (lt32 a) (lt32 b), BitVec.toNat_xor]
theorem or32 (a b : BitVec 32) : bits .or .u32 (a.toNat : Int) (b.toNat : Int) = ((a ||| b).toNat : Int) := by
  rw [u32_or_nat _ _ (lt32 a) (lt32 b), BitVec.toNat_or]
theorem and32 (a b : BitVec 32) : bits .and .u32 (a.toNat : Int) (b.toNat : Int) = ((a &&& b).toNat : Int) := by
  rw [u32_and_nat _ _ (lt32 a) (lt32 b), BitVec.toNat_and]
theorem xor8 (a b : BitVec 8) : bits .xor .u8 (a.toNat : Int) (b.toNat : Int) = ((a ^^^ b).toNat : Int) := by
  rw [u8_xor_nat _ _ (lt8 a) (lt8 b), BitVec.toNat_xor]

theorem half32 (a : BitVec 32) : (a.toNat : Int) / (2 : Int) = ((a >>> 1).toNat : Int) := by
  rw [BitVec.toNat_ushiftRight, Nat.shiftRight_eq_div_pow]
  omega
theorem low32 (a : BitVec 32) : a.toNat % 2 = if a.getLsbD 0 = true then 1 else 0 := by
  have : a.getLsbD 0 = decide (a.toNat % 2 = 1) := by
    rw [BitVec.getLsbD, Nat.testBit_zero]
  rw [this]
  by_cases h : a.toNat % 2 = 1
  · simp [h]
  · have h0 : a.toNat % 2 = 0 := by omega
    simp [h0]
theorem and_one (a : BitVec 32) : bits .and .u32 (a.toNat : Int) 1 = (if a.getLsbD 0 = true then 1 else 0 : Int) := by
  have h := u32_and_nat a.toNat 1 (lt32 a) (by omega)
  rw [show ((1 : Nat) : Int) = 1 from rfl] at h
  rw [h, Nat.and_one_is_mod, low32]
  cases a.getLsbD 0 <;> rfl

theorem step_yes (d : BitVec 32) (h : (bits BinOp.and IntKind.u32 (d.toNat : Int) 1 == 1) = true) :
    bits BinOp.xor IntKind.u32 ((d.toNat : Int) / (2 : Int)) 3988292384 = ((Crc.step d).toNat : Int) := by
  rw [and_one] at h
  have h0 : d.getLsbD 0 = true := by
    cases e : d.getLsbD 0
    · rw [e] at h; simp at h
    · rfl
  rw [half32, show (3988292384 : Int) = ((0xEDB88320#32).toNat : Int) from rfl, xor32]
  unfold Crc.step
  rw [if_pos h0]
theorem step_no (d : BitVec 32) (h : (bits BinOp.and IntKind.u32 (d.toNat : Int) 1 == 1) = false) :
    (d.toNat : Int) / (2 : Int) = ((Crc.step d).toNat : Int) := by
  rw [and_one] at h
  have h0 : ¬ d.getLsbD 0 = true := by
    intro e
    rw [if_pos e] at h; simp at h
  rw [half32]
  unfold Crc.step
  rw [if_neg h0]

theorem wide8 (x : BitVec 8) : (x.toNat : Int) = ((x.setWidth 32).toNat : Int) := by
  rw [BitVec.toNat_setWidth]
  have := lt8 x
  congr 1
  omega

end Go.Proofs.YtplmdmchkaacoaaGreat.L9

/-
  A SLICE OF BYTES THAT READS AS A LIST, nil let in: what is kept of it when memory grows, and of its parts.
-/
namespace Go.Proofs.YtplmdmchkaacoaaGreat.L9
set_option maxRecDepth 100000
open Go.RowKit
set_option linter.unusedVariables false

section
variable {w w' : World} {A : Option Addr} {n : Nat} {l : List (BitVec 8)}

end

end Go.Proofs.YtplmdmchkaacoaaGreat.L9

/-
  THE WALKS OF THE FUNCTIONS THAT ONLY READ: divide, Of.
-/
namespace Go.Proofs.YtplmdmchkaacoaaGreat.L9
set_option maxRecDepth 100000
open Go.RowKit
set_option linter.unusedVariables false

set_option maxHeartbeats 400000 in
theorem divide_any (c : BitVec 32) (w : World) :
    Calls Tryz.prog 162 #[.int .u32 (c.toNat : Int)] w fun e w' => e = .returned (.int .u32 ((Crc.steps 8 c).toNat : Int)) ∧ w = w' := by
  go_enter Tryz.func162, Tryz.ntmps162
  go_wp2
  go_loop [0, 4] (fun v i => ∃ k : Nat, k ≤ 8 ∧ i = .int .i64 k ∧ v = .int .u32 ((Crc.steps k c).toNat : Int)) (fun _ i => 8 - (RowKit.intOf i).toNat)
  case atStart => exact ⟨0, Nat.zero_le _, rfl, rfl⟩
  case round =>
    obtain ⟨k, hk, rfl, rfl⟩ := hrel
    have hd := lt32 (Crc.steps k c)
    by_cases hlt : k < 8
    · go_wp2
      · go_round
        case rel => exact ⟨k + 1, by omega, by go_num, congrArg _ (step_yes _ (by assumption))⟩
        case measure => simp [RowKit.intOf]; omega
      · go_round
        case rel => exact ⟨k + 1, by omega, by go_num, congrArg _ (step_no _ (by assumption))⟩
        case measure => simp [RowKit.intOf]; omega
    · have e : k = 8 := by omega
      subst e
      go_wp2
      go_ret
      exact ⟨rfl, rfl⟩

theorem byte_arg (c : BitVec 32) (x : BitVec 8) : bits BinOp.xor IntKind.u32 (c.toNat : Int) (x.toNat : Int) = ((c ^^^ x.setWidth 32).toNat : Int) := by
  rw [wide8 x, xor32]

theorem not32 (c : BitVec 32) : bits BinOp.xor IntKind.u32 IntKind.u32.max (c.toNat : Int) = ((~~~ c).toNat : Int) := by
  rw [show IntKind.u32.max = ((BitVec.allOnes 32).toNat : Int) from rfl, xor32, BitVec.allOnes_xor]

set_option maxHeartbeats 400000 in
theorem of_any (A : Option Addr) (n cap : Nat) (l : List (BitVec 8)) (w : World) (hn : n ≤ maxLen) (h : Has w A n l) :
    Calls Tryz.prog 160 #[.slice A n cap] w fun e w' => e = .returned (.int .u32 ((Crc.sum l).toNat : Int)) ∧ w = w' := by
  unfold maxLen at hn
  go_enter Tryz.func160, Tryz.ntmps160
  go_wp2
  go_loop [3, 8] (fun v i => ∃ k : Nat, k ≤ n ∧ i = .int .i64 k ∧ v = .int .u32 ((Crc.fold Crc.ones (l.take k)).toNat : Int)) (fun _ i => n - (RowKit.intOf i).toNat)
  case atStart => exact ⟨0, Nat.zero_le _, rfl, rfl⟩
  case round =>
    obtain ⟨k, hk, rfl, rfl⟩ := hrel
    have HL := Lib.hid h.1
    by_cases hlt : k < n
    · obtain ⟨b, off, rfl⟩ := h.some_ (by omega)
      have hkl : k < l.length := by rw [h.1]; exact hlt
      have hc : w.cell? ⟨b, off + k, none⟩ = some (.int .u8 (l[k].toNat : Int)) := h.cell k hlt
      have HS := Lib.hid (Crc.fold_take Crc.ones l k hkl)
      clear h
      go_wp2_with (go_at_call 162; rw [byte_arg]; refine (divide_any _ _).mono ?_; rintro e w' ⟨rfl, rfl⟩)
      go_round
      case rel => exact ⟨k + 1, by omega, by go_num, by rw [HS.out]; rfl⟩
      case measure => simp [RowKit.intOf]; omega
    · have e : k = n := by omega
      subst e
      clear h
      go_wp2
      go_ret
      exact ⟨by rw [List.take_of_length_le (by rw [HL.out]; omega), not32]; rfl, rfl⟩
end Go.Proofs.YtplmdmchkaacoaaGreat.L9

/-
  THE WALK OF THE DOCUMENT'S OWN SUM.
-/
namespace Go.Proofs.YtplmdmchkaacoaaGreat.L9
set_option maxRecDepth 100000
open Go.RowKit
set_option linter.unusedVariables false

theorem top32 (d : BitVec 32) : (d.toNat : Int) / (2147483648 : Int) = if d.getLsbD 31 = true then 1 else 0 := by
  have hd := lt32 d
  have e : d.getLsbD 31 = decide (d.toNat / 2147483648 % 2 = 1) := by
    rw [BitVec.getLsbD, Nat.testBit_eq_decide_div_mod_eq]
  rw [e]
  by_cases h : d.toNat / 2147483648 % 2 = 1
  · simp only [h, decide_true, if_true]; omega
  · simp only [h, decide_false, Bool.false_eq_true, if_false]; omega
theorem bit_of {m : Nat} (x : BitVec m) (k : Nat) : (x.toNat : Int) / (2 : Int) ^ k % (2 : Int) = if x.getLsbD k = true then 1 else 0 := by
  have e : x.getLsbD k = decide (x.toNat / 2 ^ k % 2 = 1) := by
    rw [BitVec.getLsbD, Nat.testBit_eq_decide_div_mod_eq]
  have c : (x.toNat : Int) / (2 : Int) ^ k % (2 : Int) = ((x.toNat / 2 ^ k % 2 : Nat) : Int) := by
    rw [Int.natCast_emod, Int.natCast_ediv, Int.natCast_pow]; rfl
  rw [c, e]
  by_cases h : x.toNat / 2 ^ k % 2 = 1
  · simp [h]
  · have : x.toNat / 2 ^ k % 2 = 0 := by omega
    simp [this]
theorem twice32 (d : BitVec 32) : (d.toNat : Int) * (2 : Int) % (4294967296 : Int) = ((d <<< 1).toNat : Int) := by
  rw [BitVec.toNat_shiftLeft, Nat.shiftLeft_eq]
  omega
theorem rstep_yes (d : BitVec 32) (x : BitVec 8) (k : Nat) (h : ((d.toNat : Int) / (2147483648 : Int) != (x.toNat : Int) / (2 : Int) ^ k % (2 : Int)) = true) :
    bits BinOp.xor IntKind.u32 ((d.toNat : Int) * (2 : Int) % (4294967296 : Int)) 79764919 = ((Crc.rstep d (x.getLsbD k)).toNat : Int) := by
  rw [top32, bit_of] at h
  have h0 : (d.getLsbD 31 ^^ x.getLsbD k) = true := by
    cases e1 : d.getLsbD 31 <;> cases e2 : x.getLsbD k <;> rw [e1, e2] at h <;> simp at h ⊢
  rw [twice32, show (79764919 : Int) = ((0x04C11DB7#32).toNat : Int) from rfl, xor32]
  unfold Crc.rstep
  rw [if_pos h0]
theorem rstep_no (d : BitVec 32) (x : BitVec 8) (k : Nat) (h : ((d.toNat : Int) / (2147483648 : Int) != (x.toNat : Int) / (2 : Int) ^ k % (2 : Int)) = false) :
    (d.toNat : Int) * (2 : Int) % (4294967296 : Int) = ((Crc.rstep d (x.getLsbD k)).toNat : Int) := by
  rw [top32, bit_of] at h
  have h0 : ¬ (d.getLsbD 31 ^^ x.getLsbD k) = true := by
    cases e1 : d.getLsbD 31 <;> cases e2 : x.getLsbD k <;> rw [e1, e2] at h <;> simp at h ⊢
  rw [twice32]
  unfold Crc.rstep
  rw [if_neg h0]
theorem turn_step (t r : BitVec 32) (j : Nat) : bits BinOp.or IntKind.u32 ((t.toNat : Int) * (2 : Int) % (4294967296 : Int)) (((r.toNat : Int) / (2 : Int) ^ j).tmod (2 : Int)) = (((t <<< 1) ||| (if r.getLsbD j = true then 1#32 else 0#32)).toNat : Int) := by
  have e : ((r.toNat : Int) / (2 : Int) ^ j).tmod (2 : Int) = ((if r.getLsbD j = true then 1#32 else 0#32).toNat : Int) := by
    rw [Int.tmod_eq_emod_of_nonneg (Int.ediv_nonneg (by omega) (Int.pow_nonneg (by omega))), bit_of]
    cases r.getLsbD j <;> rfl
  rw [e, twice32, or32]
theorem bitOf_at (l : List (BitVec 8)) (k : Nat) (h : k / 8 < l.length) : Crc.bitOf l k = l[k / 8].getLsbD (k % 8) := by
  unfold Crc.bitOf
  rw [List.getD_eq_getElem?_getD, List.getElem?_eq_getElem h]
  rfl
theorem rest_next (l : List (BitVec 8)) (k : Nat) (h : k / 8 < l.length) : Crc.rest l (k + 1) = Crc.rstep (Crc.rest l k) (l[k / 8].getLsbD (k % 8)) := by
  show Crc.rstep _ _ = _
  rw [bitOf_at l k h]

set_option maxHeartbeats 400000 in
theorem ref_any (A : Option Addr) (n cap : Nat) (l : List (BitVec 8)) (w : World) (hn : n ≤ 1000000) (h : Has w A n l) :
    Calls Tryz.prog 118 #[.slice A n cap] w fun e w' => e = .returned (.int .u32 ((Crc.sum l).toNat : Int)) ∧ w = w' := by
  go_enter Tryz.func118, Tryz.ntmps118
  go_wp2
  go_loop [3, 4] (fun v i => ∃ k : Nat, k ≤ n * 8 ∧ i = .int .i64 k ∧ v = .int .u32 ((Crc.rest l k).toNat : Int)) (fun _ i => n * 8 - (RowKit.intOf i).toNat)
  case atStart => exact ⟨0, Nat.zero_le _, rfl, rfl⟩
  case round =>
    obtain ⟨k, hk, rfl, rfl⟩ := hrel
    have HL := Lib.hid h.1
    have hd := lt32 (Crc.rest l k)
    by_cases hlt : k < n * 8
    · obtain ⟨b, off, rfl⟩ := h.some_ (by omega)
      have hkl : k / 8 < l.length := by rw [h.1]; omega
      have hc : w.cell? ⟨b, off + k / 8, none⟩ = some (.int .u8 (l[k / 8].toNat : Int)) := h.cell (k / 8) (by omega)
      clear h
      have hx := lt8 l[k / 8]
      have HR := Lib.hid (rest_next l k hkl)
      go_wp2
      · go_round
        case rel => exact ⟨k + 1, by omega, by go_num, by rw [HR.out]; exact congrArg _ (rstep_yes _ _ _ (by assumption))⟩
        case measure => simp [RowKit.intOf]; omega
      · go_round
        case rel => exact ⟨k + 1, by omega, by go_num, by rw [HR.out]; exact congrArg _ (rstep_no _ _ _ (by assumption))⟩
        case measure => simp [RowKit.intOf]; omega
    · have e : k = n * 8 := by omega
      subst e
      clear h
      go_wp2
      have HF := Lib.hid (Crc.ref_sum l)
      obtain ⟨r, hr⟩ : ∃ r, r = Crc.rest l (n * 8) := ⟨_, rfl⟩
      rw [← hr] at hd ⊢
      have HR := Lib.hid hr
      clear hr
      go_loop [7, 8] (fun v i => ∃ j : Nat, j ≤ 32 ∧ i = .int .i64 j ∧ v = .int .u32 ((Crc.turned r j).toNat : Int)) (fun _ i => 32 - (RowKit.intOf i).toNat)
      case atStart => exact ⟨0, Nat.zero_le _, rfl, rfl⟩
      case round =>
        obtain ⟨j, hj, rfl, rfl⟩ := hrel
        have hd := lt32 (Crc.turned r j)
        by_cases hlt : j < 32
        · go_wp2
          go_round
          case rel => exact ⟨j + 1, by omega, by go_num, congrArg _ (turn_step _ _ _)⟩
          case measure => simp [RowKit.intOf]; omega
        · have e : j = 32 := by omega
          subst e
          go_wp2
          go_ret
          refine ⟨congrArg (fun z => Ending.returned (.int .u32 z)) ?_, rfl⟩
          rw [← HF.out, HL.out, Nat.mul_comm, ← HR.out, show (4294967295 : Int) = (Crc.ones.toNat : Int) from rfl, xor32]

end Go.Proofs.YtplmdmchkaacoaaGreat.L9
