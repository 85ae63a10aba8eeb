/-
  TEXTS JOINED: L9Par, L9Parse, L9Decode, L9Tells, L9Same, L9ReadAt.
-/
import Derived.Test.YtplmdmchkaacoaaGreatJ35
import Derived.Test.YtplmdmchkaacoaaGreatJ20
import Derived.Test.YtplmdmchkaacoaaGreatJ22
import Derived.Deep.CutRange
import Derived.Deep.CutBlock
import Derived.Deep.DeepCutAuto
import Derived.Test.YtplmdmchkaacoaaGreatJ36

/-
  THE WALK OF note.parse: the numbers of bytes, and the entries.
-/
namespace Go.Proofs.YtplmdmchkaacoaaGreat.L9
open Go.RowKit
set_option linter.unusedVariables false
set_option maxRecDepth 100000


section
variable {w0 w w' : World} {B g D P R : Nat} {L : List (BitVec 8)} {i j : Nat}
variable {q n : Nat} {z : Int} {X Y : List En}
end
theorem flat_zero (n : Nat) : flat (List.replicate n ⟨0, 0⟩) = List.replicate (n * 2) (.int .i64 0) := by
  induction n with
  | zero => rfl
  | succ n ih =>
    rw [List.replicate_succ, flat_cons, ih, show (n + 1) * 2 = n * 2 + 1 + 1 by omega, List.replicate_succ, List.replicate_succ]
    rfl
theorem made_zero (n : Nat) : (madeCells (Value.agg #[.int .i64 0, .int .i64 0]).cells (n * 2)).toList = flat (List.replicate n ⟨0, 0⟩) := by
  rw [flat_zero]
  apply List.ext_getElem
  · simp [madeCells]
  · intro i h1 h2
    simp only [madeCells, Array.toList_map, List.getElem_map, List.getElem_replicate]
    have e : ∀ m, m < 2 → ((Value.agg #[.int .i64 0, .int .i64 0]).cells)[m]! = .int .i64 0 := by
      intro m hm
      match m, hm with
      | 0, _ => rfl
      | 1, _ => rfl
    exact e _ (Nat.mod_lt _ (by show 0 < 2; omega))
theorem flat_set0 : ∀ (X : List En) (k y : Nat) (h : k < X.length), (flat X).set (k * 2) (.int .i64 (y : Int)) = flat (X.set k ⟨y, X[k].b⟩)
  | x :: X, 0, y, h => by simp [flat, En.cs]
  | x :: X, k + 1, y, h => by
    rw [flat_cons, List.set_append_right _ _ (by rw [cs_len]; omega), cs_len, show (k + 1) * 2 - 2 = k * 2 by omega, flat_set0 X k y (by simpa using h), List.set_cons_succ, flat_cons]
    rfl
theorem flat_set1 : ∀ (X : List En) (k y : Nat) (h : k < X.length), (flat X).set (k * 2 + 1) (.int .i64 (y : Int)) = flat (X.set k ⟨X[k].k, y⟩)
  | x :: X, 0, y, h => by simp [flat, En.cs]
  | x :: X, k + 1, y, h => by
    rw [flat_cons, List.set_append_right _ _ (by rw [cs_len]; omega), cs_len, show (k + 1) * 2 + 1 - 2 = k * 2 + 1 by omega, flat_set1 X k y (by simpa using h), List.set_cons_succ, flat_cons]
    rfl
/-- The row when k entries are read. -/
def rowE (L : List (BitVec 8)) (n k : Nat) : List En := enUpto L k ++ List.replicate (n - k) ⟨0, 0⟩
/-- The row in the midst of a round. -/
def rowM (L : List (BitVec 8)) (n k : Nat) : List En := enUpto L k ++ ⟨fld L (11 + 5 * k) 1, 0⟩ :: List.replicate (n - (k + 1)) ⟨0, 0⟩
theorem rowE_zero (L : List (BitVec 8)) (n : Nat) : rowE L n 0 = List.replicate n ⟨0, 0⟩ := by simp [rowE, enUpto]
theorem rowE_all (L : List (BitVec 8)) (n : Nat) : rowE L n n = enUpto L n := by simp [rowE]
theorem rowE_len (L : List (BitVec 8)) (n k : Nat) (h : k ≤ n) : (rowE L n k).length = n := by simp [rowE, enUpto_len]; omega
theorem rowM_len (L : List (BitVec 8)) (n k : Nat) (h : k < n) : (rowM L n k).length = n := by simp [rowM, enUpto_len]; omega
theorem rowE_form (L : List (BitVec 8)) (n k : Nat) (h : k < n) : rowE L n k = enUpto L k ++ ⟨0, 0⟩ :: List.replicate (n - (k + 1)) ⟨0, 0⟩ := by
  unfold rowE
  rw [show n - k = (n - (k + 1)) + 1 by omega, List.replicate_succ]
theorem rowE_set (L : List (BitVec 8)) (n k : Nat) (h : k < n) : (flat (rowE L n k)).toArray.setIfInBounds (k * 2) (.int .i64 ((fld L (11 + 5 * k) 1 : Nat) : Int)) = (flat (rowM L n k)).toArray := by
  rw [List.setIfInBounds_toArray, flat_set0 _ _ _ (by rw [rowE_len L n k (by omega)]; exact h)]
  congr 2
  have e : (rowE L n k)[k]'(by rw [rowE_len L n k (by omega)]; exact h) = ⟨0, 0⟩ := by
    simp only [rowE_form L n k h]
    rw [List.getElem_append_right (by rw [enUpto_len]; omega)]
    simp [enUpto_len]
  rw [e, rowE_form L n k h, List.set_append_right _ _ (by rw [enUpto_len]; omega), enUpto_len, Nat.sub_self]
  rfl
theorem rowM_set (L : List (BitVec 8)) (n k : Nat) (h : k < n) : (flat (rowM L n k)).toArray.setIfInBounds (k * 2 + 1) (.int .i64 ((fld L (12 + 5 * k) 4 : Nat) : Int)) = (flat (rowE L n (k + 1))).toArray := by
  rw [List.setIfInBounds_toArray, flat_set1 _ _ _ (by rw [rowM_len L n k h]; exact h)]
  congr 2
  have e : (rowM L n k)[k]'(by rw [rowM_len L n k h]; exact h) = ⟨fld L (11 + 5 * k) 1, 0⟩ := by
    simp only [rowM]
    rw [List.getElem_append_right (by rw [enUpto_len]; omega)]
    simp [enUpto_len]
  rw [e]
  unfold rowM rowE
  rw [List.set_append_right _ _ (by rw [enUpto_len]; omega), enUpto_len, Nat.sub_self, enUpto_next, List.append_assoc]
  rfl
theorem row_ers {w : World} {R n : Nat} {X : List En} (h : At w R (flat X).toArray 73) (hn : X.length = n) : Ers w (some ⟨R, 0, none⟩) n X := by
  refine ⟨hn, fun _ => ⟨R, 0, rfl, h.lt, fun k hk => ?_⟩⟩
  have e : ∀ j, j < 2 → w.cell? ⟨R, k * 2 + j, none⟩ = X[k].cs[j]? := by
    intro j hj
    rw [h.cell, List.getElem?_toArray, flat_get X k hk j hj]
  rw [Nat.zero_add]
  exact ⟨e 0 (by omega), e 1 (by omega)⟩

/-- 'make([]Entry, n)' as one operation. -/
theorem wp_make_ent {w : World} {o : Oper} {a : Act} {K : Act → World → Prop} {Q : Exit → Act → World → Prop} (l c : Operand) (ho : o.op = .makeSlice 64 l c) (n : Nat) (hl : a.eval l = .int .i64 (n : Int)) (hc : a.eval c = .int .i64 (n : Int)) (hn : n ≤ 1000000)
    (h : ∀ w', At w' w.heap.size (flat (List.replicate n ⟨0, 0⟩)).toArray 73 → Below w.heap.size w w' → K (a.put o.dst (.slice (some ⟨w.heap.size, 0, none⟩) n n)) w') : Oper.wp Tryz.prog o a w K Q := by
  obtain ⟨i0, hi, hz0, hz1, hz2⟩ := info_parts ent_info
  obtain ⟨w', hrun, r1, r2⟩ := run_make_full (P := Tryz.prog) w w.heap.size 64 73 i0 _ 2 Tryz.underlying64 hi hz0 hz1 .i64 .i64 n (by rw [hz2]; omega) (by unfold maxLen; omega) (Nat.le_refl _)
  unfold Oper.wp
  simp [execOp, ho, hl, hc, hrun, Result.andThen]
  refine h w' ?_ ((Below.refl _ _).grown r2 (Nat.le_refl _) (by simp))
  rw [made_zero] at r1
  rcases r1.2 with ⟨e, _⟩ | ⟨g, cap, cur, e, _, hh, _, _, hs, ht⟩
  · cases e
  · injection e with e1 _ e2
    injection e1 with e1
    injection e1 with e1
    subst e1 e2
    unfold At
    rw [hh, ← ht, List.take_of_length_le (by simp [hs]), Array.toArray_toList]
end Go.Proofs.YtplmdmchkaacoaaGreat.L9

/-
  THE WALK OF note.parse.
-/
namespace Go.Proofs.YtplmdmchkaacoaaGreat.L9
open Go.RowKit
set_option linter.unusedVariables false
set_option maxRecDepth 100000


def Parsed (w : World) (L : List (BitVec 8)) (n : Nat) (e : Ending) (w' : World) : Prop :=
  ∃ A, e = .returned (.tuple #[.int .u64 ((fld L 0 1 : Nat) : Int), .agg #[.int .u64 ((fld L 1 8 : Nat) : Int), .int .i64 ((fld L 9 2 : Int) - 1), .slice A n n]]) ∧ Ers w' A n (enUpto L n) ∧ (∀ x, A = some x → w.heap.size ≤ x.block) ∧ Below w.heap.size w w'

theorem row_some (X : List En) (o : Nat) (h : o < X.length * 2) : ∃ v, (flat X).toArray[o]? = some v := by
  rw [List.getElem?_toArray]
  exact ⟨_, List.getElem?_eq_getElem (by rw [flat_len]; exact h)⟩
end Go.Proofs.YtplmdmchkaacoaaGreat.L9

/-
  THE WALK OF note.Decode: any bytes, any number of slots.
-/
namespace Go.Proofs.YtplmdmchkaacoaaGreat.L9
open Go.RowKit
set_option linter.unusedVariables false
set_option maxRecDepth 100000


/-- A note, and an error's number; its row lies in memory. -/
def Answer (w : World) (d : Nt × Nat) (e : Ending) (w' : World) : Prop :=
  ∃ A c, e = .returned (.tuple #[.agg #[.int .u64 (d.1.q : Int), .int .i64 d.1.z, .slice A d.1.es.length c], .int .i64 (d.2 : Int)]) ∧ Ers w' A d.1.es.length d.1.es ∧ Below w.heap.size w w'
theorem fail_made {w w1 w2 : World} {k : Nat} (hr : At w2 w.heap.size #[.int .u64 0, .int .i64 0, .slice none 0 0] 66) (hb : Below w.heap.size w w2) : Answer w (Nt.zero, k) (.returned (.tuple #[.agg #[.int .u64 0, .int .i64 0, .slice none 0 0], .int .i64 (k : Int)])) w2 :=
  ⟨none, 0, rfl, Ers.nil _ _, hb⟩

/-- The answer's block is there. -/
structure Dcs (w0 w : World) : Prop where
  res : At w w0.heap.size #[.int .u64 0, .int .i64 0, .slice none 0 0] 66
  bel : Below w0.heap.size w0 w
theorem Dcs.start (w : World) : Dcs w (w.alloc (.cells #[.int .u64 0, .int .i64 0, .slice none 0 0] 66)) := ⟨At.new _ _ rfl, (Below.refl _ _).alloc (Nat.le_refl _) _⟩
theorem Dcs.up {w0 w w' : World} (h : Dcs w0 w) (hb : Below w.heap.size w w') : Dcs w0 w' := ⟨h.res.below hb h.res.lt, h.bel.trans (hb.mono h.bel.size)⟩
theorem Dcs.done {w0 w w' : World} (h : Dcs w0 w) (hb : But (fun k => k = w0.heap.size) w w') : Below w0.heap.size w0 w' := h.bel.trans (hb.below (fun k e => by omega) h.bel.size)

theorem up {B : Nat} {w w' : World} (h : Below B w w') (hB : w.heap.size = B) : B ≤ w'.heap.size := by have := h.size; omega

end Go.Proofs.YtplmdmchkaacoaaGreat.L9

/-
  THE WALK OF Tells: a note's bytes, as the document has them.
-/
namespace Go.Proofs.YtplmdmchkaacoaaGreat.L9
open Go.RowKit
set_option linter.unusedVariables false
set_option maxRecDepth 100000

/-- 'append' of bytes to a row of the call's own, as one operation. -/
theorem wp_append_has {w : World} {o : Oper} {a : Act} {K : Act → World → Prop} {Q : Exit → Act → World → Prop} (s x : Operand)
    (ho : o.op = .call { callee := .builtin .append, args := #[s, x], argTypes := #[57, 57] }) (base : Nat) (v : Value) (n : Nat) (l : List (BitVec 8)) (hs : a.eval s = v) (hown : w.ownsRow base 5 1 v n (l.map val))
    (S : Addr) (m c : Nat) (k : List (BitVec 8)) (hx : a.eval x = .slice (some S) m c) (hk : Has w (some S) m k) (hm : n + m ≤ 100000000) (hbase : base ≤ w.heap.size)
    (h : ∀ A cap w', w'.ownsRow base 5 1 (.slice A (n + m) cap) (n + m) ((l ++ k).map val) → w.grownBy w' v.ownBlock → (∀ g, (Value.slice A (n + m) cap).ownBlock = some g → v.ownBlock = some g ∨ w.heap.size ≤ g) → K (a.put o.dst (.slice A (n + m) cap)) w') :
    Oper.wp Tryz.prog o a w K Q := by
  obtain ⟨i0, hi, hz0, hz1, hz2⟩ := info_parts byte_info
  obtain ⟨v', w', hr, h2, h3, h4, h5⟩ := run_append_own_at (P := Tryz.prog) w base 57 o.type 5 i0 _ 1 1 Tryz.underlying57 hi hz0 hz1 hz2 rfl (by decide) v n (l.map val) hown S m c (k.map val) (by simp [hk.1]) hk.cells (val_one k) (by unfold maxLen; omega) (by omega) hbase
  obtain ⟨A, cap, rfl⟩ : ∃ A cap, v' = .slice A (n + m) cap := by
    rcases h2.2 with ⟨rfl, e⟩ | ⟨g, cap, cur, rfl, _⟩
    · exact ⟨none, 0, by rw [e]⟩
    · exact ⟨_, cap, rfl⟩
  unfold Oper.wp execOp
  simp only [ho, resolve, invoke, builtin, Sem.run_bind, Sem.run_pure, Result.andThen_ok, List.map_toArray, List.map_cons, List.map_nil, hs, hx, hr]
  refine h A cap w' (by rw [List.map_append]; exact h2) h3 (fun g hg => ?_)
  rcases h5 with e | e
  · exact .inl (by rw [← e]; exact hg)
  · rw [e] at hg
    injection hg with hg
    exact .inr (by omega)

/-- The note in the first block; a row of the call's own that holds L. -/
structure Tel (w0 w : World) (cs : Array Value) (v : Value) (L : List (BitVec 8)) : Prop where
  box : At w w0.heap.size cs 66
  own : w.ownsRow (w0.heap.size + 1) 5 1 v L.length (L.map val)
  bel : Below w0.heap.size w0 w
theorem Tel.up {w0 w w' : World} {cs : Array Value} {v : Value} {L : List (BitVec 8)} (h : Tel w0 w cs v L) (hb : Below w.heap.size w w') : Tel w0 w' cs v L :=
  ⟨h.box.below hb h.box.lt, own_below h.own hb, h.bel.trans (hb.mono h.bel.size)⟩
theorem Tel.drew {w0 w : World} {cs : Array Value} {v : Value} {L : List (BitVec 8)} (h : Tel w0 w cs v L) : Tel w0 w.drew cs v L := ⟨h.box, h.own, below_drewN h.bel 1⟩
theorem Tel.base {w0 w : World} {cs : Array Value} {v : Value} {L : List (BitVec 8)} (h : Tel w0 w cs v L) : w0.heap.size + 1 ≤ w.heap.size := h.box.lt
theorem Tel.grow {w0 w w' : World} {cs : Array Value} {v v' : Value} {L M : List (BitVec 8)} {n : Nat} (h : Tel w0 w cs v L) (hown : w'.ownsRow (w0.heap.size + 1) 5 1 v' n (M.map val)) (hg : w.grownBy w' v.ownBlock) : Tel w0 w' cs v' M := by
  have lo : ∀ k, v.ownBlock = some k → w0.heap.size + 1 ≤ k := fun k hk => (h.own.lt k hk).1
  have bt : But (fun k => v.ownBlock = some k) w w' := (But.refl _ _).grown hg (fun k hk _ => hk)
  have hn : M.length = n := by have := hown.1; simpa using this
  exact ⟨h.box.but bt (fun e => by have := lo _ e; omega), by rw [hn]; exact hown, h.bel.trans (bt.below (fun k e => by have := lo k e; omega) (by have := h.base; omega))⟩
/-- What grows leaves other blocks as they were. -/
theorem Tel.keep {w0 w w' : World} {cs xs : Array Value} {v : Value} {L : List (BitVec 8)} {g : Nat} {t : TypeId} (h : Tel w0 w cs v L) (hg : w.grownBy w' v.ownBlock) (ha : At w g xs t) (hn : v.ownBlock ≠ some g) : At w' g xs t :=
  ha.but (S := fun k => v.ownBlock = some k) ((But.refl _ _).grown hg (fun k hk _ => hk)) hn
/-- Another row of the call's own, in its place. -/
theorem Tel.other {w0 w w' : World} {cs : Array Value} {v v' : Value} {L M : List (BitVec 8)} {n : Nat} (h : Tel w0 w cs v L) (hf : Fresh w n M v' w') : Tel w0 w' cs v' M := by
  have hn : M.length = n := by have := hf.1.1; simpa using this
  have h1 := h.up hf.2
  exact ⟨h1.box, by rw [hn]; exact own_base hf.1 (fun k hk => by have := (hf.1.lt k hk).1; have := h.base; omega), h1.bel⟩
theorem own_len {w : World} {base n m : Nat} {v : Value} {L : List (BitVec 8)} (h : w.ownsRow base 5 1 v n (L.map val)) (e : L.length = m) : w.ownsRow base 5 1 v m (L.map val) := by
  have := h.1
  simp at this
  have e2 : n = m := by omega
  rw [← e2]
  exact h
theorem val_byte (N : Nat) (h : N < 256) : val (byteAt N 0) = .int .u8 (N : Int) := by
  unfold val byteAt
  rw [BitVec.toNat_ofNat]
  congr 1
  simp
  omega
theorem one_byte {w : World} {k : Nat} (hk : k < 256) : Has (w.alloc (.cells #[.int .u8 (k : Int)] 5)) (some ⟨w.heap.size, 0, none⟩) 1 (low k 1) := by
  refine Has.of_block (cs := #[.int .u8 (k : Int)]) (heap_alloc_new w _) rfl fun j hj => ?_
  have hj' : j < 1 := hj
  match j, hj' with
  | 0, _ => exact (congrArg some (val_byte k hk)).symm
theorem own_byte {w : World} {k : Nat} (hk : k < 256) : (w.alloc (.cells #[.int .u8 (k : Int)] 5)).ownsRow w.heap.size 5 1 (.slice (some ⟨w.heap.size, 0, none⟩) 1 1) 1 ((low k 1).map val) := by
  refine own_of_row (l := low k 1) ?_ rfl (by unfold maxLen; omega) (Nat.le_refl _)
  rw [heap_alloc_new]
  show _ = some (Obj.cells #[val (byteAt k 0)] 5 (0, 0))
  rw [val_byte k hk]
theorem wrap8 {N : Nat} (h : N < 256) : IntKind.u8.wrap (N : Int) = (N : Int) := by
  simp [IntKind.wrap, IntKind.signed, IntKind.bits]
  omega
theorem one_nought (w : World) : Has (w.alloc (.cells #[.int .u8 0] 5)) (some ⟨w.heap.size, 0, none⟩) 1 [0#8] :=
  Has.of_block (cs := #[.int .u8 0]) (heap_alloc_new w _) rfl fun j hj => by
    have hj' : j < 1 := hj
    match j, hj' with
    | 0, _ => rfl
def lenV : Value → Nat
  | .slice _ n _ => n
  | _ => 0
theorem fill_next (L : List (BitVec 8)) (j : Nat) (h : L.length ≤ j) : pad L j ++ [0#8] = pad L (j + 1) := by
  unfold pad
  rw [List.append_assoc, show j + 1 - L.length = (j - L.length) + 1 by omega, List.replicate_succ']
theorem some_of {w : World} {A : Option Addr} {n : Nat} {l : List (BitVec 8)} (h : Has w A n l) (hn : 0 < n) : ∃ S, A = some S := by
  obtain ⟨b, o, e⟩ := h.some_ hn
  exact ⟨_, e⟩


end Go.Proofs.YtplmdmchkaacoaaGreat.L9

/-
  THE WALKS OF Same AND Awake.
-/
namespace Go.Proofs.YtplmdmchkaacoaaGreat.L9
open Go.RowKit
set_option linter.unusedVariables false
set_option maxRecDepth 100000


set_option maxHeartbeats 800000 in
theorem same_any (q q' : Nat) (z z' : Int) (A B : Option Addr) (n m c d : Nat) (es fs : List En) (w : World) (hn : n ≤ 1000000) (hm : m ≤ 1000000) (h : Ers w A n es) (g : Ers w B m fs) :
    Calls Tryz.prog 26 #[.agg #[.int .u64 (q : Int), .int .i64 z, .slice A n c], .agg #[.int .u64 (q' : Int), .int .i64 z', .slice B m d]] w (Said ((⟨q, z, es⟩ : Nt) = ⟨q', z', fs⟩) w) := by
  have H := Lib.hid ((h.alloc (.cells #[.int .u64 (q : Int), .int .i64 z, .slice A n c] 66)).alloc (.cells #[.int .u64 (q' : Int), .int .i64 z', .slice B m d] 66))
  have G := Lib.hid ((g.alloc (.cells #[.int .u64 (q : Int), .int .i64 z, .slice A n c] 66)).alloc (.cells #[.int .u64 (q' : Int), .int .i64 z', .slice B m d] 66))
  have BB := Lib.hid (((Below.refl w.heap.size w).alloc (Nat.le_refl _) (.cells #[.int .u64 (q : Int), .int .i64 z, .slice A n c] 66)).alloc (by simp) (.cells #[.int .u64 (q' : Int), .int .i64 z', .slice B m d] 66))
  clear h g
  by_cases hq : q = q'
  · subst hq
    by_cases hz : z = z'
    · subst hz
      go_enter Tryz.func26, Tryz.ntmps26
      go_wp2_with fail
      refine (eequal_any A B n m c d es fs _ hn hm H.out G.out).mono ?_
      rintro e w1 ⟨b, rfl, hb, k, hw⟩
      have HB := Lib.hid hb
      have BB := Lib.hid (show Below w.heap.size w w1 by rw [hw]; exact below_drewN BB.out k)
      clear hb hw
      go_wp2
      go_ret
      refine ⟨b, rfl, ⟨fun e => by rw [HB.out.1 e], fun e => HB.out.2 (by injection e)⟩, BB.out⟩
    · have hd : (z == z') = false := by simpa using hz
      have HZ := Lib.hid hz
      clear hz
      go_enter Tryz.func26, Tryz.ntmps26
      go_wp2
      go_ret
      exact ⟨false, by simp_all, ⟨fun e => (by cases e), fun e => (HZ.out (by injection e)).elim⟩, BB.out⟩
  · have hd : ((q : Int) == (q' : Int)) = false := by simpa using (fun e : (q : Int) = (q' : Int) => hq (by omega))
    have HQ := Lib.hid hq
    clear hq
    go_enter Tryz.func26, Tryz.ntmps26
    go_wp2
    go_ret
    exact ⟨false, by simp_all, ⟨fun e => (by cases e), fun e => (HQ.out (by injection e)).elim⟩, BB.out⟩

end Go.Proofs.YtplmdmchkaacoaaGreat.L9

/-
  THE WALK OF Reads' CLOSURE: the number of some bytes.
-/
namespace Go.Proofs.YtplmdmchkaacoaaGreat.L9
open Go.RowKit
set_option linter.unusedVariables false
set_option maxRecDepth 100000

theorem num_step (L : List (BitVec 8)) (i s j : Nat) (hj : j + 1 ≤ s) (h : i + j < L.length) : num ((L.drop (i + j)).take (s - j)) = num ((L.drop (i + (j + 1))).take (s - (j + 1))) * 256 + L[i + j].toNat := by
  rw [List.drop_eq_getElem_cons h, show s - j = (s - (j + 1)) + 1 by omega, List.take_succ_cons]
  simp only [num]
  rw [show i + j + 1 = i + (j + 1) by omega]
  omega

set_option maxHeartbeats 400000 in
theorem at_any (bx : Nat) (A : Option Addr) (n c : Nat) (L : List (BitVec 8)) (i s : Nat) (w : World) (hn : n ≤ 1000000) (hs : s ≤ 8) (his : i + s ≤ n) (hbx : At w bx #[.slice A n c] 57) (h : Has w A n L) :
    Calls Tryz.prog 72 #[.int .i64 i, .int .i64 s, .pointer (some ⟨bx, 0, none⟩)] w fun e w' => e = .returned (.int .u64 (fld L i s : Nat)) ∧ w = w' := by
  have hc0 := hbx.cell 0
  have H := Lib.hid h
  have HL := Lib.hid h.1
  clear h hbx
  go_enter Tryz.func72, Tryz.ntmps72
  go_wp2
  go_loop [6, 7] (fun v kk => ∃ (j y : Nat) (z : Int), j ≤ s ∧ z + 1 = (j : Int) ∧ kk = .int .i64 z ∧ v = .int .u64 (y : Int) ∧ y < 18446744073709551616 ∧ Hid (y = num ((L.drop (i + j)).take (s - j)))) (fun _ kk => (RowKit.intOf kk + 1).toNat)
  case atStart => exact ⟨s, 0, (s : Int) - 1, Nat.le_refl _, by omega, rfl, rfl, by omega, Lib.hid (by simp [num])⟩
  case round =>
    obtain ⟨j, y, z, hj, hz, rfl, rfl, hy, HY⟩ := hrel
    by_cases hlt : j = 0
    · subst hlt
      obtain rfl : z = -1 := by omega
      go_wp2
      go_ret
      refine ⟨?_, rfl⟩
      rw [HY.out]
      rfl
    · obtain ⟨q, rfl⟩ : ∃ q, j = q + 1 := ⟨j - 1, by omega⟩
      obtain rfl : z = (q : Int) := by omega
      obtain ⟨b, off, rfl⟩ := H.out.some_ (by omega)
      have hq : i + q < L.length := by rw [HL.out]; omega
      have hc : w.cell? ⟨b, off + (i + q), none⟩ = some (.int .u8 (L[i + q].toNat : Int)) := H.out.cell (i + q) (by omega)
      have hx := lt8 L[i + q]
      have HS := Lib.hid (num_step L i s q hj hq)
      have hyb : y < 72057594037927936 := by
        rw [HY.out]
        refine Nat.lt_of_lt_of_le (num_take_lt _ _) ?_
        exact Nat.le_trans (Nat.pow_le_pow_right (by omega) (show s - (q + 1) ≤ 7 by omega)) (by decide)
      generalize hX : L[i + q].toNat = X at hc hx HS
      clear hX hz
      go_wp2
      refine ⟨⟨q, y * 256 + X, (q : Int) - 1, by omega, by omega, rfl, by simp, by omega, Lib.hid ?_⟩, ?_⟩
      · rw [HS.out, ← HY.out]
      · simp [RowKit.intOf]
end Go.Proofs.YtplmdmchkaacoaaGreat.L9
