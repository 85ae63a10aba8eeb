/-
  TEXTS JOINED: L13Set, L13Put.
-/
import Derived.Test.YtplmdmchkaacoaaGreatJ24
import Derived.Test.YtplmdmchkaacoaaGreatJ20
import Derived.Test.YtplmdmchkaacoaaGreatJ22
import Derived.Deep.CutRange

/-
  THE WALKS OF blank, pageOf, Set.
-/
namespace Go.Proofs.YtplmdmchkaacoaaGreat.L13
open Go.RowKit
set_option linter.unusedVariables false
set_option maxRecDepth 100000


/-- The cells of a page of which k are written. -/
def half (k : Nat) : List Int := List.replicate k (-1) ++ List.replicate (16 - k) 0
theorem half_len {k : Nat} (h : k ≤ 16) : (half k).length = 16 := by simp [half]; omega
theorem half_next {k : Nat} (h : k < 16) : (ints (half k)).set k (.int .i64 (-1)) = ints (half (k + 1)) := by
  apply List.ext_getElem?
  intro j
  unfold ints half
  rw [List.getElem?_set]
  simp only [List.length_map, List.length_append, List.length_replicate, List.getElem?_map]
  by_cases e : k = j
  · subst e
    rw [if_pos rfl, if_pos (by omega), List.getElem?_append_left (by simp), List.getElem?_replicate, if_pos (by omega)]
    rfl
  · rw [if_neg e]
    rcases Nat.lt_or_ge j k with h1 | h1
    · rw [List.getElem?_append_left (by simpa using h1), List.getElem?_append_left (by simp; omega), List.getElem?_replicate, List.getElem?_replicate, if_pos h1, if_pos (by omega)]
    · rw [List.getElem?_append_right (by simpa using h1), List.getElem?_append_right (by simp; omega), List.getElem?_replicate, List.getElem?_replicate]
      simp only [List.length_replicate]
      by_cases h2 : j < 16
      · rw [if_pos (by omega), if_pos (by omega)]
      · rw [if_neg (by omega), if_neg (by omega)]
theorem half_full : half 16 = List.replicate 16 (-1) := rfl
theorem half_zero : (ints (half 0)).toArray = #[.int .i64 0, .int .i64 0, .int .i64 0, .int .i64 0, .int .i64 0, .int .i64 0, .int .i64 0, .int .i64 0, .int .i64 0, .int .i64 0, .int .i64 0, .int .i64 0, .int .i64 0, .int .i64 0, .int .i64 0, .int .i64 0] := rfl

set_option maxHeartbeats 800000 in
theorem blank_any (w : World) : Calls Tryz.prog 161 #[] w fun e w' => ∃ p, e = .returned (.pointer (some ⟨p, 0, none⟩)) ∧ w.heap.size ≤ p ∧ At w' p (ints (List.replicate 16 (-1))).toArray 216 ∧ Below w.heap.size w w' := by
  go_enter Tryz.func161, Tryz.ntmps161
  go_wp2_with fail
  go_loopg [2, 3] 16 (fun gg _ s3 wr => ∃ k : Nat, k ≤ 16 ∧ 16 - k ≤ gg ∧ s3 = .int .i64 (k : Int) ∧ At wr w.heap.size (ints (half k)).toArray 216 ∧ Below w.heap.size w wr)
  case atStart => exact ⟨0, by omega, by omega, rfl, At.new _ _ rfl, (Below.refl _ _).alloc (Nat.le_refl _) _⟩
  case round =>
    obtain ⟨k, hk0, hgg, rfl, hat, hB⟩ := hrel
    by_cases hlt : k < 16
    · have AT := Lib.hid hat
      have BW := Lib.hid hB
      obtain ⟨u, hu⟩ : ∃ u, (ints (half k)).toArray[k]? = some u := ⟨_, Array.getElem?_eq_getElem (by rw [List.size_toArray, ints_len, half_len hk0]; exact hlt)⟩
      have c1 := (hat.cell k).trans hu
      have f1 := hat.frozen k
      have N1 := hat.set k (.int .i64 (-1))
      rw [List.setIfInBounds_toArray, half_next hlt] at N1
      have NW := Lib.hid N1
      have B2 := Lib.hid (((But.refl (fun k => k = w.heap.size) wr).setCell (p := ⟨w.heap.size, k, none⟩) (fun _ => rfl) (.int .i64 (-1))))
      clear hat hB hu N1
      go_wp2
      go_roundg (16 - (k + 1))
      case measure => omega
      case rel => exact ⟨k + 1, by omega, Nat.le_refl _, by go_num, NW.out, BW.out.trans (B2.out.below (fun k e => Nat.le_of_eq e.symm) BW.out.size)⟩
    · obtain rfl : k = 16 := by omega
      go_wp2
      go_ret
      exact ⟨_, rfl, Nat.le_refl _, hat, hB⟩

theorem pg_blank {V : Nat → Int} {i : Nat} (h : ∀ j, j < 16 → V (i * 16 + j) = -1) : pg V i = List.replicate 16 (-1) := by
  apply List.ext_getElem
  · simp [pg]
  · intro j h1 h2
    rw [pg_len] at h1
    rw [List.getElem_replicate]
    simp [pg, h j h1]

/-- A page more: the row's pointer set. -/
theorem Lq.more {w w1 : World} {g r n : Nat} {Q : List (Option Nat)} {V : Nat → Int} (h : Lq w g r n Q V) {i p : Nat} (hi : Q[i]? = some none) (hp : w.heap.size ≤ p) (hat : At w1 p (ints (List.replicate 16 (-1))).toArray 216) (hb : Below w.heap.size w w1) :
    Lq (w1.setCell ⟨r, i, none⟩ (.pointer (some ⟨p, 0, none⟩))) g r n (Q.set i (some p)) V := by
  have il : i < Q.length := by rw [List.getElem?_eq_some_iff] at hi; exact hi.1
  have h1 := h.below hb
  have rl := h.row.lt
  have hget : ∀ (j q : Nat), (Q.set i (some p))[j]? = some (some q) → (j = i ∧ q = p) ∨ (j ≠ i ∧ Q[j]? = some (some q)) := by
    intro j q hq
    rw [List.getElem?_set] at hq
    by_cases e : i = j
    · rw [if_pos e, if_pos il] at hq
      injection hq with hq
      injection hq with hq
      exact .inl ⟨e.symm, hq.symm⟩
    · rw [if_neg e] at hq
      exact .inr ⟨fun x => e x.symm, hq⟩
  refine ⟨?_, ?_, by rw [List.length_set]; exact h.len, h.few, ?_, ?_, ?_, h.off, h.low⟩
  · rw [List.length_set]
    exact h1.box.other (p := ⟨r, i, none⟩) (fun e => h.ne e.symm) _
  · have := h1.row.set i (.pointer (some ⟨p, 0, none⟩))
    rw [List.setIfInBounds_toArray] at this
    rw [List.map_set]
    exact this
  · intro j q hq
    rcases hget j q hq with ⟨rfl, rfl⟩ | ⟨_, hq⟩
    · rw [pg_blank (h.blank _ hi)]
      exact hat.other (p := ⟨r, j, none⟩) (fun e => by have e : r = q := e; omega) _
    · exact (h1.page j q hq).other (p := ⟨r, i, none⟩) (fun e => h.ner hq e.symm) _
  · intro j hj k hk
    rw [List.getElem?_set] at hj
    by_cases e : i = j
    · rw [if_pos e, if_pos il] at hj
      cases hj
    · rw [if_neg e] at hj
      exact h.blank j hj k hk
  · intro a b q ha hb
    have hlt : ∀ j, Q[j]? = some (some q) → q < w.heap.size := fun j hj => (h.page j q hj).lt
    rcases hget a q ha with ⟨e1, e2⟩ | ⟨_, ha2⟩
    · rcases hget b q hb with ⟨e3, _⟩ | ⟨_, hb2⟩
      · rw [e1, e3]
      · have := hlt b hb2; omega
    · rcases hget b q hb with ⟨e3, e4⟩ | ⟨_, hb2⟩
      · have := hlt a ha2; omega
      · exact h.apart a b q ha2 hb2

set_option maxHeartbeats 1600000 in
theorem pageOf_any {w : World} {g r n k : Nat} {Q : List (Option Nat)} {V : Nat → Int} (hk : k < n) (h : Lq w g r n Q V) : Calls Tryz.prog 158 #[.pointer (some ⟨g, 0, none⟩), .int .i64 (k : Int)] w fun e w' =>
    ∃ p Q', e = .returned (.pointer (some ⟨p, 0, none⟩)) ∧ Q'[k / 16]? = some (some p) ∧ Lq w' g r n Q' V ∧ But (fun b => b = r) w w' ∧ (Q' = Q ∨ (Q[k / 16]? = some none ∧ w.heap.size ≤ p ∧ Q' = Q.set (k / 16) (some p))) := by
  have H := Lib.hid h
  have c1 := h.box.cell 1
  have hl := h.few
  have hq := h.nth hk
  obtain ⟨q, hqq⟩ : ∃ q, Q[k / 16]? = some q := ⟨_, List.getElem?_eq_getElem hq⟩
  have d0 := h.cell hqq
  have K16 := Lib.hid (show (k : Int) / 16 = ((k / 16 : Nat) : Int) by omega)
  clear h
  cases q with
  | some p =>
    have d1 : w.cell? ⟨r, k / 16, none⟩ = some (.pointer (some ⟨p, 0, none⟩)) := d0
    clear d0
    have QQ := Lib.hid hqq
    clear hqq
    generalize hQL : Q.length = m at *
    go_enter Tryz.func158, Tryz.ntmps158
    go_wp2
    go_ret
    exact ⟨p, Q, rfl, QQ.out, H.out, But.refl _ _, .inl rfl⟩
  | none =>
    have d1 : w.cell? ⟨r, k / 16, none⟩ = some (.pointer none) := d0
    clear d0
    have QQ := Lib.hid hqq
    clear hqq
    generalize hQL : Q.length = m at *
    go_enter Tryz.func158, Tryz.ntmps158
    go_wp2_with fail
    refine wp_region_early (fun w' => w'.cell? ⟨g, 1, none⟩ = some (.slice (some ⟨r, 0, none⟩) m m)) (fun i => i != 7) rfl ?_
    simp only [List.size_toArray, List.length_cons, List.length_nil]
    have S0 : (fun w' : World => w'.cell? ⟨g, 1, none⟩ = some (.slice (some ⟨r, 0, none⟩) m m)) w := c1
    refine early_take (i := 0) 16 (.pointer (some ⟨g, 0, none⟩)) rfl rfl (by kernel_rfl) (by kernel_rfl) (by kernel_rfl) (by kernel_rfl) rfl (fun _ _ _ h => h) (fun w' hw' => by go_simp) S0 ?_
    simp only [Act.put, List.setIfInBounds_toArray, List.set_cons_zero, List.set_cons_succ]
    refine early_take (i := 1) 17 (.pointer (some ⟨g, 0, none⟩)) rfl rfl (by kernel_rfl) (by kernel_rfl) (by kernel_rfl) (by kernel_rfl) rfl (fun _ _ _ h => h) (fun w' hw' => by go_simp) S0 ?_
    simp only [Act.put, List.setIfInBounds_toArray, List.set_cons_zero, List.set_cons_succ]
    refine early_take (i := 2) 18 (.pointer (some ⟨g, 1, none⟩)) rfl rfl (by kernel_rfl) (by kernel_rfl) (by kernel_rfl) (by kernel_rfl) rfl (fun _ _ _ h => h) (fun w' hw' => by go_simp) S0 ?_
    simp only [Act.put, List.setIfInBounds_toArray, List.set_cons_zero, List.set_cons_succ]
    refine early_take (i := 3) 19 (.slice (some ⟨r, 0, none⟩) m m) rfl rfl (by kernel_rfl) (by kernel_rfl) (by kernel_rfl) (by kernel_rfl) rfl (fun _ _ _ h => h) (fun w' hw' => by go_simp) S0 ?_
    simp only [Act.put, List.setIfInBounds_toArray, List.set_cons_zero, List.set_cons_succ]
    refine early_take (i := 4) 20 (.int .i64 ((k : Int) / 16)) rfl rfl (by kernel_rfl) (by kernel_rfl) (by kernel_rfl) (by kernel_rfl) rfl (fun _ _ _ h => h) (fun w' hw' => by go_simp) S0 ?_
    simp only [Act.put, List.setIfInBounds_toArray, List.set_cons_zero, List.set_cons_succ]
    refine early_only (i := 5) (by kernel_rfl) rfl (fun K hK => ?_)
    simp only [opWp, List.getElem?_toArray, List.getElem?_cons_succ, List.getElem?_cons_zero]
    go_simp
    go_at_call 161
    refine (blank_any _).mono ?_
    rintro e w1 ⟨p, rfl, hp, hat, hb0⟩
    have hb : Below w.heap.size w w1 := ⟨hb0.os, hb0.tape, hb0.output, hb0.size, hb0.block⟩
    have PL := Lib.hid (show w.heap.size ≤ p from hp)
    have S1 : (fun w' : World => w'.cell? ⟨g, 1, none⟩ = some (.slice (some ⟨r, 0, none⟩) m m)) w1 := (hb.cell (p := ⟨g, 1, none⟩) H.out.box.lt).trans c1
    have e1 : w1.cell? ⟨r, k / 16, none⟩ = some (.pointer none) := (hb.cell (p := ⟨r, k / 16, none⟩) H.out.row.lt).trans d1
    have f1 : w1.frozen? ⟨r, k / 16, none⟩ = false := At.frozen (H.out.below hb).row (k / 16)
    have M := Lib.hid (H.out.more QQ.out hp hat hb)
    have HR := Lib.hid (show w.heap.size ≤ w1.heap.size from hb.size)
    have BB := Lib.hid (((But.of_below (S := fun b => b = r) hb).setCell (p := ⟨r, k / 16, none⟩) (fun _ => rfl) (.pointer (some ⟨p, 0, none⟩))))
    clear hp hat hb hb0 S0
    refine hK _ _ (fun _ => S1) ?_
    refine early_take (i := 6) 22 (.pointer (some ⟨r, k / 16, none⟩)) rfl rfl (by kernel_rfl) (by kernel_rfl) (by kernel_rfl) (by kernel_rfl) rfl (fun _ _ _ h => h) (fun w' hw' => by go_simp; rw [if_pos (by omega), show ((k : Int) / 16).toNat = k / 16 by omega]) S1 ?_
    simp only [Act.put, List.setIfInBounds_toArray, List.set_cons_zero, List.set_cons_succ]
    refine early_only (i := 7) (by kernel_rfl) rfl (fun K hK => ?_)
    simp only [opWp, List.getElem?_toArray, List.getElem?_cons_succ, List.getElem?_cons_zero]
    go_simp
    refine hK _ _ (fun h => by simp at h) ?_
    refine early_done (by kernel_rfl) ?_
    have g1 : (w1.setCell ⟨r, k / 16, none⟩ (.pointer (some ⟨p, 0, none⟩))).cell? ⟨g, 1, none⟩ = some (.slice (some ⟨r, 0, none⟩) m m) := by
      have := M.out.box.cell 1
      rw [List.length_set, hQL] at this
      exact this
    have QG : (Q.set (k / 16) (some p))[k / 16]? = some (some p) := by rw [List.getElem?_set, if_pos rfl, if_pos (by omega)]
    have g2 : (w1.setCell ⟨r, k / 16, none⟩ (.pointer (some ⟨p, 0, none⟩))).cell? ⟨r, k / 16, none⟩ = some (.pointer (some ⟨p, 0, none⟩)) := M.out.cell QG
    have QH := Lib.hid QG
    clear hK S1 c1 d1 e1 f1 QG
    generalize (w1.setCell ⟨r, k / 16, none⟩ (.pointer (some ⟨p, 0, none⟩))) = w2 at *
    go_wp2
    go_ret
    exact ⟨p, _, rfl, QH.out, M.out, BB.out, .inr ⟨QQ.out, PL.out, rfl⟩⟩
end Go.Proofs.YtplmdmchkaacoaaGreat.L13

/-
  Set, whatever block and place; a map as a whole: its blocks' places and its pages.
-/
namespace Go.Proofs.YtplmdmchkaacoaaGreat.L13
open Go.RowKit
set_option linter.unusedVariables false
set_option maxRecDepth 100000


/-- Block k lies at v from now on. -/
def setN (V : Nat → Int) (k : Nat) (v : Int) : Nat → Int := fun j => if j = k then v else V j
theorem setN_same (V : Nat → Int) (k : Nat) (v : Int) : setN V k v k = v := if_pos rfl
theorem setN_other (V : Nat → Int) {k j : Nat} (v : Int) (h : j ≠ k) : setN V k v j = V j := if_neg h
theorem setN_self {V : Nat → Int} {k : Nat} {v : Int} (h : V k = v) : setN V k v = V := by
  funext j
  unfold setN
  split
  · rename_i e; rw [e, h]
  · rfl
theorem pg_set (V : Nat → Int) (k : Nat) (v : Int) : (ints (pg V (k / 16))).set (k % 16) (.int .i64 v) = ints (pg (setN V k v) (k / 16)) := by
  apply List.ext_getElem?
  intro j
  rw [List.getElem?_set]
  by_cases h : j < 16
  · rw [pg_get _ _ h, pg_get _ _ h, ints_len, pg_len]
    by_cases e : k % 16 = j
    · rw [if_pos e, if_pos (by omega), show k / 16 * 16 + j = k by omega, setN_same]
    · rw [if_neg e, setN_other V v (by omega)]
  · rw [if_neg (by omega), List.getElem?_eq_none (by rw [ints_len, pg_len]; omega), List.getElem?_eq_none (by rw [ints_len, pg_len]; omega)]
theorem pg_other (V : Nat → Int) {k i : Nat} (v : Int) (h : i ≠ k / 16) : pg (setN V k v) i = pg V i := by
  unfold pg
  refine List.map_congr_left (fun j hj => ?_)
  rw [List.mem_range] at hj
  exact setN_other V v (by omega)
theorem Lq.put {w : World} {g r n : Nat} {Q : List (Option Nat)} {V : Nat → Int} (h : Lq w g r n Q V) {k p : Nat} {v : Int} (hk : k < n) (hp : Q[k / 16]? = some (some p)) (hv : -1 ≤ v ∧ v ≤ 9223372036854775807) :
    Lq (w.setCell ⟨p, k % 16, none⟩ (.int .i64 v)) g r n Q (setN V k v) := by
  refine ⟨h.box.other (p := ⟨p, k % 16, none⟩) (h.neg hp) _, h.row.other (p := ⟨p, k % 16, none⟩) (h.ner hp) _, h.len, h.few, ?_, ?_, h.apart, ?_, ?_⟩
  · intro i q hq
    by_cases e : i = k / 16
    · subst e
      rw [hp] at hq
      injection hq with hq
      injection hq with hq
      subst hq
      have := (h.page _ _ hp).set (k % 16) (.int .i64 v)
      rw [List.setIfInBounds_toArray, pg_set] at this
      exact this
    · rw [pg_other V v e]
      exact (h.page i q hq).other (p := ⟨p, k % 16, none⟩) (fun e2 => e (h.apart i (k / 16) q hq (by rw [show q = p from e2.symm]; exact hp))) _
  · intro i hi j hj
    rw [setN_other V v]
    · exact h.blank i hi j hj
    · intro e
      have : i = k / 16 := by omega
      rw [this, hp] at hi
      cases hi
  · intro j hj
    rw [setN_other V v (by omega)]
    exact h.off j hj
  · intro j
    unfold setN
    split
    · exact hv
    · exact h.low j

/-- Block i is set. -/
def setI (n : Nat) (V : Nat → Int) (i v : Int) : Nat → Int := if Has_ n i then setN V i.toNat (max v (-1)) else V
theorem setI_in {n k : Nat} (V : Nat → Int) (v : Int) (h : k < n) : setI n V (k : Int) v = setN V k (max v (-1)) := by
  unfold setI
  rw [if_pos ⟨by omega, by omega⟩]
  simp
theorem setI_off {n : Nat} (V : Nat → Int) {i : Int} (v : Int) (h : ¬ Has_ n i) : setI n V i v = V := if_neg h
/-- Page j is made. -/
def made (Q : List (Option Nat)) (j : Nat) : Bool := match Q[j]? with | some (some _) => true | _ => false
theorem made_yes {Q : List (Option Nat)} {j p : Nat} (h : Q[j]? = some (some p)) : made Q j = true := by
  unfold made
  rw [h]
theorem made_no {Q : List (Option Nat)} {j : Nat} (h : Q[j]? = some none) : made Q j = false := by
  unfold made
  rw [h]
/-- The pages that are made when block i is set. -/
def setP (n : Nat) (A : Nat → Bool) (i v : Int) : Nat → Bool := fun j => A j || decide (Has_ n i ∧ 0 ≤ v ∧ j = i.toNat / 16)
theorem setP_none {n : Nat} (A : Nat → Bool) {i v : Int} (h : ¬ (Has_ n i ∧ 0 ≤ v)) : setP n A i v = A := by
  funext j
  unfold setP
  rw [decide_eq_false (fun ⟨a, b, _⟩ => h ⟨a, b⟩), Bool.or_false]
theorem setP_was {n k : Nat} (A : Nat → Bool) (v : Int) (h : A (k / 16) = true) : setP n A (k : Int) v = A := by
  funext j
  unfold setP
  by_cases e : j = k / 16
  · subst e
    rw [h, Bool.true_or]
  · rw [decide_eq_false (fun ⟨_, _, c⟩ => e (by simpa using c)), Bool.or_false]
theorem setP_new {n k p : Nat} {Q : List (Option Nat)} (v : Int) (hk : k < n) (hv : 0 ≤ v) (h : k / 16 < Q.length) : made (Q.set (k / 16) (some p)) = setP n (made Q) (k : Int) v := by
  funext j
  unfold setP
  by_cases e : j = k / 16
  · rw [decide_eq_true ⟨⟨by omega, by omega⟩, hv, by simpa using e⟩, Bool.or_true]
    refine made_yes (p := p) ?_
    rw [List.getElem?_set, if_pos e.symm, if_pos h]
  · rw [decide_eq_false (fun ⟨_, _, c⟩ => e (by simpa using c)), Bool.or_false]
    unfold made
    rw [List.getElem?_set, if_neg (fun x => e x.symm)]

/-- A map at block g: n blocks, block k lies at V k, page j is made if A j; all its blocks are T's. -/
def Lm (w : World) (T : Nat → Prop) (g n : Nat) (V : Nat → Int) (A : Nat → Bool) : Prop := ∃ r Q, Lq w g r n Q V ∧ (∀ k, Mine g r Q k → T k) ∧ made Q = A
section
variable {w w' : World} {T S : Nat → Prop} {g n : Nat} {V : Nat → Int} {A : Nat → Bool}
theorem Lm.but (h : Lm w T g n V A) (hb : But S w w') (hn : ∀ k, T k → ¬ S k) : Lm w' T g n V A := by
  obtain ⟨r, Q, hl, ht, ha⟩ := h
  exact ⟨r, Q, hl.but hb (fun k hk => hn k (ht k hk)), ht, ha⟩
theorem Lm.below (h : Lm w T g n V A) (hb : Below w.heap.size w w') : Lm w' T g n V A := by
  obtain ⟨r, Q, hl, ht, ha⟩ := h
  exact ⟨r, Q, hl.below hb, ht, ha⟩
theorem Lm.mono {U : Nat → Prop} (h : Lm w T g n V A) (hu : ∀ k, T k → U k) : Lm w U g n V A := by
  obtain ⟨r, Q, hl, ht, ha⟩ := h
  exact ⟨r, Q, hl, fun k hk => hu k (ht k hk), ha⟩
theorem Lm.few (h : Lm w T g n V A) : n ≤ 1048576 := by
  obtain ⟨r, Q, hl, _⟩ := h
  exact hl.few
theorem Lm.low (h : Lm w T g n V A) (k : Nat) : -1 ≤ V k ∧ V k ≤ 9223372036854775807 := by
  obtain ⟨r, Q, hl, _⟩ := h
  exact hl.low k
theorem Lm.off (h : Lm w T g n V A) {k : Nat} (hk : n ≤ k) : V k = -1 := by
  obtain ⟨r, Q, hl, _⟩ := h
  exact hl.off k hk
end

section
variable {w : World} {g r n : Nat} {Q : List (Option Nat)} {V : Nat → Int}
set_option maxHeartbeats 1600000 in
theorem setq_any (i v : Int) (hv : -9223372036854775808 ≤ v ∧ v ≤ 9223372036854775807) (h : Lq w g r n Q V) : Calls Tryz.prog 144 #[.pointer (some ⟨g, 0, none⟩), .int .i64 i, .int .i64 v] w fun e w' =>
    e = .returned (.int .i64 (lies n V i)) ∧ ∃ Q', Lq w' g r n Q' (setI n V i v) ∧ (∀ k, Mine g r Q' k → Mine g r Q k ∨ w.heap.size ≤ k) ∧ made Q' = setP n (made Q) i v ∧ But (Mine g r Q) w w' := by
  have H := Lib.hid h
  clear h
  go_enter Tryz.func144, Tryz.ntmps144
  go_wp2_with fail
  refine (get_any i H.out).mono ?_
  rintro e w1 ⟨rfl, hw1⟩
  subst hw1
  go_wp2_with fail
  refine (has_any i H.out).mono ?_
  rintro e w2 ⟨rfl, hw2⟩
  subst hw2
  by_cases hi : Has_ n i
  · have hd : decide (Has_ n i) = true := by simpa using hi
    rw [hd]
    obtain ⟨k, rfl⟩ : ∃ k : Nat, i = (k : Int) := ⟨i.toNat, by have := hi.1; omega⟩
    have hk : k < n := by have := hi.2; omega
    have L := Lib.hid (lies_in V hk)
    have SI := Lib.hid (setI_in V v hk)
    have HI := Lib.hid hi
    clear hi hd
    obtain ⟨M, hM⟩ : ∃ M, M = max v (-1) := ⟨_, rfl⟩
    have hmax := fun (w : World) => run_max2 (P := Tryz.prog) w #[3, 3] 3 v (-1) M hM
    have HM := Lib.hid hM
    have ML := Lib.hid (show -1 ≤ M ∧ M ≤ 9223372036854775807 by omega)
    obtain ⟨b, hb⟩ : ∃ b, lies n V (k : Int) = b := ⟨_, rfl⟩
    have VK := Lib.hid (show V k = b from L.out.symm.trans hb)
    clear L
    have L := Lib.hid hb
    rw [hb]
    clear hM hb
    by_cases h0 : 0 ≤ v
    · have BV := Lib.hid h0
      go_wp2_with fail
      refine (pageOf_any hk H.out).mono ?_
      rintro e w3 ⟨p, Q2, rfl, hp, hl, hb, hc⟩
      have L3 := Lib.hid hl
      have P3 := Lib.hid hp
      have B3 := Lib.hid hb
      have C3 := Lib.hid hc
      obtain ⟨u, hu⟩ : ∃ u, w3.cell? ⟨p, k % 16, none⟩ = some u := ⟨_, hl.place hp (by omega)⟩
      have f3 : w3.frozen? ⟨p, k % 16, none⟩ = false := At.frozen (hl.page _ _ hp) (k % 16)
      clear hp hl hb hc
      go_wp2_with fail
      go_ret
      have N3 := L3.out.put hk P3.out ML.out
      have PM : Mine g r Q2 p := .inr (.inr ⟨_, P3.out⟩)
      refine ⟨by rw [L.out]; rfl, Q2, by rw [SI.out, ← HM.out]; exact N3, ?_, ?_, ?_⟩
      · intro b hb
        rcases C3.out with rfl | ⟨_, hpl, rfl⟩
        · exact .inl hb
        · rcases hb with rfl | rfl | ⟨j, hj⟩
          · exact .inl (.inl rfl)
          · exact .inl (.inr (.inl rfl))
          · rw [List.getElem?_set] at hj
            by_cases e : k / 16 = j
            · rw [if_pos e] at hj
              split at hj
              · injection hj with hj
                injection hj with hj
                subst hj
                exact .inr hpl
              · cases hj
            · rw [if_neg e] at hj
              exact .inl (.inr (.inr ⟨j, hj⟩))
      · rcases C3.out with rfl | ⟨hq, _, rfl⟩
        · exact (setP_was _ v (made_yes P3.out)).symm
        · exact setP_new v hk BV.out (H.out.nth hk)
      · refine (B3.out.mono (T := Mine g r Q) (fun b e _ => .inr (.inl e))).setCell (p := ⟨p, k % 16, none⟩) (fun hlt => ?_) _
        rcases C3.out with rfl | ⟨_, hpl, _⟩
        · exact PM
        · have hlt : p < w2.heap.size := hlt
          omega
    · have BV := Lib.hid h0
      by_cases hb : b = -1
      · have VB := Lib.hid (show V k = -1 by rw [VK.out, hb])
        subst hb
        go_wp2_with fail
        go_ret
        exact ⟨by rw [L.out]; rfl, Q, by rw [SI.out, setN_self (by rw [VB.out]; have := BV.out; omega)]; exact H.out, fun k hk => .inl hk, (setP_none _ (fun c => absurd c.2 (by have := BV.out; omega))).symm, But.refl _ _⟩
      · have HB := Lib.hid hb
        have hd0 : decide (0 ≤ v) = false := by simpa using h0
        have hb1 : (b != -1) = true := by simpa using hb
        clear h0 hb
        go_wp2_with fail
        refine (pageOf_any hk H.out).mono ?_
        rintro e w3 ⟨p, Q2, rfl, hp, hl, hb, hc⟩
        have L3 := Lib.hid hl
        have P3 := Lib.hid hp
        have B3 := Lib.hid hb
        have C3 := Lib.hid hc
        obtain ⟨u, hu⟩ : ∃ u, w3.cell? ⟨p, k % 16, none⟩ = some u := ⟨_, hl.place hp (by omega)⟩
        have f3 : w3.frozen? ⟨p, k % 16, none⟩ = false := At.frozen (hl.page _ _ hp) (k % 16)
        clear hp hl hb hc
        go_wp2_with fail
        go_ret
        have N3 := L3.out.put hk P3.out ML.out
        have PM : Mine g r Q2 p := .inr (.inr ⟨_, P3.out⟩)
        refine ⟨by rw [L.out]; rfl, Q2, by rw [SI.out, ← HM.out]; exact N3, ?_, ?_, ?_⟩
        · intro b hb
          rcases C3.out with rfl | ⟨_, hpl, rfl⟩
          · exact .inl hb
          · rcases hb with rfl | rfl | ⟨j, hj⟩
            · exact .inl (.inl rfl)
            · exact .inl (.inr (.inl rfl))
            · rw [List.getElem?_set] at hj
              by_cases e : k / 16 = j
              · rw [if_pos e] at hj
                split at hj
                · injection hj with hj
                  injection hj with hj
                  subst hj
                  exact .inr hpl
                · cases hj
              · rw [if_neg e] at hj
                exact .inl (.inr (.inr ⟨j, hj⟩))
        · rcases C3.out with rfl | ⟨hq, _, rfl⟩
          · exact (setP_was _ v (made_yes P3.out)).symm
          · have := H.out.blank _ hq (k % 16) (by omega)
            rw [show k / 16 * 16 + k % 16 = k by omega, VK.out] at this
            exact absurd this HB.out
        · refine (B3.out.mono (T := Mine g r Q) (fun b e _ => .inr (.inl e))).setCell (p := ⟨p, k % 16, none⟩) (fun hlt => ?_) _
          rcases C3.out with rfl | ⟨_, hpl, _⟩
          · exact PM
          · have hlt : p < w2.heap.size := hlt
            omega
  · have hd : decide (Has_ n i) = false := by simpa using hi
    have L := Lib.hid (lies_off V hi)
    have SO := Lib.hid (setI_off V v hi)
    have SP := Lib.hid (setP_none (made Q) (v := v) (fun c => hi c.1))
    rw [hd]
    clear hi hd
    go_wp2
    go_ret
    exact ⟨rfl, Q, by rw [SO.out]; exact H.out, fun k hk => .inl hk, SP.out.symm, But.refl _ _⟩
end

section
variable {w : World} {T : Nat → Prop} {g n : Nat} {V : Nat → Int} {A : Nat → Bool}
theorem set_any (i v : Int) (hv : -9223372036854775808 ≤ v ∧ v ≤ 9223372036854775807) (h : Lm w T g n V A) : Calls Tryz.prog 144 #[.pointer (some ⟨g, 0, none⟩), .int .i64 i, .int .i64 v] w fun e w' =>
    e = .returned (.int .i64 (lies n V i)) ∧ ∃ T', (∀ k, T' k → T k ∨ w.heap.size ≤ k) ∧ Lm w' T' g n (setI n V i v) (setP n A i v) ∧ But T w w' := by
  obtain ⟨r, Q, hl, ht, rfl⟩ := h
  refine (setq_any i v hv hl).mono ?_
  rintro e w' ⟨rfl, Q', h1, h2, h3, h4⟩
  exact ⟨rfl, Mine g r Q', fun k hk => (h2 k hk).imp (ht k) id, ⟨r, Q', h1, fun k hk => hk, h3⟩, h4.mono (fun k hk _ => ht k hk)⟩
theorem geti_any (i : Int) (h : Lm w T g n V A) : Calls Tryz.prog 44 #[.pointer (some ⟨g, 0, none⟩), .int .i64 i] w fun e w' => e = .returned (.int .i64 (lies n V i)) ∧ w' = w := by
  obtain ⟨r, Q, hl, ht, rfl⟩ := h
  exact get_any i hl
theorem leng_any (h : Lm w T g n V A) : Calls Tryz.prog 142 #[.pointer (some ⟨g, 0, none⟩)] w fun e w' => e = .returned (.int .i64 (n : Int)) ∧ w' = w := by
  obtain ⟨r, Q, hl, ht, rfl⟩ := h
  exact len_any hl
end
end Go.Proofs.YtplmdmchkaacoaaGreat.L13
