/-
  TEXTS JOINED: L12Foot, L12Part, L12Tab, L12Early, L12Calls.
-/
import Derived.Test.YtplmdmchkaacoaaGreatRows
import Derived.Test.YtplmdmchkaacoaaGreatJ20
import Derived.Test.YtplmdmchkaacoaaGreatJ22
import Derived.WalkKit
import Derived.ProofKit
import Derived.Laws.OwnMore
import Derived.Laws.Rows
import Derived.Deep.Draws
import Derived.Below
import Derived.Lib.Hide
import Derived.Lib.SliceRun
import Derived.Deep.QuietTactic
import Derived.Deep.AppendLies
import Derived.Maps.AppendAt
import Derived.Laws.AppendOwnNone
import Derived.Lib.QuietBelow
import Derived.BigQuiet
import Derived.Deep.MidRow
import Derived.Deep.WholeRow
import Derived.Laws.ResultCell
import Derived.Laws.StructEq
import Derived.OrdersHeld
import Derived.Deep.CutRange

/-
  WHAT A CALL MAY TURN: only the blocks that a set names, of those that were there; a block of its own.
-/
namespace Go.Proofs.YtplmdmchkaacoaaGreat.L12
set_option maxRecDepth 100000
open Go.RowKit
set_option linter.unusedVariables false

section
variable {S T : Nat → Prop} {a b c w w' : World}

end

theorem up {B : Nat} {w w' : World} (hb : Below w.heap.size w w') (hB : w.heap.size = B) : B ≤ w'.heap.size := by have := hb.size; omega
theorem below_drewN {B : Nat} {w w' : World} (h : Below B w w') (n : Nat) : Below B w (w'.drewN n) := ⟨h.os, h.tape, h.output, h.size, h.block⟩

end Go.Proofs.YtplmdmchkaacoaaGreat.L12

/-
  STRUCTS OF SEVERAL CELLS, stored into a block, loaded out of it.
-/
namespace Go.Proofs.YtplmdmchkaacoaaGreat.L12
open Go.RowKit
set_option linter.unusedVariables false
set_option maxRecDepth 100000

end Go.Proofs.YtplmdmchkaacoaaGreat.L12

/-
  SEGMENTS, ROWS OF THEM, TABLES in memory.
-/
namespace Go.Proofs.YtplmdmchkaacoaaGreat.L12
open Go.RowKit
set_option linter.unusedVariables false
set_option maxRecDepth 100000


/-- A segment: its state, how many live in it, the number with which it was sealed. -/
structure Sg where
  st : Int
  lv : Int
  bo : Int
def Sg.zero : Sg := ⟨0, 0, 0⟩
def Sg.cs (x : Sg) : List Value := [.int .i64 x.st, .int .i64 x.lv, .int .u64 x.bo]
/-- The cells, as the model writes them. -/
abbrev Sg.ag (x : Sg) : Array Value := #[.int .i64 x.st, .int .i64 x.lv, .int .u64 x.bo]
def flat (L : List Sg) : List Value := L.flatMap Sg.cs
theorem flat_nil : flat [] = [] := rfl
theorem flat_cons (x : Sg) (L : List Sg) : flat (x :: L) = x.cs ++ flat L := by simp [flat]
theorem flat_append (L M : List Sg) : flat (L ++ M) = flat L ++ flat M := by simp [flat]
theorem cs_len (x : Sg) : x.cs.length = 3 := rfl
theorem flat_len : ∀ L : List Sg, (flat L).length = L.length * 3
  | [] => rfl
  | x :: L => by rw [flat_cons, List.length_append, flat_len L, cs_len, List.length_cons]; omega
theorem flat_get : ∀ (L : List Sg) (i : Nat) (h : i < L.length) (j : Nat), j < 3 → (flat L)[i * 3 + j]? = L[i].cs[j]?
  | x :: L, 0, _, j, hj => by
    rw [flat_cons, List.getElem?_append_left (by rw [cs_len]; omega)]
    simp
  | x :: L, i + 1, h, j, hj => by
    rw [flat_cons, List.getElem?_append_right (by rw [cs_len]; omega), cs_len, show (i + 1) * 3 + j - 3 = i * 3 + j by omega]
    exact flat_get L i (by simpa using h) j hj
theorem cs_one (x : Sg) : ∀ u ∈ x.cs, u.oneCell' = true := by
  intro u hu
  simp [Sg.cs] at hu
  rcases hu with rfl | rfl | rfl <;> rfl
theorem flat_one (L : List Sg) : ∀ u ∈ flat L, u.oneCell' = true := by
  intro u hu
  obtain ⟨x, _, hx⟩ := List.mem_flatMap.mp hu
  exact cs_one x u hx
theorem flat_put : ∀ (L : List Sg) (i : Nat) (h : i < L.length) (j : Nat) (v : Value) (y : Sg), j < 3 → L[i].cs.set j v = y.cs → (flat L).set (i * 3 + j) v = flat (L.set i y)
  | x :: L, 0, _, j, v, y, hj, e => by
    rw [flat_cons, List.set_cons_zero, flat_cons, Nat.zero_mul, Nat.zero_add, List.set_append_left _ _ (by rw [cs_len]; omega)]
    rw [show x.cs.set j v = y.cs from e]
  | x :: L, i + 1, h, j, v, y, hj, e => by
    rw [flat_cons, List.set_cons_succ, flat_cons, List.set_append_right _ _ (by rw [cs_len]; omega), cs_len, show (i + 1) * 3 + j - 3 = i * 3 + j by omega]
    rw [flat_put L i (by simpa using h) j v y hj (by simpa using e)]
theorem flat_whole : ∀ (L : List Sg) (i : Nat) (h : i < L.length) (y : Sg), (flat L).take (i * 3) ++ y.cs ++ (flat L).drop (i * 3 + 3) = flat (L.set i y)
  | x :: L, 0, _, y => by
    rw [flat_cons, List.set_cons_zero, flat_cons]
    simp [Sg.cs]
  | x :: L, i + 1, h, y => by
    rw [flat_cons, List.set_cons_succ, flat_cons, ← flat_whole L i (by simpa using h) y]
    rw [List.take_append, List.drop_append, List.take_of_length_le (by rw [cs_len]; omega), List.drop_of_length_le (by rw [cs_len]; omega), cs_len, show (i + 1) * 3 - 3 = i * 3 by omega, show (i + 1) * 3 + 3 - 3 = i * 3 + 3 by omega]
    simp
theorem ag_one (x : Sg) : x.ag.all (·.oneCell') = true := by simp [Value.oneCell']
theorem ag_list (x : Sg) : x.ag.toList = x.cs := rfl
theorem flat_part (L : List Sg) (i : Nat) (h : i < L.length) (y : Sg) : part (flat L).toArray (i * 3) y.ag = (flat (L.set i y)).toArray := by
  unfold part
  rw [← flat_whole L i h y]
  rfl
theorem part_whole (u v x : Value) (y : Sg) : part #[u, v, x] 0 y.ag = y.ag := rfl
theorem flat_zero (n : Nat) : (madeCells (Value.agg Sg.zero.ag).cells (n * 3)).toList = flat (List.replicate n Sg.zero) := by
  apply List.ext_getElem?
  intro k
  have hz : (Value.agg Sg.zero.ag).cells = Sg.zero.ag := rfl
  rw [hz]
  rcases Nat.lt_or_ge k (n * 3) with h | h
  · have e : k = k / 3 * 3 + k % 3 := by omega
    have h3 : k % 3 < 3 := by omega
    have hk : k / 3 < n := by omega
    have hl : (madeCells Sg.zero.ag (n * 3)).toList[k]? = some (Sg.zero.ag[k % 3]!) := by
      simp [madeCells, h]
    rw [hl]
    have hr : (flat (List.replicate n Sg.zero))[k]? = Sg.zero.cs[k % 3]? := by
      have h1 := flat_get (List.replicate n Sg.zero) (k / 3) (by simpa using hk) (k % 3) h3
      rw [← e] at h1
      rw [h1]
      simp
    rw [hr]
    generalize k % 3 = j at h3
    match j, h3 with
    | 0, _ => rfl
    | 1, _ => rfl
    | 2, _ => rfl
  · rw [List.getElem?_eq_none (by rw [Array.length_toList, size_madeCells]; exact h), List.getElem?_eq_none (by rw [flat_len]; simpa using h)]

theorem seg_size : (Tryz.prog.info? 108).map (·.size) = some 3 := by kernel_rfl
theorem seg_info : (Tryz.prog.info? 108).map (fun i => (i.zero, i.size, i.bytes)) = some (some (.agg #[.int .i64 0, .int .i64 0, .int .u64 0]), 3, 24) := by kernel_rfl
theorem int_info : (Tryz.prog.info? 3).map (fun i => (i.zero, i.size, i.bytes)) = some (some (.int .i64 0), 1, 8) := by kernel_rfl

/-- Block r holds the segments T. -/
def Rg (w : World) (r : Nat) (T : List Sg) : Prop := At w r (flat T).toArray 108
theorem Rg.cell {w : World} {r : Nat} {T : List Sg} (h : Rg w r T) {i : Nat} (hi : i < T.length) : ∀ j, j < 3 → w.cell? ⟨r, i * 3 + j, none⟩ = T[i].ag[j]? := by
  intro j hj
  rw [At.cell h, List.getElem?_toArray, flat_get T i hi j hj, ← ag_list]
  simp
theorem Rg.cells {w : World} {r : Nat} {T : List Sg} (h : Rg w r T) {i : Nat} (hi : i < T.length) : w.cell? ⟨r, i * 3, none⟩ = some (.int .i64 T[i].st) ∧ w.cell? ⟨r, i * 3 + 1, none⟩ = some (.int .i64 T[i].lv) ∧ w.cell? ⟨r, i * 3 + 2, none⟩ = some (.int .u64 T[i].bo) :=
  ⟨h.cell hi 0 (by omega), h.cell hi 1 (by omega), h.cell hi 2 (by omega)⟩
theorem Rg.but {w w' : World} {S : Nat → Prop} {r : Nat} {T : List Sg} (h : Rg w r T) (hb : But S w w') (hn : ¬ S r) : Rg w' r T := At.but h hb hn
theorem Rg.put {w : World} {r : Nat} {T : List Sg} (h : Rg w r T) {i : Nat} (hi : i < T.length) (j : Nat) (v : Value) (y : Sg) (hj : j < 3) (e : T[i].cs.set j v = y.cs) : Rg (w.setCell ⟨r, i * 3 + j, none⟩ v) r (T.set i y) := by
  have h1 := At.set h (i * 3 + j) v
  rw [List.setIfInBounds_toArray, flat_put T i hi j v y hj e] at h1
  exact h1

/-- A table at block g, whose segments T lie at block r. -/
structure Tb (w : World) (g r : Nat) (T : List Sg) : Prop where
  box : At w g #[.slice (some ⟨r, 0, none⟩) T.length T.length] 169
  row : Rg w r T
  few : T.length ≤ 65536
section
variable {w w' : World} {g r : Nat} {T : List Sg} {S : Nat → Prop}
theorem Tb.ne (h : Tb w g r T) : g ≠ r := by
  intro e
  subst e
  have h1 := h.box
  have h2 := h.row
  unfold Rg at h2
  unfold At at h1 h2
  rw [h1] at h2
  simp at h2
theorem Tb.but (h : Tb w g r T) (hb : But S w w') (hg : ¬ S g) (hr : ¬ S r) : Tb w' g r T := ⟨h.box.but hb hg, h.row.but hb hr, h.few⟩
theorem Tb.below (h : Tb w g r T) (hb : Below w.heap.size w w') : Tb w' g r T := h.but (S := fun _ => False) (But.of_below hb) (fun h => h) (fun h => h)
theorem Tb.drewN (h : Tb w g r T) (n : Nat) : Tb (w.drewN n) g r T := ⟨h.box, h.row, h.few⟩
theorem Tb.lt (h : Tb w g r T) : g < w.heap.size ∧ r < w.heap.size := ⟨h.box.lt, At.lt h.row⟩
/-- Behind a call that turned the segments alone. -/
theorem Tb.turn {T' : List Sg} (h : Tb w g r T) (hb : But (fun k => k = r) w w') (hr : Rg w' r T') (hl : T'.length = T.length) : Tb w' g r T' := by
  refine ⟨?_, hr, by rw [hl]; exact h.few⟩
  rw [hl]
  exact h.box.but hb h.ne
end

set_option maxHeartbeats 400000 in
theorem has_any {w : World} {g r : Nat} {T : List Sg} (i : Int) (h : Tb w g r T) : Calls Tryz.prog 107 #[.pointer (some ⟨g, 0, none⟩), .int .i64 i] w fun e w' => e = .returned (.bool (decide (0 ≤ i ∧ i < (T.length : Int)))) ∧ w' = w := by
  have c0 := h.box.cell 0
  have hl := h.few
  clear h
  by_cases h0 : 0 ≤ i
  · by_cases h1 : i < (T.length : Int)
    · have hd : decide (i < (T.length : Int)) = true := by simpa using h1
      have he : decide (0 ≤ i ∧ i < (T.length : Int)) = true := by simpa using ⟨h0, h1⟩
      rw [he]
      go_enter Tryz.func107, Tryz.ntmps107
      go_wp2
      go_ret
      exact ⟨rfl, rfl⟩
    · have he : decide (0 ≤ i ∧ i < (T.length : Int)) = false := by simp; omega
      rw [he]
      go_enter Tryz.func107, Tryz.ntmps107
      go_wp2
      go_ret
      exact ⟨rfl, rfl⟩
  · have he : decide (0 ≤ i ∧ i < (T.length : Int)) = false := by simp; omega
    rw [he]
    go_enter Tryz.func107, Tryz.ntmps107
    go_wp2
    go_ret
    exact ⟨rfl, rfl⟩
set_option maxHeartbeats 400000 in
theorem len_any {w : World} {g r : Nat} {T : List Sg} (h : Tb w g r T) : Calls Tryz.prog 53 #[.pointer (some ⟨g, 0, none⟩)] w fun e w' => e = .returned (.int .i64 (T.length : Int)) ∧ w' = w := by
  have c0 := h.box.cell 0
  have hl := h.few
  clear h
  go_enter Tryz.func53, Tryz.ntmps53
  go_wp2
  go_ret
  exact ⟨rfl, rfl⟩
end Go.Proofs.YtplmdmchkaacoaaGreat.L12

/-
  A REGION THAT DRAWS ITS ORDER AND ENDS IN A STORE TO A CELL THAT IT LOADS: the load may be taken first, if what it reads holds behind every operation that may come before it; of those that wait for the load (the store) nothing is asked.
-/
namespace Go.Proofs.YtplmdmchkaacoaaGreat.L12
set_option maxRecDepth 100000
open Go

section
variable {P : Program} {ops : Array Oper} {Q : Exit → Act → World → Prop} {md : Region.Mode} {S : World → Prop} {E : Nat → Bool}

end

end Go.Proofs.YtplmdmchkaacoaaGreat.L12

/-
  THE WALKS OF THE TABLE'S CALLS: New, At, Set, Live, Open, Seal, Clear.
-/
namespace Go.Proofs.YtplmdmchkaacoaaGreat.L12
open Go.RowKit
set_option linter.unusedVariables false
set_option maxRecDepth 100000

theorem wp_store_part {w : World} {op : Oper} {a : Act} {K : Act → World → Prop} {Q : Exit → Act → World → Prop} (ty : TypeId) (x y : Operand) (ho : op.op = .store ty x y) (g o : Nat) (t : TypeId) (c cells : Array Value)
    (hx : a.eval x = .pointer (some ⟨g, o, none⟩)) (hy : a.eval y = .agg cells) (hat : At w g c t) (hi : (Tryz.prog.info? ty).map (·.size) = some cells.size) (hfit : o + cells.size ≤ c.size) (h1 : cells.all (·.oneCell') = true)
    (h : ∀ w', At w' g (part c o cells) t → But (fun k => k = g) w w' → K (a.put op.dst undef) w') : op.wp Tryz.prog a w K Q := by
  have hst := run_storeCells_at Tryz.prog g o t cells.toList 0 c w hat (by simpa using hfit) (fun v hv => (Array.all_eq_true_iff_forall_mem.1 h1) v (by simpa using hv))
  have hrun : (storeVar ty ⟨g, o, none⟩ (.agg cells)).run Tryz.prog w = .ok () (w.setRow g (part c o cells)) := by
    cases hq : Tryz.prog.info? ty with
    | none => simp [hq] at hi
    | some i =>
      have hs : cells.size = i.size := by simp [hq] at hi; omega
      simp only [Nat.add_zero, Array.length_toList] at hst
      simp [storeVar, sizeOf, typeInfo, hq, Value.cells, hs, hst, part]
  unfold Oper.wp execOp
  simp only [ho, hx, hy, Instr.storeAt, Instr.sureAddr, Sem.run_bind, Sem.run_pure, Result.andThen_ok, hrun]
  exact h _ (setRow_heap w g _ _ t _ hat) (setRow_but w g _)

/-- A block that is made full of zero segments. -/
theorem made_segs {w w1 : World} {n : Nat} (h : w1.ownsRow w.heap.size 108 3 (.slice (some ⟨w.heap.size, 0, none⟩) n n) n (madeCells (Value.agg Sg.zero.ag).cells (n * 3)).toList) : Rg w1 w.heap.size (List.replicate n Sg.zero) := by
  rcases h.2 with ⟨e, _⟩ | ⟨g, cap, cur, e, _, hh, _, _, hs, ht⟩
  · cases e
  · injection e with e1 _ e2
    injection e1 with e1
    injection e1 with e1
    subst e1 e2
    unfold Rg At
    rw [hh]
    congr 2
    apply Array.ext'
    rw [List.take_of_length_le (by simp [hs])] at ht
    rw [ht, flat_zero]

/-- What a call makes of the segment i. -/
def put (T : List Sg) (i : Int) (f : Sg → Sg) : List Sg := if h : 0 ≤ i ∧ i < (T.length : Int) then T.set i.toNat (f (T[i.toNat]'(by omega))) else T
theorem put_in {T : List Sg} {k : Nat} (h : k < T.length) (f : Sg → Sg) : put T (k : Int) f = T.set k (f T[k]) := by
  unfold put
  rw [dif_pos ⟨by omega, by omega⟩]
  simp
theorem put_off {T : List Sg} {i : Int} (h : ¬ (0 ≤ i ∧ i < (T.length : Int))) (f : Sg → Sg) : put T i f = T := by
  unfold put
  rw [dif_neg h]
theorem put_len (T : List Sg) (i : Int) (f : Sg → Sg) : (put T i f).length = T.length := by
  unfold put
  split <;> simp
/-- The segment i, or a zero one. -/
def seg (T : List Sg) (i : Int) : Sg := if h : 0 ≤ i ∧ i < (T.length : Int) then T[i.toNat]'(by omega) else Sg.zero
theorem seg_in {T : List Sg} {k : Nat} (h : k < T.length) : seg T (k : Int) = T[k] := by
  unfold seg
  rw [dif_pos ⟨by omega, by omega⟩]
  simp
theorem seg_off {T : List Sg} {i : Int} (h : ¬ (0 ≤ i ∧ i < (T.length : Int))) : seg T i = Sg.zero := by
  unfold seg
  rw [dif_neg h]
/-- Behind a call that turned the segments alone. -/
def Turned (w : World) (g r : Nat) (T : List Sg) (e : Ending) (w' : World) : Prop := e = .returned (.tuple #[]) ∧ Tb w' g r T ∧ But (fun k => k = r) w w'

set_option maxHeartbeats 400000 in
theorem new_any (n : Nat) (w : World) (hn : n ≤ 65536) : Calls Tryz.prog 106 #[.int .i64 (n : Int)] w fun e w' => ∃ g r, e = .returned (.pointer (some ⟨g, 0, none⟩)) ∧ Tb w' g r (List.replicate n Sg.zero) ∧ w.heap.size ≤ g ∧ w.heap.size ≤ r ∧ Below w.heap.size w w' := by
  obtain ⟨i0, hi, hz0, hz1, hz2⟩ := info_parts seg_info
  go_enter Tryz.func106, Tryz.ntmps106
  go_wp2_with (at_make; refine wpList_make_full _ rfl (.tmp 5) (.tmp 5) 167 rfl w.heap.size 108 i0 (.agg Sg.zero.ag) 3 Tryz.underlying167 hi hz0 hz1 .i64 .i64 n n n rfl rfl rfl rfl (by rw [hz2]; omega) (by unfold maxLen; omega) (Nat.le_refl _) ?_; intro w1 hown1 hg1)
  have R := made_segs hown1
  have B := (Below.refl w.heap.size w).grown hg1 (Nat.le_refl _) (by simp)
  go_ret
  refine ⟨w1.heap.size, w.heap.size, rfl, ⟨?_, At.alloc R _, by simpa using hn⟩, B.size, Nat.le_refl _, B.alloc B.size _⟩
  rw [List.length_replicate]
  exact At.new _ _ rfl

set_option maxHeartbeats 400000 in
theorem open_any {w : World} {g r : Nat} {T : List Sg} (i : Int) (h : Tb w g r T) : Calls Tryz.prog 80 #[.pointer (some ⟨g, 0, none⟩), .int .i64 i] w (Turned w g r (put T i fun x => ⟨1, x.lv, x.bo⟩)) := by
  have H := Lib.hid h
  have c0 := h.box.cell 0
  have hl := h.few
  clear h
  go_enter Tryz.func80, Tryz.ntmps80
  go_wp2_with fail
  refine (has_any i H.out).mono ?_
  rintro e w1 ⟨rfl, hw1⟩
  subst hw1
  by_cases hi : 0 ≤ i ∧ i < (T.length : Int)
  · have hd : decide (0 ≤ i ∧ i < (T.length : Int)) = true := by simpa using hi
    rw [hd]
    obtain ⟨k, rfl⟩ : ∃ k : Nat, i = (k : Int) := ⟨i.toNat, by omega⟩
    have hk : k < T.length := by omega
    obtain ⟨d0, d1, d2⟩ := H.out.row.cells hk
    have F := At.frozen H.out.row
    have PI := Lib.hid (put_in hk fun x => ⟨1, x.lv, x.bo⟩)
    have f0 := F (k * 3 + 0)
    try simp only [Nat.add_zero] at f0
    clear hi hd F
    go_wp2
    go_end0
    rw [PI.out]
    have b1 := (But.refl (fun k => k = r) w1).setCell (p := ⟨r, k * 3 + 0, none⟩) (fun _ => rfl) (.int .i64 (1))
    exact ⟨rfl, H.out.turn b1 (H.out.row.put hk 0 (.int .i64 (1)) _ (by omega) rfl) (by simp), b1⟩
  · have hd : decide (0 ≤ i ∧ i < (T.length : Int)) = false := by simpa using hi
    have PO := Lib.hid (put_off hi fun x => ⟨1, x.lv, x.bo⟩)
    rw [hd]
    clear hi hd
    go_wp2
    go_end0
    rw [PO.out]
    exact ⟨rfl, H.out, But.refl _ _⟩

set_option maxHeartbeats 400000 in
theorem live_any {w : World} {g r : Nat} {T : List Sg} (i : Int) (m : Int) (hm : ∀ k, (h : k < T.length) → -9000000000000000000 ≤ T[k].lv + m ∧ T[k].lv + m ≤ 9000000000000000000) (h : Tb w g r T) : Calls Tryz.prog 156 #[.pointer (some ⟨g, 0, none⟩), .int .i64 i, .int .i64 m] w (Turned w g r (put T i fun x => ⟨x.st, x.lv + m, x.bo⟩)) := by
  have H := Lib.hid h
  have c0 := h.box.cell 0
  have hl := h.few
  clear h
  go_enter Tryz.func156, Tryz.ntmps156
  go_wp2_with fail
  refine (has_any i H.out).mono ?_
  rintro e w1 ⟨rfl, hw1⟩
  subst hw1
  by_cases hi : 0 ≤ i ∧ i < (T.length : Int)
  · have hd : decide (0 ≤ i ∧ i < (T.length : Int)) = true := by simpa using hi
    rw [hd]
    obtain ⟨k, rfl⟩ : ∃ k : Nat, i = (k : Int) := ⟨i.toNat, by omega⟩
    have hk : k < T.length := by omega
    obtain ⟨d0, d1, d2⟩ := H.out.row.cells hk
    have F := At.frozen H.out.row
    have PI := Lib.hid (put_in hk fun x => ⟨x.st, x.lv + m, x.bo⟩)
    have hm2 := hm k hk
    have e1 : T[k].cs.set 1 (.int .i64 (T[k].lv + m)) = Sg.cs ⟨T[k].st, T[k].lv + m, T[k].bo⟩ := rfl
    generalize hL : T[k].lv = L at d1 hm2 e1 PI
    have f0 := F (k * 3 + 1)
    try simp only [Nat.add_zero] at f0
    clear hi hd F
    clear hm
    go_wp2
    go_end0
    rw [PI.out]
    have b1 := (But.refl (fun k => k = r) w1).setCell (p := ⟨r, k * 3 + 1, none⟩) (fun _ => rfl) (.int .i64 (L + m))
    exact ⟨rfl, H.out.turn b1 (H.out.row.put hk 1 (.int .i64 (L + m)) _ (by omega) e1) (by simp), b1⟩
  · have hd : decide (0 ≤ i ∧ i < (T.length : Int)) = false := by simpa using hi
    have PO := Lib.hid (put_off hi fun x => ⟨x.st, x.lv + m, x.bo⟩)
    rw [hd]
    clear hi hd
    go_wp2
    go_end0
    rw [PO.out]
    exact ⟨rfl, H.out, But.refl _ _⟩

set_option maxHeartbeats 400000 in
theorem seal_any {w : World} {g r : Nat} {T : List Sg} (i : Int) (b : Int) (h : Tb w g r T) : Calls Tryz.prog 79 #[.pointer (some ⟨g, 0, none⟩), .int .i64 i, .int .u64 b] w (Turned w g r (put T i fun x => ⟨2, x.lv, b⟩)) := by
  have H := Lib.hid h
  have c0 := h.box.cell 0
  have hl := h.few
  clear h
  go_enter Tryz.func79, Tryz.ntmps79
  go_wp2_with fail
  refine (has_any i H.out).mono ?_
  rintro e w1 ⟨rfl, hw1⟩
  subst hw1
  by_cases hi : 0 ≤ i ∧ i < (T.length : Int)
  · have hd : decide (0 ≤ i ∧ i < (T.length : Int)) = true := by simpa using hi
    rw [hd]
    obtain ⟨k, rfl⟩ : ∃ k : Nat, i = (k : Int) := ⟨i.toNat, by omega⟩
    have hk : k < T.length := by omega
    obtain ⟨d0, d1, d2⟩ := H.out.row.cells hk
    have F := At.frozen H.out.row
    have PI := Lib.hid (put_in hk fun x => ⟨2, x.lv, b⟩)
    have f0 := F (k * 3)
    have f2 := F (k * 3 + 2)
    have c0' := (At.other H.out.box (p := ⟨r, k * 3, none⟩) (fun e => H.out.ne e.symm) (.int .i64 2)).cell 0
    clear hi hd F
    go_wp2
    go_end0
    rw [PI.out]
    have b1 := ((But.refl (fun k => k = r) w1).setCell (p := ⟨r, k * 3, none⟩) (fun _ => rfl) (.int .i64 2)).setCell (p := ⟨r, k * 3 + 2, none⟩) (fun _ => rfl) (.int .u64 b)
    have r1 := H.out.row.put hk 0 (.int .i64 2) ⟨2, T[k].lv, T[k].bo⟩ (by omega) rfl
    have r2 := r1.put (i := k) (by simpa using hk) 2 (.int .u64 b) ⟨2, T[k].lv, b⟩ (by omega) (by rw [List.getElem_set_self]; rfl)
    rw [List.set_set] at r2
    exact ⟨rfl, H.out.turn b1 r2 (by simp), b1⟩
  · have hd : decide (0 ≤ i ∧ i < (T.length : Int)) = false := by simpa using hi
    have PO := Lib.hid (put_off hi fun x => ⟨2, x.lv, b⟩)
    rw [hd]
    clear hi hd
    go_wp2
    go_end0
    rw [PO.out]
    exact ⟨rfl, H.out, But.refl _ _⟩

set_option maxHeartbeats 800000 in
theorem at_any {w : World} {g r : Nat} {T : List Sg} (i : Int) (h : Tb w g r T) : Calls Tryz.prog 52 #[.pointer (some ⟨g, 0, none⟩), .int .i64 i] w fun e w' => e = .returned (.agg (seg T i).ag) ∧ Below w.heap.size w w' := by
  have lt := h.lt
  have H := Lib.hid (show Tb (w.alloc (.cells Sg.zero.ag 108)) g r T from h.below ((Below.refl _ _).alloc (Nat.le_refl _) _))
  have X := Lib.hid (At.new (w := w) Sg.zero.ag 108 rfl)
  have B0 := Lib.hid ((Below.refl w.heap.size w).alloc (Nat.le_refl _) (.cells Sg.zero.ag 108))
  have hl := h.few
  clear h
  go_enter Tryz.func52, Tryz.ntmps52
  go_wp2_with fail
  refine (has_any i H.out).mono ?_
  rintro e w1 ⟨rfl, hw1⟩
  rw [← hw1] at H X B0
  clear hw1
  have c0 := H.out.box.cell 0
  by_cases hi : 0 ≤ i ∧ i < (T.length : Int)
  · have hd : decide (0 ≤ i ∧ i < (T.length : Int)) = true := by simpa using hi
    rw [hd]
    obtain ⟨k, rfl⟩ : ∃ k : Nat, i = (k : Int) := ⟨i.toNat, by omega⟩
    have hk : k < T.length := by omega
    have SE := Lib.hid (seg_in hk)
    have hc := H.out.row.cell hk
    generalize T[k] = x at hc SE
    obtain ⟨xs, xl, xb⟩ := x
    have HC := Lib.hid hc
    clear hi hd hc
    go_wp2_with (first
      | (refine wpList_load_part rfl 108 (.tmp 15) rfl r (k * 3) (Sg.ag ⟨xs, xl, xb⟩) _ rfl HC.out Tryz.underlying108 rfl seg_size ?_)
      | (refine wpList_store_part rfl 108 (.tmp 4) (.tmp 16) rfl w.heap.size 0 108 Sg.zero.ag (Sg.ag ⟨xs, xl, xb⟩) rfl rfl X.out seg_size (by show 0 + 3 ≤ 3; omega) (ag_one _) ?_; intro w2 hat hb))
    rw [part_whole] at hat
    refine bodyPost_ret (results_cell_row (p := 4) (ty := 108) rfl _ _ w.heap.size 108 (Sg.ag ⟨xs, xl, xb⟩) (0, 0) _ rfl hat Tryz.underlying108 rfl seg_size) rfl ?_
    rw [SE.out]
    exact ⟨rfl, B0.out.trans (hb.below (fun k e => by omega) B0.out.size)⟩
  · have hd : decide (0 ≤ i ∧ i < (T.length : Int)) = false := by simpa using hi
    have SE := Lib.hid (seg_off hi)
    rw [hd]
    clear hi hd
    go_wp2_with (refine wpList_store_part rfl 108 (.tmp 4) (.tmp 9) rfl w.heap.size 0 108 Sg.zero.ag Sg.zero.ag rfl rfl X.out seg_size (by show 0 + 3 ≤ 3; omega) (ag_one _) ?_; intro w2 hat hb)
    rw [part_whole] at hat
    refine bodyPost_ret (results_cell_row (p := 4) (ty := 108) rfl _ _ w.heap.size 108 Sg.zero.ag (0, 0) _ rfl hat Tryz.underlying108 rfl seg_size) rfl ?_
    rw [SE.out]
    exact ⟨rfl, B0.out.trans (hb.below (fun k e => by omega) B0.out.size)⟩
end Go.Proofs.YtplmdmchkaacoaaGreat.L12
