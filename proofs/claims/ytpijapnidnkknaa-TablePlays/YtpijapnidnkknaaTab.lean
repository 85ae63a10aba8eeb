/-
  SEGMENTS, ROWS OF THEM, TABLES in memory.
-/
import Derived.Test.YtpijapnidnkknaaPart
import Derived.Laws.StructEq
namespace Go.Proofs.Ytpijapnidnkknaa
open Go.RowKit
set_option linter.unusedVariables false
set_option maxRecDepth 100000


/-- A segment: its state, how many live in it, the number with which it was sealed. -/
structure Sg where
  st : Int
  lv : Int
  bo : Int
def Sg.zero : Sg := ⟨0, 0, 0⟩
def Sg.cs (x : Sg) : List Value := [.int .i64 x.st, .int .i64 x.lv, .int .u64 x.bo]
/-- The cells, as the model writes them. -/
abbrev Sg.ag (x : Sg) : Array Value := #[.int .i64 x.st, .int .i64 x.lv, .int .u64 x.bo]
def flat (L : List Sg) : List Value := L.flatMap Sg.cs
theorem flat_nil : flat [] = [] := rfl
theorem flat_cons (x : Sg) (L : List Sg) : flat (x :: L) = x.cs ++ flat L := by simp [flat]
theorem flat_append (L M : List Sg) : flat (L ++ M) = flat L ++ flat M := by simp [flat]
theorem cs_len (x : Sg) : x.cs.length = 3 := rfl
theorem flat_len : ∀ L : List Sg, (flat L).length = L.length * 3
  | [] => rfl
  | x :: L => by rw [flat_cons, List.length_append, flat_len L, cs_len, List.length_cons]; omega
theorem flat_get : ∀ (L : List Sg) (i : Nat) (h : i < L.length) (j : Nat), j < 3 → (flat L)[i * 3 + j]? = L[i].cs[j]?
  | x :: L, 0, _, j, hj => by
    rw [flat_cons, List.getElem?_append_left (by rw [cs_len]; omega)]
    simp
  | x :: L, i + 1, h, j, hj => by
    rw [flat_cons, List.getElem?_append_right (by rw [cs_len]; omega), cs_len, show (i + 1) * 3 + j - 3 = i * 3 + j by omega]
    exact flat_get L i (by simpa using h) j hj
theorem cs_one (x : Sg) : ∀ u ∈ x.cs, u.oneCell' = true := by
  intro u hu
  simp [Sg.cs] at hu
  rcases hu with rfl | rfl | rfl <;> rfl
theorem flat_one (L : List Sg) : ∀ u ∈ flat L, u.oneCell' = true := by
  intro u hu
  obtain ⟨x, _, hx⟩ := List.mem_flatMap.mp hu
  exact cs_one x u hx
theorem flat_put : ∀ (L : List Sg) (i : Nat) (h : i < L.length) (j : Nat) (v : Value) (y : Sg), j < 3 → L[i].cs.set j v = y.cs → (flat L).set (i * 3 + j) v = flat (L.set i y)
  | x :: L, 0, _, j, v, y, hj, e => by
    rw [flat_cons, List.set_cons_zero, flat_cons, Nat.zero_mul, Nat.zero_add, List.set_append_left _ _ (by rw [cs_len]; omega)]
    rw [show x.cs.set j v = y.cs from e]
  | x :: L, i + 1, h, j, v, y, hj, e => by
    rw [flat_cons, List.set_cons_succ, flat_cons, List.set_append_right _ _ (by rw [cs_len]; omega), cs_len, show (i + 1) * 3 + j - 3 = i * 3 + j by omega]
    rw [flat_put L i (by simpa using h) j v y hj (by simpa using e)]
theorem flat_whole : ∀ (L : List Sg) (i : Nat) (h : i < L.length) (y : Sg), (flat L).take (i * 3) ++ y.cs ++ (flat L).drop (i * 3 + 3) = flat (L.set i y)
  | x :: L, 0, _, y => by
    rw [flat_cons, List.set_cons_zero, flat_cons]
    simp [Sg.cs]
  | x :: L, i + 1, h, y => by
    rw [flat_cons, List.set_cons_succ, flat_cons, ← flat_whole L i (by simpa using h) y]
    rw [List.take_append, List.drop_append, List.take_of_length_le (by rw [cs_len]; omega), List.drop_of_length_le (by rw [cs_len]; omega), cs_len, show (i + 1) * 3 - 3 = i * 3 by omega, show (i + 1) * 3 + 3 - 3 = i * 3 + 3 by omega]
    simp
theorem ag_one (x : Sg) : x.ag.all (·.oneCell') = true := by simp [Value.oneCell']
theorem ag_list (x : Sg) : x.ag.toList = x.cs := rfl
theorem flat_part (L : List Sg) (i : Nat) (h : i < L.length) (y : Sg) : part (flat L).toArray (i * 3) y.ag = (flat (L.set i y)).toArray := by
  unfold part
  rw [← flat_whole L i h y]
  rfl
theorem part_whole (u v x : Value) (y : Sg) : part #[u, v, x] 0 y.ag = y.ag := rfl
theorem flat_zero (n : Nat) : (madeCells (Value.agg Sg.zero.ag).cells (n * 3)).toList = flat (List.replicate n Sg.zero) := by
  apply List.ext_getElem?
  intro k
  have hz : (Value.agg Sg.zero.ag).cells = Sg.zero.ag := rfl
  rw [hz]
  rcases Nat.lt_or_ge k (n * 3) with h | h
  · have e : k = k / 3 * 3 + k % 3 := by omega
    have h3 : k % 3 < 3 := by omega
    have hk : k / 3 < n := by omega
    have hl : (madeCells Sg.zero.ag (n * 3)).toList[k]? = some (Sg.zero.ag[k % 3]!) := by
      simp [madeCells, h]
    rw [hl]
    have hr : (flat (List.replicate n Sg.zero))[k]? = Sg.zero.cs[k % 3]? := by
      have h1 := flat_get (List.replicate n Sg.zero) (k / 3) (by simpa using hk) (k % 3) h3
      rw [← e] at h1
      rw [h1]
      simp
    rw [hr]
    generalize k % 3 = j at h3
    match j, h3 with
    | 0, _ => rfl
    | 1, _ => rfl
    | 2, _ => rfl
  · rw [List.getElem?_eq_none (by rw [Array.length_toList, size_madeCells]; exact h), List.getElem?_eq_none (by rw [flat_len]; simpa using h)]

theorem seg_size : (Try.prog.info? 33).map (·.size) = some 3 := by kernel_rfl
theorem seg_info : (Try.prog.info? 33).map (fun i => (i.zero, i.size, i.bytes)) = some (some (.agg #[.int .i64 0, .int .i64 0, .int .u64 0]), 3, 24) := by kernel_rfl
theorem int_info : (Try.prog.info? 3).map (fun i => (i.zero, i.size, i.bytes)) = some (some (.int .i64 0), 1, 8) := by kernel_rfl

/-- Block r holds the segments T. -/
def Rg (w : World) (r : Nat) (T : List Sg) : Prop := At w r (flat T).toArray 33
theorem Rg.cell {w : World} {r : Nat} {T : List Sg} (h : Rg w r T) {i : Nat} (hi : i < T.length) : ∀ j, j < 3 → w.cell? ⟨r, i * 3 + j, none⟩ = T[i].ag[j]? := by
  intro j hj
  rw [At.cell h, List.getElem?_toArray, flat_get T i hi j hj, ← ag_list]
  simp
theorem Rg.cells {w : World} {r : Nat} {T : List Sg} (h : Rg w r T) {i : Nat} (hi : i < T.length) : w.cell? ⟨r, i * 3, none⟩ = some (.int .i64 T[i].st) ∧ w.cell? ⟨r, i * 3 + 1, none⟩ = some (.int .i64 T[i].lv) ∧ w.cell? ⟨r, i * 3 + 2, none⟩ = some (.int .u64 T[i].bo) :=
  ⟨h.cell hi 0 (by omega), h.cell hi 1 (by omega), h.cell hi 2 (by omega)⟩
theorem Rg.but {w w' : World} {S : Nat → Prop} {r : Nat} {T : List Sg} (h : Rg w r T) (hb : But S w w') (hn : ¬ S r) : Rg w' r T := At.but h hb hn
theorem Rg.put {w : World} {r : Nat} {T : List Sg} (h : Rg w r T) {i : Nat} (hi : i < T.length) (j : Nat) (v : Value) (y : Sg) (hj : j < 3) (e : T[i].cs.set j v = y.cs) : Rg (w.setCell ⟨r, i * 3 + j, none⟩ v) r (T.set i y) := by
  have h1 := At.set h (i * 3 + j) v
  rw [List.setIfInBounds_toArray, flat_put T i hi j v y hj e] at h1
  exact h1

/-- A table at block g, whose segments T lie at block r. -/
structure Tb (w : World) (g r : Nat) (T : List Sg) : Prop where
  box : At w g #[.slice (some ⟨r, 0, none⟩) T.length T.length] 49
  row : Rg w r T
  few : T.length ≤ 65536
section
variable {w w' : World} {g r : Nat} {T : List Sg} {S : Nat → Prop}
theorem Tb.ne (h : Tb w g r T) : g ≠ r := by
  intro e
  subst e
  have h1 := h.box
  have h2 := h.row
  unfold Rg at h2
  unfold At at h1 h2
  rw [h1] at h2
  simp at h2
theorem Tb.but (h : Tb w g r T) (hb : But S w w') (hg : ¬ S g) (hr : ¬ S r) : Tb w' g r T := ⟨h.box.but hb hg, h.row.but hb hr, h.few⟩
theorem Tb.below (h : Tb w g r T) (hb : Below w.heap.size w w') : Tb w' g r T := h.but (S := fun _ => False) (But.of_below hb) (fun h => h) (fun h => h)
theorem Tb.drewN (h : Tb w g r T) (n : Nat) : Tb (w.drewN n) g r T := ⟨h.box, h.row, h.few⟩
theorem Tb.lt (h : Tb w g r T) : g < w.heap.size ∧ r < w.heap.size := ⟨h.box.lt, At.lt h.row⟩
/-- Behind a call that turned the segments alone. -/
theorem Tb.turn {T' : List Sg} (h : Tb w g r T) (hb : But (fun k => k = r) w w') (hr : Rg w' r T') (hl : T'.length = T.length) : Tb w' g r T' := by
  refine ⟨?_, hr, by rw [hl]; exact h.few⟩
  rw [hl]
  exact h.box.but hb h.ne
end

set_option maxHeartbeats 400000 in
theorem has_any {w : World} {g r : Nat} {T : List Sg} (i : Int) (h : Tb w g r T) : Calls Try.prog 20 #[.pointer (some ⟨g, 0, none⟩), .int .i64 i] w fun e w' => e = .returned (.bool (decide (0 ≤ i ∧ i < (T.length : Int)))) ∧ w' = w := by
  have c0 := h.box.cell 0
  have hl := h.few
  clear h
  by_cases h0 : 0 ≤ i
  · by_cases h1 : i < (T.length : Int)
    · have hd : decide (i < (T.length : Int)) = true := by simpa using h1
      have he : decide (0 ≤ i ∧ i < (T.length : Int)) = true := by simpa using ⟨h0, h1⟩
      rw [he]
      go_enter Try.func20, Try.ntmps20
      go_wp2
      go_ret
      exact ⟨rfl, rfl⟩
    · have he : decide (0 ≤ i ∧ i < (T.length : Int)) = false := by simp; omega
      rw [he]
      go_enter Try.func20, Try.ntmps20
      go_wp2
      go_ret
      exact ⟨rfl, rfl⟩
  · have he : decide (0 ≤ i ∧ i < (T.length : Int)) = false := by simp; omega
    rw [he]
    go_enter Try.func20, Try.ntmps20
    go_wp2
    go_ret
    exact ⟨rfl, rfl⟩
set_option maxHeartbeats 400000 in
theorem len_any {w : World} {g r : Nat} {T : List Sg} (h : Tb w g r T) : Calls Try.prog 15 #[.pointer (some ⟨g, 0, none⟩)] w fun e w' => e = .returned (.int .i64 (T.length : Int)) ∧ w' = w := by
  have c0 := h.box.cell 0
  have hl := h.few
  clear h
  go_enter Try.func15, Try.ntmps15
  go_wp2
  go_ret
  exact ⟨rfl, rfl⟩
end Go.Proofs.Ytpijapnidnkknaa
