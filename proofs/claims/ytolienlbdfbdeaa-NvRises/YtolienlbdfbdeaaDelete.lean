/-
  THE WALKS OF Commit's CLOSURE, slices.IndexFunc AND slices.DeleteFunc OF RECORDS.
-/
import Derived.Test.YtolienlbdfbdeaaAppend
import Derived.Deep.LoopGhost
namespace Go.Proofs.Ytolienlbdfbdeaa
open Go.RowKit
set_option linter.unusedVariables false
set_option maxRecDepth 100000

/-- Does the record stay? -/
def stays (u : Nat) (x : Rc) : Bool := decide (u < x.seq)
theorem stays_yes {u : Nat} {x : Rc} (h : u < x.seq) : stays u x = true := decide_eq_true h
theorem stays_no {u : Nat} {x : Rc} (h : ¬ u < x.seq) : stays u x = false := decide_eq_false h

theorem pred_yes (x : Rc) (bx u : Nat) (w : World) (h : At w bx #[.int .u64 (u : Int)] 30) (hx : x.seq ≤ u) :
    Calls Try.prog 25 #[.agg #[.int .u64 (x.seq : Int), .int .i64 x.kind, .int .i64 x.lba, .slice x.A x.n x.c], .pointer (some ⟨bx, 0, none⟩)] w fun e w' => e = .returned (.bool true) ∧ ∃ o, w' = w.alloc o := by
  have hc : ∀ o, (w.alloc o).cell? ⟨bx, 0, none⟩ = some (.int .u64 (u : Int)) := fun o => (h.alloc o).cell 0
  have hi : (x.seq : Int) ≤ (u : Int) := by omega
  clear h
  go_enter Try.func25, Try.ntmps25
  go_wp2
  go_ret
  exact ⟨by simp, _, rfl⟩
theorem pred_no (x : Rc) (bx u : Nat) (w : World) (h : At w bx #[.int .u64 (u : Int)] 30) (hx : u < x.seq) :
    Calls Try.prog 25 #[.agg #[.int .u64 (x.seq : Int), .int .i64 x.kind, .int .i64 x.lba, .slice x.A x.n x.c], .pointer (some ⟨bx, 0, none⟩)] w fun e w' => e = .returned (.bool false) ∧ ∃ o, w' = w.alloc o := by
  have hc : ∀ o, (w.alloc o).cell? ⟨bx, 0, none⟩ = some (.int .u64 (u : Int)) := fun o => (h.alloc o).cell 0
  have hi : ¬ (x.seq : Int) ≤ (u : Int) := by omega
  clear h
  go_enter Try.func25, Try.ntmps25
  go_wp2
  go_ret
  exact ⟨by simp, _, rfl⟩

theorem cell4 {w : World} {g i : Nat} {x : Rc} (hcell : ∀ j, j < 4 → w.cell? ⟨g, i * 4 + j, none⟩ = x.cs[j]?) : w.cell? ⟨g, i * 4, none⟩ = some (.int .u64 (x.seq : Int)) ∧ w.cell? ⟨g, i * 4 + 1, none⟩ = some (.int .i64 x.kind) ∧ w.cell? ⟨g, i * 4 + 2, none⟩ = some (.int .i64 x.lba) ∧ w.cell? ⟨g, i * 4 + 3, none⟩ = some (.slice x.A x.n x.c) :=
  ⟨hcell 0 (by omega), hcell 1 (by omega), hcell 2 (by omega), hcell 3 (by omega)⟩

/-- Where the first record lies that does not stay; -1: nowhere. -/
def First (u : Nat) (L : List Rc) (i : Int) : Prop := (i = -1 ∧ ∀ x ∈ L, u < x.seq) ∨ ∃ k : Nat, i = (k : Int) ∧ ∃ h : k < L.length, L[k].seq ≤ u ∧ ∀ x ∈ L.take k, u < x.seq

theorem index_any (v : Value) (bx u : Nat) (L : List Rc) (w : World) (B : Nat) (hn : L.length ≤ 1000) (h : Rw w B v L) (hb : At w bx #[.int .u64 (u : Int)] 30) :
    Calls Try.prog 29 #[v, .func (.func 25) #[] #[.pointer (some ⟨bx, 0, none⟩)]] w fun e w' => ∃ i, e = .returned (.int .i64 i) ∧ First u L i ∧ Below w.heap.size w w' := by
  obtain ⟨A, c, rfl⟩ := h.slice
  have H := Lib.hid h
  have HB := Lib.hid hb
  clear h hb
  go_enter Try.func29, Try.ntmps29
  go_wp2
  go_loopw [8] (fun i wr => ∃ k : Nat, k ≤ L.length ∧ i = .int .i64 k ∧ (∀ x ∈ L.take k, u < x.seq) ∧ Below w.heap.size w wr) (fun i _ => L.length - (intOf i).toNat)
  case atStart => exact ⟨0, Nat.zero_le _, rfl, fun x hx => (by simp at hx), Below.refl _ _⟩
  case round =>
    obtain ⟨k, hk, rfl, hall, hbw⟩ := hrel
    have AL := Lib.hid hall
    have BW := Lib.hid hbw
    by_cases hlt : k < L.length
    · have hr := H.out.up hbw
      obtain ⟨g, cap, tail, e1, hB, hat, _⟩ := hr.form (by omega)
      injection e1 with e1 _ e2
      subst e1 e2
      obtain ⟨q0, q1, q2, q3⟩ := cell4 (row_cells hat hlt)
      obtain ⟨x, hx⟩ : ∃ x, L[k] = x := ⟨_, rfl⟩
      rw [hx] at q0 q1 q2 q3
      have HX := Lib.hid hx
      have hbx := HB.out.below hbw HB.out.lt
      have XB := Lib.hid hbx
      clear hall hbw hr hat hx hbx hB
      by_cases hs : x.seq ≤ u
      · go_wp2_with fail
        refine (pred_yes x bx u wr XB.out hs).mono ?_
        rintro e w2 ⟨rfl, o, rfl⟩
        go_wp2
        go_ret
        exact ⟨_, rfl, .inr ⟨k, rfl, hlt, by rw [HX.out]; exact hs, AL.out⟩, BW.out.alloc BW.out.size _⟩
      · have hs' : u < x.seq := by omega
        go_wp2_with fail
        refine (pred_no x bx u wr XB.out hs').mono ?_
        rintro e w2 ⟨rfl, o, rfl⟩
        go_wp2
        go_roundw
        case rel =>
          refine ⟨k + 1, by omega, by go_num, fun y hy => ?_, BW.out.alloc BW.out.size _⟩
          rw [List.take_succ_eq_append_getElem hlt, HX.out] at hy
          rcases List.mem_append.1 hy with hy | hy
          · exact AL.out y hy
          · simp at hy; subst hy; exact hs'
        case measure => simp [intOf]; omega
    · have e0 : k = L.length := by omega
      subst e0
      clear hall hbw
      go_wp2
      go_ret
      exact ⟨_, rfl, .inl ⟨rfl, fun x hx => AL.out x (by rw [List.take_of_length_le (Nat.le_refl _)]; exact hx)⟩, BW.out⟩

/-- Of the first j records those that stay lie at the row's head, i of them; from the j-th on all is as it was. -/
structure Kept (u : Nat) (L M : List Rc) (i j : Nat) : Prop where
  len : M.length = L.length
  low : M.take i = (L.take j).filter (stays u)
  high : M.drop j = L.drop j
  lt : i < j
  le : j ≤ L.length
theorem filter_all {u : Nat} {L : List Rc} (h : ∀ x ∈ L, u < x.seq) : L.filter (stays u) = L := List.filter_eq_self.2 (fun x hx => stays_yes (h x hx))
theorem Kept.start {u k : Nat} {L : List Rc} (hk : k < L.length) (hs : L[k].seq ≤ u) (h : ∀ x ∈ L.take k, u < x.seq) : Kept u L L k (k + 1) := by
  refine ⟨rfl, ?_, rfl, by omega, by omega⟩
  rw [List.take_succ_eq_append_getElem hk, List.filter_append, filter_all h]
  simp [stays_no (show ¬ u < L[k].seq by omega)]
theorem Kept.one {u i j : Nat} {L M : List Rc} (h : Kept u L M i j) (hj : j < L.length) : ∃ hm : j < M.length, M[j] = L[j] := by
  have hm : j < M.length := by rw [h.len]; exact hj
  refine ⟨hm, ?_⟩
  have h1 := congrArg (fun l => l[0]?) h.high
  simp only [List.getElem?_drop, Nat.add_zero] at h1
  rw [List.getElem?_eq_getElem hm, List.getElem?_eq_getElem hj] at h1
  injection h1
theorem Kept.high_next {u i j : Nat} {L M : List Rc} (h : Kept u L M i j) : M.drop (j + 1) = L.drop (j + 1) := by
  have h2 := congrArg (List.drop 1) h.high
  rw [List.drop_drop, List.drop_drop] at h2
  exact h2
theorem Kept.keep {u i j : Nat} {L M : List Rc} (h : Kept u L M i j) (hj : j < L.length) (hs : u < L[j].seq) : Kept u L (M.set i L[j]) (i + 1) (j + 1) := by
  have hlt := h.lt
  have hi : i < M.length := by rw [h.len]; omega
  refine ⟨by rw [List.length_set]; exact h.len, ?_, ?_, by omega, by omega⟩
  · rw [List.take_succ_eq_append_getElem hj, List.filter_append, ← h.low, List.take_set, List.take_succ_eq_append_getElem hi, List.set_append_right _ _ (by rw [List.length_take]; omega), List.length_take, show i - min i M.length = 0 by omega]
    simp [stays_yes hs]
  · rw [List.drop_set, if_pos (by omega)]
    exact h.high_next
theorem Kept.skip {u i j : Nat} {L M : List Rc} (h : Kept u L M i j) (hj : j < L.length) (hs : ¬ u < L[j].seq) : Kept u L M i (j + 1) := by
  have hlt := h.lt
  refine ⟨h.len, ?_, h.high_next, by omega, by omega⟩
  rw [List.take_succ_eq_append_getElem hj, List.filter_append, ← h.low]
  simp [stays_no hs]
theorem Kept.done {u i : Nat} {L M : List Rc} (h : Kept u L M i L.length) : M.take i = L.filter (stays u) := by
  rw [h.low, List.take_of_length_le (Nat.le_refl _)]

/-- The row with one record stored anew. -/
theorem part_row {M : List Rc} {tail : List Value} {i : Nat} {x : Rc} (hi : i < M.length) : part (flat M ++ tail).toArray (i * 4) #[.int .u64 (x.seq : Int), .int .i64 x.kind, .int .i64 x.lba, .slice x.A x.n x.c] = (flat (M.set i x) ++ tail).toArray := by
  unfold part
  rw [← flat_set M i x hi]
  have hl := flat_len M
  simp only [List.size_toArray, List.length_cons, List.length_nil]
  rw [List.take_append_of_le_length (by omega), List.drop_append_of_le_length (by omega)]
  simp [Rc.cs]

theorem rec_one (x : Rc) : (#[Value.int .u64 (x.seq : Int), .int .i64 x.kind, .int .i64 x.lba, .slice x.A x.n x.c].all (·.oneCell')) = true := by
  simp
  exact ⟨rfl, rfl, rfl, rfl⟩
def zrc : Rc := ⟨0, 0, 0, none, 0, 0, []⟩
theorem zero_rows (n : Nat) : (Builtin.zeroCells #[.int .u64 0, .int .i64 0, .int .i64 0, .slice none 0 0] n).toList = flat (List.replicate n zrc) := by
  apply List.ext_getElem?
  intro q
  by_cases hq : q < n * 4
  · have hm : q / 4 < (List.replicate n zrc).length := by rw [List.length_replicate]; omega
    have h1 := flat_get (List.replicate n zrc) (q / 4) hm (q % 4) (by omega)
    rw [show q / 4 * 4 + q % 4 = q by omega] at h1
    rw [h1, List.getElem_replicate]
    have : q % 4 = 0 ∨ q % 4 = 1 ∨ q % 4 = 2 ∨ q % 4 = 3 := by omega
    simp only [Builtin.zeroCells, Array.toList_map, List.getElem?_map, Array.toList_range]
    rw [List.getElem?_range (by simpa using hq)]
    rcases this with e | e | e | e <;> simp [e, zrc, Rc.cs]
  · rw [List.getElem?_eq_none (by simp [Builtin.zeroCells]; omega), List.getElem?_eq_none (by rw [flat_len, List.length_replicate]; omega)]
theorem cleared {M : List Rc} {tail : List Value} {i m : Nat} (hi : i < M.length) (hm : M.length - i = m + 1) :
    (flat M ++ tail).take (i * 4) ++ flat (List.replicate (m + 1) zrc) ++ (flat M ++ tail).drop (i * 4 + (flat (List.replicate (m + 1) zrc)).length) = flat (M.take i) ++ (flat (List.replicate (m + 1) zrc) ++ tail) := by
  have hl := flat_len M
  have hr : (flat (List.replicate (m + 1) zrc)).length = (m + 1) * 4 := by rw [flat_len, List.length_replicate]
  rw [List.take_append_of_le_length (by omega), flat_take M i (by omega), hr, show i * 4 + (m + 1) * 4 = (flat M).length by omega, List.drop_left, List.append_assoc]
/-- 'clear' of a row of records from the i-th on. -/
theorem clear_run {w : World} {g i n c : Nat} {M : List Rc} {tail : List Value} (ty : TypeId) (hat : At w g (flat M ++ tail).toArray 40) (hi : i < M.length) (hn : n = M.length - i) :
    ∃ w', (Builtin.clear_ #[33] ty #[.slice (some ⟨g, i * 4, none⟩) n c]).run Try.prog w = .ok (.tuple #[]) w' ∧ (∃ tail', At w' g (flat (M.take i) ++ tail').toArray 40 ∧ (flat (M.take i) ++ tail').length = (flat M ++ tail).length) ∧ But (fun k => k = g) w w' := by
  subst hn
  have hl := flat_len M
  have hst := run_storeCells_at Try.prog g (i * 4) 40 (flat (List.replicate (M.length - i) zrc)) 0 _ w hat (by rw [flat_len, List.length_replicate]; simp; omega) (flat_one _)
  have hv : ∀ w, (zeroValue 40).run Try.prog w = .ok (.agg #[.int .u64 0, .int .i64 0, .int .i64 0, .slice none 0 0]) w := fun w => by kernel_rfl
  obtain ⟨m, hm⟩ : ∃ m, M.length - i = m + 1 := ⟨M.length - i - 1, by omega⟩
  rw [hm] at hst ⊢
  have e := cleared (tail := tail) hi hm
  simp only [Nat.add_zero] at hst
  rw [e] at hst
  refine ⟨w.setRow g (flat (M.take i) ++ (flat (List.replicate (m + 1) zrc) ++ tail)).toArray, ?_, ⟨flat (List.replicate (m + 1) zrc) ++ tail, setRow_heap w g _ _ 40 _ hat, ?_⟩, setRow_but w g _⟩
  · simp [Builtin.clear_, run_underlying Try.underlying33, hv, Value.cells, zero_rows, hst]
  · have hr : (flat (List.replicate (m + 1) zrc)).length = (m + 1) * 4 := by rw [flat_len, List.length_replicate]
    have ht : (flat (M.take i)).length = i * 4 := by rw [flat_len, List.length_take]; congr 1; omega
    simp only [List.length_append]
    omega

/-- What DeleteFunc leaves: the row without the records up to u. -/
def Left (w : World) (B : Nat) (v : Value) (L : List Rc) (u : Nat) (e : Ending) (w' : World) : Prop :=
  ∃ v', e = .returned v' ∧ Rw w' B v' (L.filter (stays u)) ∧ (∀ k, v'.ownBlock = some k → v.ownBlock = some k) ∧ But (fun k => v.ownBlock = some k) w w'

theorem Rw.left {w w' : World} {B g c cap : Nat} {L M : List Rc} {tail : List Value} {u i : Nat} (h : Rw w B (.slice (some ⟨g, 0, none⟩) L.length c) L) (hk : Kept u L M i L.length) (hb : But (fun k => k = g) w w') (hat : At w' g (flat (M.take i) ++ tail).toArray 40)
    (hs : (flat (M.take i) ++ tail).length = cap * 4) (hi : L.length ≤ cap) (hc : cap ≤ maxLen) (hB : B ≤ g) : Rw w' B (.slice (some ⟨g, 0, none⟩) i cap) (L.filter (stays u)) := by
  have hl := hk.lt
  have hle := hk.len
  have e : (M.take i).length = i := by rw [List.length_take]; omega
  have h1 : ∀ x ∈ M.take i, x ∈ L := fun x hx => by
    rw [hk.done] at hx
    exact (List.mem_filter.1 hx).1
  have := Rw.of_at (B := B) hat hs (by omega) hc hB (fun x hx => (h.has x (h1 x hx)).apart hb (fun h0 a ha e => h.off x (h1 x hx) h0 a ha (by rw [e]; rfl))) (fun x hx => h.len x (h1 x hx)) (fun x hx h0 a ha e => h.off x (h1 x hx) h0 a ha (by rw [e]; rfl))
  rw [e, hk.done] at this
  exact this

set_option maxHeartbeats 3200000 in
theorem delete_any (v : Value) (bx u : Nat) (L : List Rc) (w : World) (B : Nat) (hn : L.length ≤ 1000) (h : Rw w B v L) (hb : At w bx #[.int .u64 (u : Int)] 30) (hbv : v.ownBlock ≠ some bx) :
    Calls Try.prog 24 #[v, .func (.func 25) #[] #[.pointer (some ⟨bx, 0, none⟩)]] w (Left w B v L u) := by
  have H := Lib.hid h
  have HB := Lib.hid hb
  have HN := Lib.hid hbv
  obtain ⟨A, c, rfl⟩ := h.slice
  clear h hb hbv
  go_enter Try.func24, Try.ntmps24
  go_wp2_with fail
  refine (index_any _ bx u L w B hn H.out HB.out).mono ?_
  rintro e w1 ⟨i, rfl, hF, hb1⟩
  have B1 := Lib.hid hb1
  clear hb1
  rcases hF with ⟨rfl, hall⟩ | ⟨k, rfl, hk, hs, hall⟩
  · have R := Lib.hid (show Rw w1 B (.slice A L.length c) (L.filter (stays u)) by rw [filter_all hall]; exact H.out.up B1.out)
    clear hall
    go_wp2
    go_ret
    exact ⟨_, rfl, R.out, fun _ h => h, But.of_below B1.out⟩
  · have K0 := Lib.hid (Kept.start hk hs hall)
    obtain ⟨g, cap, tail, e1, hBg, hat, hcs, hnc, hcm⟩ := (H.out.up B1.out).form (by omega)
    injection e1 with e1 _ e2
    subst e1 e2
    have AT := Lib.hid hat
    have HC := Lib.hid hcs
    have hne : ((k : Int) == -1) = false := by simp
    have hgl : g < w.heap.size := (H.out.own.lt g rfl).2
    have hbg : ¬ bx = g := fun e => HN.out (by rw [e]; rfl)
    have hcm' : c ≤ 9223372036854775807 := hcm
    clear hat hcs hs hall
    go_wp2_with fail
    go_loopg [5, 6, 7] L.length (fun gg s5 s6 _ wr => ∃ (i j : Nat) (M : List Rc), L.length - j ≤ gg ∧ s5 = .int .i64 i ∧ s6 = .int .i64 j ∧ Kept u L M i j ∧ At wr g (flat M ++ tail).toArray 40 ∧ But (fun k => k = g) w wr)
    case atStart => exact ⟨k, k + 1, L, by omega, rfl, by go_num, K0.out, AT.out, But.of_below B1.out⟩
    case round =>
      obtain ⟨i, j, M, hgg, rfl, rfl, hK, hat, hbw⟩ := hrel
      have KK := Lib.hid hK
      have AT := Lib.hid hat
      have BW := Lib.hid hbw
      have hij := hK.lt
      have hjl := hK.le
      have hml := Lib.hid hK.len
      by_cases hlt : j < L.length
      · obtain ⟨hm, e⟩ := hK.one hlt
        obtain ⟨q0, q1, q2, q3⟩ := cell4 (row_cells hat hm)
        obtain ⟨x, hx⟩ : ∃ x, L[j] = x := ⟨_, rfl⟩
        rw [e, hx] at q0 q1 q2 q3
        have HX := Lib.hid hx
        have XB := Lib.hid (HB.out.but hbw hbg)
        clear hK hat hbw e hx
        go_wp2_with fail
        obtain ⟨wa, hwa⟩ : ∃ wa, wa = wr.alloc (.cells #[.int .u64 (x.seq : Int), .int .i64 x.kind, .int .i64 x.lba, .slice x.A x.n x.c] 40) := ⟨_, rfl⟩
        rw [← hwa]
        have BA := Lib.hid (show But (fun _ => False) wr wa by rw [hwa]; exact (But.refl _ _).alloc _)
        have DA := Lib.hid (show At wa wr.heap.size #[.int .u64 (x.seq : Int), .int .i64 x.kind, .int .i64 x.lba, .slice x.A x.n x.c] 40 by rw [hwa]; exact At.new _ 40 rfl)
        clear hwa q0 q1 q2 q3
        generalize wr.heap.size = dv at *
        by_cases hs : u < x.seq
        · refine (pred_no x bx u wa (XB.out.but BA.out (fun h => h)) hs).mono ?_
          rintro e w2 ⟨rfl, o, hw2⟩
          have b2 : But (fun _ => False) wr w2 := by rw [hw2]; exact BA.out.alloc o
          have d2 : At w2 dv #[.int .u64 (x.seq : Int), .int .i64 x.kind, .int .i64 x.lba, .slice x.A x.n x.c] 40 := by rw [hw2]; exact DA.out.alloc o
          have q0 : w2.cell? ⟨dv, 0, none⟩ = some (.int .u64 (x.seq : Int)) := d2.cell 0
          have q1 : w2.cell? ⟨dv, 1, none⟩ = some (.int .i64 x.kind) := d2.cell 1
          have q2 : w2.cell? ⟨dv, 2, none⟩ = some (.int .i64 x.lba) := d2.cell 2
          have q3 : w2.cell? ⟨dv, 3, none⟩ = some (.slice x.A x.n x.c) := d2.cell 3
          have A2 := Lib.hid (AT.out.but b2 (fun h => h))
          have B2 := Lib.hid b2
          have hiM : i < M.length := by have := hml.out; omega
          have FT := Lib.hid (show i * 4 + 4 ≤ (flat M ++ tail).toArray.size by simp [flat_len]; omega)
          have KN := Lib.hid (KK.out.keep hlt (by rw [HX.out]; exact hs))
          rw [HX.out] at KN
          clear hw2 b2 d2
          go_wp2_with (refine wpList_store_part rfl 40 (.tmp 33) (.tmp 32) rfl g (i * 4) 40 (flat M ++ tail).toArray #[.int .u64 (x.seq : Int), .int .i64 x.kind, .int .i64 x.lba, .slice x.A x.n x.c] rfl rfl A2.out rec_size FT.out (rec_one x) ?_; intro w3 hat3 hb3)
          rw [part_row hiM] at hat3
          have A3 := Lib.hid hat3
          have B3 := Lib.hid ((BW.out.trans B2.out (fun _ h _ => h.elim)).trans hb3 (fun _ h _ => h))
          clear hat3 hb3 q0 q1 q2 q3
          go_wp2
          go_roundg (L.length - (j + 1))
          case measure => omega
          case rel => exact ⟨i + 1, j + 1, _, Nat.le_refl _, by go_num, by go_num, KN.out, A3.out, B3.out⟩
        · refine (pred_yes x bx u wa (XB.out.but BA.out (fun h => h)) (by omega)).mono ?_
          rintro e w2 ⟨rfl, o, hw2⟩
          have B2 := Lib.hid (show But (fun _ => False) wr w2 by rw [hw2]; exact BA.out.alloc o)
          have KN := Lib.hid (KK.out.skip hlt (by rw [HX.out]; exact hs))
          clear hw2
          go_wp2
          go_roundg (L.length - (j + 1))
          case measure => omega
          case rel => exact ⟨i, j + 1, M, Nat.le_refl _, rfl, by go_num, KN.out, AT.out.but B2.out (fun h => h), BW.out.trans B2.out (fun _ h _ => h.elim)⟩
      · obtain rfl : j = L.length := by omega
        clear hK hat hbw
        have hic : ¬ c = i := by omega
        have hiL : i ≤ L.length := by omega
        have hiC : i ≤ c := by omega
        obtain ⟨w2, hrun, ⟨tail2, hat2, hlen2⟩, hb2⟩ := clear_run (c := c - i) (n := L.length - i) 0 AT.out (i := i) (by have := hml.out; omega) (by have := hml.out; omega)
        have RL := Lib.hid (H.out.left KK.out (BW.out.trans hb2 (fun _ h _ => h)) hat2 (by rw [hlen2, List.length_append, flat_len, hml.out, ← flat_len, ← List.length_append]; exact HC.out) hnc hcm hBg)
        have BL := Lib.hid (BW.out.trans hb2 (fun _ h _ => h))
        clear hb2 hat2 hlen2
        go_wp2_with fail
        go_ret
        exact ⟨_, rfl, RL.out, fun _ h => h, BL.out.mono (fun _ h _ => by rw [h]; rfl)⟩

end Go.Proofs.Ytolienlbdfbdeaa
