/-
  TEXTS JOINED: L7Delete, L7Commit, L14Mem, L14Foot, L14WalkA.
-/
import Derived.Test.YtplmdmchkaacoaaGreatJ27
import Derived.Test.YtplmdmchkaacoaaGreatJ20
import Derived.Test.YtplmdmchkaacoaaGreatJ22
import Derived.Deep.LoopGhost
import Derived.Test.YtplmdmchkaacoaaGreatRows
import Derived.Test.YtplmdmchkaacoaaGreatJ28
import Derived.WalkKit
import Derived.ProofKit
import Derived.Laws.OwnMore
import Derived.Deep.Draws
import Derived.Laws.Rows
import Derived.Lib.Hide
import Derived.Lib.SliceRun
import Derived.BigQuiet
import Derived.Deep.QuietTactic
import Derived.Deep.AppendLies
import Derived.Maps.AppendAt
import Derived.Laws.AppendOwnNone
import Derived.Laws.CopyOwn

/-
  THE WALKS OF Commit's CLOSURE, slices.IndexFunc AND slices.DeleteFunc OF RECORDS.
-/
namespace Go.Proofs.YtplmdmchkaacoaaGreat.L7
open Go.RowKit
set_option linter.unusedVariables false
set_option maxRecDepth 100000

/-- Does the record stay? -/
def stays (u : Nat) (x : Rc) : Bool := decide (u < x.seq)
theorem stays_yes {u : Nat} {x : Rc} (h : u < x.seq) : stays u x = true := decide_eq_true h
theorem stays_no {u : Nat} {x : Rc} (h : ¬ u < x.seq) : stays u x = false := decide_eq_false h

theorem pred_yes (x : Rc) (bx u : Nat) (w : World) (h : At w bx #[.int .u64 (u : Int)] 48) (hx : x.seq ≤ u) :
    Calls Tryz.prog 132 #[.agg #[.int .u64 (x.seq : Int), .int .i64 x.kind, .int .i64 x.lba, .slice x.A x.n x.c], .pointer (some ⟨bx, 0, none⟩)] w fun e w' => e = .returned (.bool true) ∧ ∃ o, w' = w.alloc o := by
  have hc : ∀ o, (w.alloc o).cell? ⟨bx, 0, none⟩ = some (.int .u64 (u : Int)) := fun o => (h.alloc o).cell 0
  have hi : (x.seq : Int) ≤ (u : Int) := by omega
  clear h
  go_enter Tryz.func132, Tryz.ntmps132
  go_wp2
  go_ret
  exact ⟨by simp, _, rfl⟩
theorem pred_no (x : Rc) (bx u : Nat) (w : World) (h : At w bx #[.int .u64 (u : Int)] 48) (hx : u < x.seq) :
    Calls Tryz.prog 132 #[.agg #[.int .u64 (x.seq : Int), .int .i64 x.kind, .int .i64 x.lba, .slice x.A x.n x.c], .pointer (some ⟨bx, 0, none⟩)] w fun e w' => e = .returned (.bool false) ∧ ∃ o, w' = w.alloc o := by
  have hc : ∀ o, (w.alloc o).cell? ⟨bx, 0, none⟩ = some (.int .u64 (u : Int)) := fun o => (h.alloc o).cell 0
  have hi : ¬ (x.seq : Int) ≤ (u : Int) := by omega
  clear h
  go_enter Tryz.func132, Tryz.ntmps132
  go_wp2
  go_ret
  exact ⟨by simp, _, rfl⟩

theorem cell4 {w : World} {g i : Nat} {x : Rc} (hcell : ∀ j, j < 4 → w.cell? ⟨g, i * 4 + j, none⟩ = x.cs[j]?) : w.cell? ⟨g, i * 4, none⟩ = some (.int .u64 (x.seq : Int)) ∧ w.cell? ⟨g, i * 4 + 1, none⟩ = some (.int .i64 x.kind) ∧ w.cell? ⟨g, i * 4 + 2, none⟩ = some (.int .i64 x.lba) ∧ w.cell? ⟨g, i * 4 + 3, none⟩ = some (.slice x.A x.n x.c) :=
  ⟨hcell 0 (by omega), hcell 1 (by omega), hcell 2 (by omega), hcell 3 (by omega)⟩

/-- Where the first record lies that does not stay; -1: nowhere. -/
def First (u : Nat) (L : List Rc) (i : Int) : Prop := (i = -1 ∧ ∀ x ∈ L, u < x.seq) ∨ ∃ k : Nat, i = (k : Int) ∧ ∃ h : k < L.length, L[k].seq ≤ u ∧ ∀ x ∈ L.take k, u < x.seq

theorem index_any (v : Value) (bx u : Nat) (L : List Rc) (w : World) (B : Nat) (hn : L.length ≤ 1000) (h : Rw w B v L) (hb : At w bx #[.int .u64 (u : Int)] 48) :
    Calls Tryz.prog 119 #[v, .func (.func 132) #[] #[.pointer (some ⟨bx, 0, none⟩)]] w fun e w' => ∃ i, e = .returned (.int .i64 i) ∧ First u L i ∧ Below w.heap.size w w' := by
  obtain ⟨A, c, rfl⟩ := h.slice
  have H := Lib.hid h
  have HB := Lib.hid hb
  clear h hb
  go_enter Tryz.func119, Tryz.ntmps119
  go_wp2
  go_loopw [8] (fun i wr => ∃ k : Nat, k ≤ L.length ∧ i = .int .i64 k ∧ (∀ x ∈ L.take k, u < x.seq) ∧ Below w.heap.size w wr) (fun i _ => L.length - (RowKit.intOf i).toNat)
  case atStart => exact ⟨0, Nat.zero_le _, rfl, fun x hx => (by simp at hx), Below.refl _ _⟩
  case round =>
    obtain ⟨k, hk, rfl, hall, hbw⟩ := hrel
    have AL := Lib.hid hall
    have BW := Lib.hid hbw
    by_cases hlt : k < L.length
    · have hr := H.out.up hbw
      obtain ⟨g, cap, tail, e1, hB, hat, _⟩ := hr.form (by omega)
      injection e1 with e1 _ e2
      subst e1 e2
      obtain ⟨q0, q1, q2, q3⟩ := cell4 (row_cells hat hlt)
      obtain ⟨x, hx⟩ : ∃ x, L[k] = x := ⟨_, rfl⟩
      rw [hx] at q0 q1 q2 q3
      have HX := Lib.hid hx
      have hbx := HB.out.below hbw HB.out.lt
      have XB := Lib.hid hbx
      clear hall hbw hr hat hx hbx hB
      by_cases hs : x.seq ≤ u
      · go_wp2_with fail
        refine (pred_yes x bx u wr XB.out hs).mono ?_
        rintro e w2 ⟨rfl, o, rfl⟩
        go_wp2
        go_ret
        exact ⟨_, rfl, .inr ⟨k, rfl, hlt, by rw [HX.out]; exact hs, AL.out⟩, BW.out.alloc BW.out.size _⟩
      · have hs' : u < x.seq := by omega
        go_wp2_with fail
        refine (pred_no x bx u wr XB.out hs').mono ?_
        rintro e w2 ⟨rfl, o, rfl⟩
        go_wp2
        go_roundw
        case rel =>
          refine ⟨k + 1, by omega, by go_num, fun y hy => ?_, BW.out.alloc BW.out.size _⟩
          rw [List.take_succ_eq_append_getElem hlt, HX.out] at hy
          rcases List.mem_append.1 hy with hy | hy
          · exact AL.out y hy
          · simp at hy; subst hy; exact hs'
        case measure => simp [RowKit.intOf]; omega
    · have e0 : k = L.length := by omega
      subst e0
      clear hall hbw
      go_wp2
      go_ret
      exact ⟨_, rfl, .inl ⟨rfl, fun x hx => AL.out x (by rw [List.take_of_length_le (Nat.le_refl _)]; exact hx)⟩, BW.out⟩

/-- Of the first j records those that stay lie at the row's head, i of them; from the j-th on all is as it was. -/
structure Kept (u : Nat) (L M : List Rc) (i j : Nat) : Prop where
  len : M.length = L.length
  low : M.take i = (L.take j).filter (stays u)
  high : M.drop j = L.drop j
  lt : i < j
  le : j ≤ L.length
theorem filter_all {u : Nat} {L : List Rc} (h : ∀ x ∈ L, u < x.seq) : L.filter (stays u) = L := List.filter_eq_self.2 (fun x hx => stays_yes (h x hx))
theorem Kept.start {u k : Nat} {L : List Rc} (hk : k < L.length) (hs : L[k].seq ≤ u) (h : ∀ x ∈ L.take k, u < x.seq) : Kept u L L k (k + 1) := by
  refine ⟨rfl, ?_, rfl, by omega, by omega⟩
  rw [List.take_succ_eq_append_getElem hk, List.filter_append, filter_all h]
  simp [stays_no (show ¬ u < L[k].seq by omega)]
theorem Kept.one {u i j : Nat} {L M : List Rc} (h : Kept u L M i j) (hj : j < L.length) : ∃ hm : j < M.length, M[j] = L[j] := by
  have hm : j < M.length := by rw [h.len]; exact hj
  refine ⟨hm, ?_⟩
  have h1 := congrArg (fun l => l[0]?) h.high
  simp only [List.getElem?_drop, Nat.add_zero] at h1
  rw [List.getElem?_eq_getElem hm, List.getElem?_eq_getElem hj] at h1
  injection h1
theorem Kept.high_next {u i j : Nat} {L M : List Rc} (h : Kept u L M i j) : M.drop (j + 1) = L.drop (j + 1) := by
  have h2 := congrArg (List.drop 1) h.high
  rw [List.drop_drop, List.drop_drop] at h2
  exact h2
theorem Kept.keep {u i j : Nat} {L M : List Rc} (h : Kept u L M i j) (hj : j < L.length) (hs : u < L[j].seq) : Kept u L (M.set i L[j]) (i + 1) (j + 1) := by
  have hlt := h.lt
  have hi : i < M.length := by rw [h.len]; omega
  refine ⟨by rw [List.length_set]; exact h.len, ?_, ?_, by omega, by omega⟩
  · rw [List.take_succ_eq_append_getElem hj, List.filter_append, ← h.low, List.take_set, List.take_succ_eq_append_getElem hi, List.set_append_right _ _ (by rw [List.length_take]; omega), List.length_take, show i - min i M.length = 0 by omega]
    simp [stays_yes hs]
  · rw [List.drop_set, if_pos (by omega)]
    exact h.high_next
theorem Kept.skip {u i j : Nat} {L M : List Rc} (h : Kept u L M i j) (hj : j < L.length) (hs : ¬ u < L[j].seq) : Kept u L M i (j + 1) := by
  have hlt := h.lt
  refine ⟨h.len, ?_, h.high_next, by omega, by omega⟩
  rw [List.take_succ_eq_append_getElem hj, List.filter_append, ← h.low]
  simp [stays_no hs]
theorem Kept.done {u i : Nat} {L M : List Rc} (h : Kept u L M i L.length) : M.take i = L.filter (stays u) := by
  rw [h.low, List.take_of_length_le (Nat.le_refl _)]

/-- The row with one record stored anew. -/
theorem part_row {M : List Rc} {tail : List Value} {i : Nat} {x : Rc} (hi : i < M.length) : part (flat M ++ tail).toArray (i * 4) #[.int .u64 (x.seq : Int), .int .i64 x.kind, .int .i64 x.lba, .slice x.A x.n x.c] = (flat (M.set i x) ++ tail).toArray := by
  unfold part
  rw [← flat_set M i x hi]
  have hl := flat_len M
  simp only [List.size_toArray, List.length_cons, List.length_nil]
  rw [List.take_append_of_le_length (by omega), List.drop_append_of_le_length (by omega)]
  simp [Rc.cs]

theorem rec_one (x : Rc) : (#[Value.int .u64 (x.seq : Int), .int .i64 x.kind, .int .i64 x.lba, .slice x.A x.n x.c].all (·.oneCell')) = true := by
  simp
  exact ⟨rfl, rfl, rfl, rfl⟩
def zrc : Rc := ⟨0, 0, 0, none, 0, 0, []⟩
theorem zero_rows (n : Nat) : (Builtin.zeroCells #[.int .u64 0, .int .i64 0, .int .i64 0, .slice none 0 0] n).toList = flat (List.replicate n zrc) := by
  apply List.ext_getElem?
  intro q
  by_cases hq : q < n * 4
  · have hm : q / 4 < (List.replicate n zrc).length := by rw [List.length_replicate]; omega
    have h1 := flat_get (List.replicate n zrc) (q / 4) hm (q % 4) (by omega)
    rw [show q / 4 * 4 + q % 4 = q by omega] at h1
    rw [h1, List.getElem_replicate]
    have : q % 4 = 0 ∨ q % 4 = 1 ∨ q % 4 = 2 ∨ q % 4 = 3 := by omega
    simp only [Builtin.zeroCells, Array.toList_map, List.getElem?_map, Array.toList_range]
    rw [List.getElem?_range (by simpa using hq)]
    rcases this with e | e | e | e <;> simp [e, zrc, Rc.cs]
  · rw [List.getElem?_eq_none (by simp [Builtin.zeroCells]; omega), List.getElem?_eq_none (by rw [flat_len, List.length_replicate]; omega)]
theorem cleared {M : List Rc} {tail : List Value} {i m : Nat} (hi : i < M.length) (hm : M.length - i = m + 1) :
    (flat M ++ tail).take (i * 4) ++ flat (List.replicate (m + 1) zrc) ++ (flat M ++ tail).drop (i * 4 + (flat (List.replicate (m + 1) zrc)).length) = flat (M.take i) ++ (flat (List.replicate (m + 1) zrc) ++ tail) := by
  have hl := flat_len M
  have hr : (flat (List.replicate (m + 1) zrc)).length = (m + 1) * 4 := by rw [flat_len, List.length_replicate]
  rw [List.take_append_of_le_length (by omega), flat_take M i (by omega), hr, show i * 4 + (m + 1) * 4 = (flat M).length by omega, List.drop_left, List.append_assoc]
/-- 'clear' of a row of records from the i-th on. -/
theorem clear_run {w : World} {g i n c : Nat} {M : List Rc} {tail : List Value} (ty : TypeId) (hat : At w g (flat M ++ tail).toArray 111) (hi : i < M.length) (hn : n = M.length - i) :
    ∃ w', (Builtin.clear_ #[40] ty #[.slice (some ⟨g, i * 4, none⟩) n c]).run Tryz.prog w = .ok (.tuple #[]) w' ∧ (∃ tail', At w' g (flat (M.take i) ++ tail').toArray 111 ∧ (flat (M.take i) ++ tail').length = (flat M ++ tail).length) ∧ But (fun k => k = g) w w' := by
  subst hn
  have hl := flat_len M
  have hst := run_storeCells_at Tryz.prog g (i * 4) 111 (flat (List.replicate (M.length - i) zrc)) 0 _ w hat (by rw [flat_len, List.length_replicate]; simp; omega) (flat_one _)
  have hv : ∀ w, (zeroValue 111).run Tryz.prog w = .ok (.agg #[.int .u64 0, .int .i64 0, .int .i64 0, .slice none 0 0]) w := fun w => by kernel_rfl
  obtain ⟨m, hm⟩ : ∃ m, M.length - i = m + 1 := ⟨M.length - i - 1, by omega⟩
  rw [hm] at hst ⊢
  have e := cleared (tail := tail) hi hm
  simp only [Nat.add_zero] at hst
  rw [e] at hst
  refine ⟨w.setRow g (flat (M.take i) ++ (flat (List.replicate (m + 1) zrc) ++ tail)).toArray, ?_, ⟨flat (List.replicate (m + 1) zrc) ++ tail, setRow_heap w g _ _ 111 _ hat, ?_⟩, setRow_but w g _⟩
  · simp [Builtin.clear_, run_underlying Tryz.underlying40, hv, Value.cells, zero_rows, hst]
  · have hr : (flat (List.replicate (m + 1) zrc)).length = (m + 1) * 4 := by rw [flat_len, List.length_replicate]
    have ht : (flat (M.take i)).length = i * 4 := by rw [flat_len, List.length_take]; congr 1; omega
    simp only [List.length_append]
    omega

/-- What DeleteFunc leaves: the row without the records up to u. -/
def Left (w : World) (B : Nat) (v : Value) (L : List Rc) (u : Nat) (e : Ending) (w' : World) : Prop :=
  ∃ v', e = .returned v' ∧ Rw w' B v' (L.filter (stays u)) ∧ (∀ k, v'.ownBlock = some k → v.ownBlock = some k) ∧ But (fun k => v.ownBlock = some k) w w'

theorem Rw.left {w w' : World} {B g c cap : Nat} {L M : List Rc} {tail : List Value} {u i : Nat} (h : Rw w B (.slice (some ⟨g, 0, none⟩) L.length c) L) (hk : Kept u L M i L.length) (hb : But (fun k => k = g) w w') (hat : At w' g (flat (M.take i) ++ tail).toArray 111)
    (hs : (flat (M.take i) ++ tail).length = cap * 4) (hi : L.length ≤ cap) (hc : cap ≤ maxLen) (hB : B ≤ g) : Rw w' B (.slice (some ⟨g, 0, none⟩) i cap) (L.filter (stays u)) := by
  have hl := hk.lt
  have hle := hk.len
  have e : (M.take i).length = i := by rw [List.length_take]; omega
  have h1 : ∀ x ∈ M.take i, x ∈ L := fun x hx => by
    rw [hk.done] at hx
    exact (List.mem_filter.1 hx).1
  have := Rw.of_at (B := B) hat hs (by omega) hc hB (fun x hx => (h.has x (h1 x hx)).apart hb (fun h0 a ha e => h.off x (h1 x hx) h0 a ha (by rw [e]; rfl))) (fun x hx => h.len x (h1 x hx)) (fun x hx h0 a ha e => h.off x (h1 x hx) h0 a ha (by rw [e]; rfl))
  rw [e, hk.done] at this
  exact this

set_option maxHeartbeats 3200000 in
theorem delete_any (v : Value) (bx u : Nat) (L : List Rc) (w : World) (B : Nat) (hn : L.length ≤ 1000) (h : Rw w B v L) (hb : At w bx #[.int .u64 (u : Int)] 48) (hbv : v.ownBlock ≠ some bx) :
    Calls Tryz.prog 75 #[v, .func (.func 132) #[] #[.pointer (some ⟨bx, 0, none⟩)]] w (Left w B v L u) := by
  have H := Lib.hid h
  have HB := Lib.hid hb
  have HN := Lib.hid hbv
  obtain ⟨A, c, rfl⟩ := h.slice
  clear h hb hbv
  go_enter Tryz.func75, Tryz.ntmps75
  go_wp2_with fail
  refine (index_any _ bx u L w B hn H.out HB.out).mono ?_
  rintro e w1 ⟨i, rfl, hF, hb1⟩
  have B1 := Lib.hid hb1
  clear hb1
  rcases hF with ⟨rfl, hall⟩ | ⟨k, rfl, hk, hs, hall⟩
  · have R := Lib.hid (show Rw w1 B (.slice A L.length c) (L.filter (stays u)) by rw [filter_all hall]; exact H.out.up B1.out)
    clear hall
    go_wp2
    go_ret
    exact ⟨_, rfl, R.out, fun _ h => h, But.of_below B1.out⟩
  · have K0 := Lib.hid (Kept.start hk hs hall)
    obtain ⟨g, cap, tail, e1, hBg, hat, hcs, hnc, hcm⟩ := (H.out.up B1.out).form (by omega)
    injection e1 with e1 _ e2
    subst e1 e2
    have AT := Lib.hid hat
    have HC := Lib.hid hcs
    have hne : ((k : Int) == -1) = false := by simp
    have hgl : g < w.heap.size := (H.out.own.lt g rfl).2
    have hbg : ¬ bx = g := fun e => HN.out (by rw [e]; rfl)
    have hcm' : c ≤ 9223372036854775807 := hcm
    clear hat hcs hs hall
    go_wp2_with fail
    go_loopg [5, 6, 7] L.length (fun gg s5 s6 _ wr => ∃ (i j : Nat) (M : List Rc), L.length - j ≤ gg ∧ s5 = .int .i64 i ∧ s6 = .int .i64 j ∧ Kept u L M i j ∧ At wr g (flat M ++ tail).toArray 111 ∧ But (fun k => k = g) w wr)
    case atStart => exact ⟨k, k + 1, L, by omega, rfl, by go_num, K0.out, AT.out, But.of_below B1.out⟩
    case round =>
      obtain ⟨i, j, M, hgg, rfl, rfl, hK, hat, hbw⟩ := hrel
      have KK := Lib.hid hK
      have AT := Lib.hid hat
      have BW := Lib.hid hbw
      have hij := hK.lt
      have hjl := hK.le
      have hml := Lib.hid hK.len
      by_cases hlt : j < L.length
      · obtain ⟨hm, e⟩ := hK.one hlt
        obtain ⟨q0, q1, q2, q3⟩ := cell4 (row_cells hat hm)
        obtain ⟨x, hx⟩ : ∃ x, L[j] = x := ⟨_, rfl⟩
        rw [e, hx] at q0 q1 q2 q3
        have HX := Lib.hid hx
        have XB := Lib.hid (HB.out.but hbw hbg)
        clear hK hat hbw e hx
        go_wp2_with fail
        obtain ⟨wa, hwa⟩ : ∃ wa, wa = wr.alloc (.cells #[.int .u64 (x.seq : Int), .int .i64 x.kind, .int .i64 x.lba, .slice x.A x.n x.c] 111) := ⟨_, rfl⟩
        rw [← hwa]
        have BA := Lib.hid (show But (fun _ => False) wr wa by rw [hwa]; exact (But.refl _ _).alloc _)
        have DA := Lib.hid (show At wa wr.heap.size #[.int .u64 (x.seq : Int), .int .i64 x.kind, .int .i64 x.lba, .slice x.A x.n x.c] 111 by rw [hwa]; exact At.new _ 111 rfl)
        clear hwa q0 q1 q2 q3
        generalize wr.heap.size = dv at *
        by_cases hs : u < x.seq
        · refine (pred_no x bx u wa (XB.out.but BA.out (fun h => h)) hs).mono ?_
          rintro e w2 ⟨rfl, o, hw2⟩
          have b2 : But (fun _ => False) wr w2 := by rw [hw2]; exact BA.out.alloc o
          have d2 : At w2 dv #[.int .u64 (x.seq : Int), .int .i64 x.kind, .int .i64 x.lba, .slice x.A x.n x.c] 111 := by rw [hw2]; exact DA.out.alloc o
          have q0 : w2.cell? ⟨dv, 0, none⟩ = some (.int .u64 (x.seq : Int)) := d2.cell 0
          have q1 : w2.cell? ⟨dv, 1, none⟩ = some (.int .i64 x.kind) := d2.cell 1
          have q2 : w2.cell? ⟨dv, 2, none⟩ = some (.int .i64 x.lba) := d2.cell 2
          have q3 : w2.cell? ⟨dv, 3, none⟩ = some (.slice x.A x.n x.c) := d2.cell 3
          have A2 := Lib.hid (AT.out.but b2 (fun h => h))
          have B2 := Lib.hid b2
          have hiM : i < M.length := by have := hml.out; omega
          have FT := Lib.hid (show i * 4 + 4 ≤ (flat M ++ tail).toArray.size by simp [flat_len]; omega)
          have KN := Lib.hid (KK.out.keep hlt (by rw [HX.out]; exact hs))
          rw [HX.out] at KN
          clear hw2 b2 d2
          go_wp2_with (refine wpList_store_part rfl 111 (.tmp 33) (.tmp 32) rfl g (i * 4) 111 (flat M ++ tail).toArray #[.int .u64 (x.seq : Int), .int .i64 x.kind, .int .i64 x.lba, .slice x.A x.n x.c] rfl rfl A2.out rec_size FT.out (rec_one x) ?_; intro w3 hat3 hb3)
          rw [part_row hiM] at hat3
          have A3 := Lib.hid hat3
          have B3 := Lib.hid ((BW.out.trans B2.out (fun _ h _ => h.elim)).trans hb3 (fun _ h _ => h))
          clear hat3 hb3 q0 q1 q2 q3
          go_wp2
          go_roundg (L.length - (j + 1))
          case measure => omega
          case rel => exact ⟨i + 1, j + 1, _, Nat.le_refl _, by go_num, by go_num, KN.out, A3.out, B3.out⟩
        · refine (pred_yes x bx u wa (XB.out.but BA.out (fun h => h)) (by omega)).mono ?_
          rintro e w2 ⟨rfl, o, hw2⟩
          have B2 := Lib.hid (show But (fun _ => False) wr w2 by rw [hw2]; exact BA.out.alloc o)
          have KN := Lib.hid (KK.out.skip hlt (by rw [HX.out]; exact hs))
          clear hw2
          go_wp2
          go_roundg (L.length - (j + 1))
          case measure => omega
          case rel => exact ⟨i, j + 1, M, Nat.le_refl _, rfl, by go_num, KN.out, AT.out.but B2.out (fun h => h), BW.out.trans B2.out (fun _ h _ => h.elim)⟩
      · obtain rfl : j = L.length := by omega
        clear hK hat hbw
        have hic : ¬ c = i := by omega
        have hiL : i ≤ L.length := by omega
        have hiC : i ≤ c := by omega
        obtain ⟨w2, hrun, ⟨tail2, hat2, hlen2⟩, hb2⟩ := clear_run (c := c - i) (n := L.length - i) 0 AT.out (i := i) (by have := hml.out; omega) (by have := hml.out; omega)
        have RL := Lib.hid (H.out.left KK.out (BW.out.trans hb2 (fun _ h _ => h)) hat2 (by rw [hlen2, List.length_append, flat_len, hml.out, ← flat_len, ← List.length_append]; exact HC.out) hnc hcm hBg)
        have BL := Lib.hid (BW.out.trans hb2 (fun _ h _ => h))
        clear hb2 hat2 hlen2
        go_wp2_with fail
        go_ret
        exact ⟨_, rfl, RL.out, fun _ h => h, BL.out.mono (fun _ h _ => by rw [h]; rfl)⟩

end Go.Proofs.YtplmdmchkaacoaaGreat.L7

/-
  THE WALK OF Commit.
-/
namespace Go.Proofs.YtplmdmchkaacoaaGreat.L7
open Go.RowKit
set_option linter.unusedVariables false
set_option maxRecDepth 100000

section
variable {w : World} {g p : Nat} {T : Nat → Prop} {s : NS}

theorem commit_out (d u : Int) (q : Nat) (h : Nv w g p T s) (hp : Pw w p u 0) : Calls Tryz.prog 87 #[.pointer (some ⟨g, 0, none⟩), .int .u64 d, .int .u64 (q : Int)] w fun e w' => e = .panicked out ∧ ∃ o, w' = w.alloc o := by
  obtain ⟨v, L, h⟩ := h
  have c0 : (w.alloc (.cells #[.int .u64 (q : Int)] 48)).cell? ⟨g, 0, none⟩ = some (.pointer (some ⟨p, 0, none⟩)) := (h.at_.alloc _).cell 0
  have P1 := Lib.hid (show Pw (w.alloc (.cells #[.int .u64 (q : Int)] 48)) p u 0 from At.alloc hp _)
  clear h hp
  go_enter Tryz.func87, Tryz.ntmps87
  go_wp2_with fail
  refine (tick_out p u _ P1.out).mono ?_
  rintro e w' ⟨rfl, rfl⟩
  unfold out
  go_wp2
  exact ⟨rfl, rfl, _, rfl⟩

theorem abs_filter (L : List Rc) (q : Nat) : (L.filter (stays q)).map Rc.abs = (L.map Rc.abs).filter (fun r => decide (q < r.seq)) := by
  rw [List.filter_map]
  rfl
theorem part_dur (p : Nat) (r : Rt) (v : Value) (last : Nat) (d : Int) : (ncells p r v last).setIfInBounds 8 (.int .u64 d) = ncells p { r with dur := d } v last := rfl
theorem part_recs' (p : Nat) (r : Rt) (v v' : Value) (last : Nat) : (ncells p r v last).setIfInBounds 10 v' = ncells p r v' last := rfl

theorem NvIs.kept {w2 w3 : World} {v v' : Value} {L : List Rc} {q : Nat} (h : NvIs w g p T s v L) (hr : Rw w2 0 v' (L.filter (stays q))) (hv : ∀ k, v'.ownBlock = some k → v.ownBlock = some k) (hb : But (fun k => v.ownBlock = some k) w w2) :
    NvIs (w2.setCell ⟨g, 10, none⟩ v') g p T { s with recs := s.recs.filter (fun r => decide (q < r.seq)) } v' (L.filter (stays q)) ∧ But T w (w2.setCell ⟨g, 10, none⟩ v') := by
  have bo := But.own w2 g 10 v'
  have v5 : ∀ k, v'.ownBlock = some k → T k ∧ k ≠ g := fun k hk => h.vT k (hv k hk)
  have d5 : ∀ x ∈ L.filter (stays q), 0 < x.n → ∀ a, x.A = some a → T a.block ∧ a.block ≠ g := fun x hx => h.dT x (List.mem_filter.1 hx).1
  have a2 : At w2 g (ncells p s.root v s.last) 114 := h.at_.but hb (fun e => (h.vT g e).2 rfl)
  refine ⟨⟨?_, hr.but bo (fun k hk => (v5 k hk).2) (fun x hx h0 a ha => (d5 x hx h0 a ha).2), ?_, h.gT, v5, d5, fun k hk => Nat.lt_of_lt_of_le (h.lt k hk) (Nat.le_trans hb.size bo.size), h.np⟩, (hb.mono (fun k hk _ => (h.vT k hk).1)).trans bo (fun k hk _ => hk ▸ h.gT)⟩
  · have := a2.set 10 v'
    rw [part_recs'] at this
    exact this
  · rw [abs_filter, h.abs]

set_option maxHeartbeats 800000 in
theorem commit_go (d u l : Int) (q : Nat) (h : Nv w g p T s) (hp : Pw w p u l) (hfew : s.recs.length ≤ 1000) (hu : 0 ≤ u ∧ u ≤ 1000000) (hl : ¬ l = 0) (hm : l ≤ 9223372036854775807) :
    Calls Tryz.prog 87 #[.pointer (some ⟨g, 0, none⟩), .int .u64 d, .int .u64 (q : Int)] w fun e w' => e = .returned (.tuple #[]) ∧ Nv w' g p T (s.commit d q) ∧ Pw w' p (u + 1) (less l) ∧ But (fun k => T k ∨ k = p) w w' := by
  have hmf : ∀ (fn : Fn) (first cap : Array Value) (w : World), (Instr.makeFunc fn first cap).run Tryz.prog w = .ok (.func fn first cap) w := fun _ _ _ _ => rfl
  obtain ⟨v, L, h⟩ := h
  have hL : L.length ≤ 1000 := by rw [h.len]; exact hfew
  have c0 : (w.alloc (.cells #[.int .u64 (q : Int)] 48)).cell? ⟨g, 0, none⟩ = some (.pointer (some ⟨p, 0, none⟩)) := (h.at_.alloc _).cell 0
  have P1 := Lib.hid (show Pw (w.alloc (.cells #[.int .u64 (q : Int)] 48)) p u l from At.alloc hp _)
  have X1 := Lib.hid (show At (w.alloc (.cells #[.int .u64 (q : Int)] 48)) w.heap.size #[.int .u64 (q : Int)] 48 from At.new _ 48 rfl)
  have N1 := Lib.hid (h.but (S := fun _ => False) ((But.refl _ w).alloc (.cells #[.int .u64 (q : Int)] 48)) (fun _ _ h => h))
  have hpl := Lib.hid hp.lt
  have O1 := Lib.hid (show ∀ k, T k → ¬ k = w.heap.size from fun k hk e => by have := h.lt k hk; omega)
  have B1 := Lib.hid ((But.refl (fun k => T k ∨ k = p) w).alloc (.cells #[.int .u64 (q : Int)] 48))
  clear h hp hfew
  go_enter Tryz.func87, Tryz.ntmps87
  go_wp2_with fail
  refine (tick_go p u l _ P1.out hu hl hm).mono ?_
  rintro e w2 ⟨rfl, hp2, hb2⟩
  have N2 := N1.out.but hb2 (fun k hk e => N1.out.np (e ▸ hk))
  have X2 := X1.out.but hb2 (by have := hpl.out; omega)
  have B2 := B1.out.trans hb2 (fun k e _ => .inr e)
  have bo := But.own w2 g 8 (.int .u64 d)
  have N3 := Lib.hid (show NvIs (w2.setCell ⟨g, 8, none⟩ (.int .u64 d)) g p T { s with root := { s.root with dur := d } } v L from
    ⟨by have := N2.at_.set 8 (.int .u64 d); rw [part_dur] at this; exact this, N2.rw.but bo (fun k hk => (N2.vT k hk).2) (fun x hx h0 a ha => (N2.dT x hx h0 a ha).2), N2.abs, N2.gT, N2.vT, N2.dT, fun k hk => Nat.lt_of_lt_of_le (N2.lt k hk) bo.size, N2.np⟩)
  have P3 := Lib.hid (show Pw (w2.setCell ⟨g, 8, none⟩ (.int .u64 d)) p (u + 1) (less l) from At.but hp2 bo (fun e => N2.np (e ▸ N2.gT)))
  have X3 := Lib.hid (X2.but bo (fun e => O1.out g N2.gT e.symm))
  have B3 := Lib.hid (B2.trans bo (fun k e _ => .inl (e ▸ N2.gT)))
  have c8 : w2.cell? ⟨g, 8, none⟩ = some (.int .u64 s.root.dur) := N2.at_.cell 8
  have f8 := N2.frozen 8
  have c10 : (w2.setCell ⟨g, 8, none⟩ (.int .u64 d)).cell? ⟨g, 10, none⟩ = some v := N3.out.cells.2.2.1
  clear hp2 hb2 N2 X2 B2 bo c0
  go_wp2_with fail
  generalize w2.setCell ⟨g, 8, none⟩ (.int .u64 d) = w3 at *
  refine (delete_any v w.heap.size q L w3 0 hL N3.out.rw X3.out (fun e => O1.out _ (N3.out.vT _ e).1 rfl)).mono ?_
  rintro e w4 ⟨v4, rfl, hr4, hv4, hb4⟩
  obtain ⟨A4, c4, rfl⟩ := hr4.slice
  generalize (L.filter (stays q)).length = n4 at *
  obtain ⟨nn4, b4⟩ := N3.out.kept (w3 := w3) hr4 hv4 hb4
  have a4 : At w4 g (ncells p { s.root with dur := d } v s.last) 114 := N3.out.at_.but hb4 (fun e => (N3.out.vT g e).2 rfl)
  have e10 : w4.cell? ⟨g, 10, none⟩ = some v := a4.cell 10
  have z10 := a4.frozen 10
  have N4 := Lib.hid nn4
  have P4 := Lib.hid (show Pw (w4.setCell ⟨g, 10, none⟩ (.slice A4 n4 c4)) p (u + 1) (less l) from At.but P3.out b4 N3.out.np)
  have B4 := Lib.hid (B3.out.trans b4 (fun k hk _ => .inl hk))
  clear nn4 b4 a4 hr4 hv4 hb4 c8 f8 c10
  go_wp2
  go_end0
  exact ⟨rfl, ⟨_, _, N4.out⟩, P4.out, B4.out⟩
end

end Go.Proofs.YtplmdmchkaacoaaGreat.L7

/-
  A SLICE OF BYTES THAT READS AS A LIST, nil let in: what is kept of it when memory grows, and of its parts.
-/
namespace Go.Proofs.YtplmdmchkaacoaaGreat.L14
set_option maxRecDepth 100000
open Go.Proofs.YtplmdmchkaacoaaGreat.L7
open Go.RowKit
set_option linter.unusedVariables false

section
variable {w w' : World} {A : Option Addr} {n : Nat} {l : List (BitVec 8)}

end

end Go.Proofs.YtplmdmchkaacoaaGreat.L14

/-
  WHAT A CALL MAY TURN: only the blocks that a set names, of those that were there; a block of its own; the counter.
-/
namespace Go.Proofs.YtplmdmchkaacoaaGreat.L14
set_option maxRecDepth 100000
open Go.Proofs.YtplmdmchkaacoaaGreat.L7
open Go.RowKit
set_option linter.unusedVariables false

section
variable {S T : Nat → Prop} {a b c w w' : World}

end

end Go.Proofs.YtplmdmchkaacoaaGreat.L14

/-
  THE WALKS OF slices.Clone, bytes.Clone AND slices.Equal OF BYTES.
-/
namespace Go.Proofs.YtplmdmchkaacoaaGreat.L14
set_option maxRecDepth 100000
open Go.Proofs.YtplmdmchkaacoaaGreat.L7
open Go.RowKit
set_option linter.unusedVariables false

end Go.Proofs.YtplmdmchkaacoaaGreat.L14
