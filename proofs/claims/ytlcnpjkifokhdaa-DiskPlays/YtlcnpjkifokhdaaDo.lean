/-
  WHAT AN ACT MAKES OF A DISK; THE WALK OF THE BOOK'S do.
-/
import Derived.Test.YtlcnpjkifokhdaaSettle
import Derived.Test.YtlcnpjkifokhdaaFresh
import Derived.Test.YtlcnpjkifokhdaaRep
import Derived.Test.YtlcnpjkifokhdaaAwake
import Derived.Deep.CutRange
import Derived.Deep.CutBlock
import Derived.Deep.DeepCutAuto
namespace Go.Proofs.Ytlcnpjkifokhdaa
open Go.RowKit Go.Maps Go.Shelf
set_option linter.unusedVariables false
set_option maxRecDepth 100000

/-- What comes of an act: the disk, the operations done, the error, what is read. -/
structure Ans where
  s : DS
  u : Int
  e : Int
  r : Bytes
/-- An act: what is asked, where, the byte, whether it is too long, the bits. -/
structure Act1 where
  d : Nat
  at_ : Int
  fill : BitVec 8
  long : Bool
  keep : Nat
def Act1.cells (a : Act1) : Array Value := #[.int .u8 (a.d : Int), .int .i8 a.at_, .int .u8 (a.fill.toNat : Int), .bool a.long, .int .u64 (a.keep : Int)]
def Act1.ok (a : Act1) : Prop := a.d ≤ 255 ∧ (-128 ≤ a.at_ ∧ a.at_ ≤ 127) ∧ a.keep < 18446744073709551616
def three (x : BitVec 8) : Bytes := List.replicate 3 x
def act (s : DS) (u : Int) (a : Act1) (k : Nat) : Ans :=
  match k with
  | 0 => if s.has a.at_ then ⟨s.op u, u + 1, err (s.op u).dead, s.got u a.at_⟩ else ⟨s, u, 1, []⟩
  | 1 => if s.has a.at_ ∧ a.long = false then ⟨s.put u a.at_ (three a.fill), u + 1, err (s.op u).dead, []⟩ else ⟨s, u, 1, []⟩
  | 2 => ⟨s.fl u, u + 1, err (s.op u).dead, []⟩
  | 3 => ⟨s.cycle a.keep (wl s 6), u, 0, []⟩
  | 4 => ⟨{ s with failAt := u + a.at_ }, u, 0, []⟩
  | 5 => ⟨{ s with dead := true }, u, 0, []⟩
  | _ => ⟨blank 6 3, u, 0, []⟩
/-- Which of the seven kinds. -/
def kind (d : Nat) : Nat := if d % 10 < 2 then 0 else if d % 10 < 5 then 1 else d % 10 - 3

/-- A disk of six sectors of three bytes. -/
structure Small (s : DS) : Prop where
  sectors : s.sectors = 6
  size : s.size = 3
  dom : Dom s

def Bans (w : World) (b : Nat) (U : Nat → Prop) (an : Ans) (e : Ending) (w' : World) : Prop :=
  ∃ U' A n cap, e = .returned (.tuple #[.slice A n cap, .int .i64 an.e]) ∧ n ≤ 3 ∧ Has w' A n an.r ∧ Bk w' b U' an.s an.u ∧ (∀ k, U' k → U k ∨ w.heap.size ≤ k) ∧ But (fun k => k = b) w w'

theorem bans_none {w w' : World} {b : Nat} {U U' : Nat → Prop} {s : DS} {u e : Int} (hB : Bk w' b U' s u) (hU : ∀ k, U' k → U k ∨ w.heap.size ≤ k) (hb : But (fun k => k = b) w w') : Bans w b U ⟨s, u, e, []⟩ (.returned (.tuple #[.slice none 0 0, .int .i64 e])) w' :=
  ⟨U', none, 0, 0, rfl, by omega, Has.nil _ _, hB, hU, hb⟩

section
variable {w : World} {b : Nat} {U : Nat → Prop} {s : DS} {u : Int}

/-- The disk behind a write that is done. -/
theorem put_lies {w1 w2 : World} {on wt : Nat → Value} {fb : Int} (h : Book w1 b U s u on wt fb) {i : Nat} (hi : i < 6) {x : Addr} {l : Bytes} (hh : Has w1 (some x) 3 l) (hx : U x.block) (hxb : ¬ x.block = b) :
    Book ((w1.setCell ⟨b, 6 + i, none⟩ (.slice (some x) 3 3)).setCell ⟨b, 12 + i, none⟩ (.int .i64 (s.writes i + 1))) b U (s.write i l) u on (setN wt i (.slice (some x) 3 3)) fb := by
  have k1 : Book (w1.setCell ⟨b, 6 + i, none⟩ (.slice (some x) 3 3)) b U { s with wait := fun j => if j = (i : Int) then some l else s.wait j } u on (setN wt i (.slice (some x) 3 3)) fb := by
    refine h.put (bs_wt hi _) h.onOK ?_ h.fail
    intro j hj
    by_cases e : j = i
    · subst e
      exact .inr ⟨x, 3, l, by simp [setN], by simp, hh, hx, hxb⟩
    · have := h.wtOK j hj
      have e' : ¬ (j : Int) = (i : Int) := by omega
      simpa [setN, e, e'] using this
  refine k1.put (s' := s.write i l) ?_ k1.onOK k1.wtOK k1.fail
  rw [bs_wr hi]
  congr 1
  funext j
  by_cases e : j = i
  · subst e
    simp [setN, DS.write]
  · have e' : ¬ (j : Int) = (i : Int) := by omega
    simp [setN, DS.write, e, e']

theorem all_bits (k : Nat) : (18446744073709551615 : Nat).testBit (k % 64) = true := by
  have h : k % 64 < 64 := Nat.mod_lt _ (by omega)
  have e : (18446744073709551615 : Nat) = 2 ^ 64 - 1 := by decide
  rw [e, Nat.testBit_two_pow_sub_one]
  simp [h]
theorem kept_all (ss : List Int) (i : Int) : ∀ k, k ≤ ss.length → (kept 18446744073709551615 ss i k = true ↔ i ∈ ss.take k)
  | 0, _ => by simp [kept]
  | k + 1, h => by
    have ih := kept_all ss i k (by omega)
    unfold kept
    rw [all_bits, Bool.and_true, Bool.or_eq_true, ih, decide_eq_true_iff, List.take_succ_eq_append_getElem (by omega), List.mem_append, List.mem_singleton]
    rw [List.getD_eq_getElem?_getD, List.getElem?_eq_getElem (by omega)]
    simp only [Option.getD_some]
    constructor
    · rintro (h | h)
      · exact .inl h
      · exact .inr h.symm
    · rintro (h | h)
      · exact .inl h
      · exact .inr h.symm
theorem cycle_all {s : DS} (h : Dom s) : s.cycle 18446744073709551615 (wl s 6) = s.flush := by
  have hW := wl_waits h
  have e : mix 18446744073709551615 (wl s 6) (wl s 6).length s.on s.wait = over s.on s.wait := by
    funext i
    unfold mix over
    have hk := kept_all (wl s 6) i _ (Nat.le_refl _)
    rw [List.take_length] at hk
    cases hc : s.wait i with
    | none =>
      have : ¬ i ∈ wl s 6 := fun hm => by
        have := (hW.2 i).1 hm
        rw [hc] at this
        cases this
      rw [if_neg (fun h => this (hk.1 h))]
    | some l =>
      have : i ∈ wl s 6 := (hW.2 i).2 (by rw [hc]; rfl)
      rw [if_pos (hk.2 this)]
  unfold DS.cycle DS.flush
  rw [e]
theorem op_small {s : DS} (h : Small s) (u : Int) : Small (s.op u) := ⟨h.sectors, h.size, h.dom⟩

/-- A book that fresh has laid. -/
theorem fresh_book {w2 w3 w4 : World} {on3 : Nat → Value} (hb : Below w2.heap.size w2 w3) (hm : ∀ i, i < 6 → Made w2 w3 on3 i) (hat : At w4 b (bcells on3 nils noughts false (-1) 0) 32) (hb4 : But (fun k => k = b) w3 w4) (hlt : b < w2.heap.size) :
    Bk (w4.setCell ⟨b, 20, none⟩ (.int .i64 u)) b (fun k => k = b ∨ (w2.heap.size ≤ k ∧ k < w3.heap.size)) (blank 6 3) u := by
  have k4 : Book w4 b (fun k => k = b ∨ (w2.heap.size ≤ k ∧ k < w3.heap.size)) (blank 6 3) 0 on3 nils (-1) := by
    refine ⟨hat, fun i hi => ?_, fun i hi => .inl ⟨rfl, rfl⟩, .inl rfl, .inl rfl, ?_⟩
    · obtain ⟨r, h1, h2, h3, h4⟩ := hm i hi
      have hne : ¬ r = b := by omega
      exact ⟨⟨r, 0, none⟩, 3, h1, h2.but hb4 (fun y hy => by injection hy with hy; subst hy; exact hne), .inr ⟨h3, h4⟩, hne⟩
    · rintro k (rfl | h)
      · exact hat.lt
      · exact Nat.lt_of_lt_of_le h.2 hb4.size
  exact ⟨on3, nils, -1, k4.put rfl k4.onOK k4.wtOK k4.fail⟩

set_option maxHeartbeats 6400000 in
theorem do_any (a : Act1) (ha : a.ok) (hs : Small s) (h : Bk w b U s u) (hu : 0 ≤ u ∧ u ≤ 1000) (hw : ∀ i, 0 ≤ s.writes i ∧ s.writes i ≤ 1000) : Calls Try.prog 13 #[.pointer (some ⟨b, 0, none⟩), .agg a.cells] w (Bans w b U (act s u a (kind a.d))) := by
  obtain ⟨d, at_, fill, long, keep⟩ := a
  obtain ⟨ha1, ha2, ha3⟩ := ha
  have H := Lib.hid h
  have HS := Lib.hid hs
  have HWR := Lib.hid hw
  clear h hs hw
  unfold Act1.cells
  simp only at ha1 ha2 ha3
  generalize hF : (fill.toNat : Int) = F
  have HF := Lib.hid hF
  clear hF
  obtain ⟨AN, hAN⟩ : ∃ AN, AN = act s u ⟨d, at_, fill, long, keep⟩ (kind d) := ⟨_, rfl⟩
  have HAN := Lib.hid hAN
  show Calls Try.prog 13 _ w (Bans w b U (act s u ⟨d, at_, fill, long, keep⟩ (kind d)))
  rw [← hAN]
  clear hAN
  obtain ⟨inn, hinn⟩ : ∃ inn, inn = decide (0 ≤ at_ ∧ at_ < 6) := ⟨_, rfl⟩
  have HINN := Lib.hid hinn
  clear hinn
  go_enter Try.func13, Try.ntmps13
  go_upto_region 2 with (fail)
  obtain ⟨W, hW⟩ : ∃ W, W = w.alloc (.cells #[.int .u8 (d : Int), .int .i8 at_, .int .u8 F, .bool long, .int .u64 (keep : Int)] 37) := ⟨_, rfl⟩
  rw [← hW]
  have A0 := Lib.hid (show At W w.heap.size #[.int .u8 (d : Int), .int .i8 at_, .int .u8 F, .bool long, .int .u64 (keep : Int)] 37 by rw [hW]; exact At.new _ 37 rfl)
  have B0 := Lib.hid (show Below w.heap.size w W by rw [hW]; exact (Below.refl _ _).alloc (Nat.le_refl _) _)
  have ca0 : W.cell? ⟨w.heap.size, 0, none⟩ = some (.int .u8 (d : Int)) := A0.out.cell 0
  have ca2 : W.cell? ⟨w.heap.size, 2, none⟩ = some (.int .u8 F) := A0.out.cell 2
  clear hW
  generalize hga : w.heap.size = ga at *
  have EGA := Lib.hid hga
  clear hga
  go_cut [8] (fun s8 wx => W = wx ∧ s8 = .bool inn)
  case first =>
    by_cases h0 : 0 ≤ at_
    · by_cases h6 : at_ < 6
      · go_wp2_with fail
        go_meet
        exact ⟨rfl, by rw [HINN.out, decide_eq_true ⟨h0, h6⟩]⟩
      · go_wp2_with fail
        go_meet
        exact ⟨rfl, by rw [HINN.out, decide_eq_false (by omega)]⟩
    · go_wp2_with fail
      go_meet
      exact ⟨rfl, by rw [HINN.out, decide_eq_false (by omega)]⟩
  case rest =>
    obtain ⟨rfl, rfl⟩ := hcut
    go_wp2_with fail
    refine (rep3 fill W.heap.size _ (one_has W _ rfl fill F HF.out.symm)).mono ?_
    rintro e w2 ⟨gd, rfl, hown, hb2⟩
    have hW2 : Below W.heap.size W w2 := ((Below.refl _ W).alloc (Nat.le_refl _) (.cells #[.int .u8 F] 5)).trans (hb2.mono (by simp))
    have a2 := A0.out.below hW2 A0.out.lt
    have cb0 : w2.cell? ⟨ga, 0, none⟩ = some (.int .u8 (d : Int)) := a2.cell 0
    have cb3 : w2.cell? ⟨ga, 3, none⟩ = some (.bool long) := a2.cell 3
    have cb4 : w2.cell? ⟨ga, 4, none⟩ = some (.int .u64 (keep : Int)) := a2.cell 4
    have hBel : Below ga w w2 := B0.out.trans (hW2.mono (by rw [← EGA.out]; exact B0.out.size))
    have hK2 : Bk w2 b U s u := H.out.but (S := fun _ => False) (But.of_below (by rw [EGA.out]; exact hBel)) (fun _ _ h => h)
    obtain ⟨hrow, _, hrg⟩ := own_slice hown
    have hgd := (hrg _ rfl).1
    have hgs : (W.alloc (.cells #[.int .u8 F] 5)).heap.size = W.heap.size + 1 := by simp
    rw [hgs] at hgd
    have hgw : ga < W.heap.size := A0.out.lt
    have ROW := Lib.hid (show Has w2 (some ⟨gd, 0, none⟩) 3 (three fill) from hrow)
    have GD := Lib.hid (And.intro hgd (hrg _ rfl).2)
    have K2 := Lib.hid hK2
    have BEL := Lib.hid hBel
    have HB0 := Lib.hid (show Bk W b U s u from H.out.but (S := fun _ => False) (But.of_below (by rw [EGA.out]; exact B0.out)) (fun _ _ h => h))
    clear hown hb2 hW2 a2 hBel hK2 hrow hrg hgd hgs ca0 ca2 H A0 B0
    go_upto_region 8 with (fail)
    have BW := Lib.hid (show But (fun k => k = b) w w2 from But.of_below (by rw [EGA.out]; exact BEL.out))
    have hcase : d % 10 = 0 ∨ d % 10 = 1 ∨ d % 10 = 2 ∨ d % 10 = 3 ∨ d % 10 = 4 ∨ d % 10 = 5 ∨ d % 10 = 6 ∨ d % 10 = 7 ∨ d % 10 = 8 ∨ d % 10 = 9 := by omega
    rcases hcase with hD | hD | hD | hD | hD | hD | hD | hD | hD | hD
    · have hDi : (d : Int) % 10 = 0 := by omega
      rw [hDi]
      have hkd : kind d = 0 := by unfold kind; rw [if_pos (by omega)]
      cases inn
      · have hno : ¬ s.has at_ := by
          have h1 := of_decide_eq_false HINN.out.symm
          have h2 := HS.out.sectors
          intro h
          unfold DS.has at h
          rw [h2] at h
          exact h1 ⟨h.1, by simpa using h.2⟩
        have hAN := Lib.hid (show AN = ⟨s, u, 1, []⟩ by rw [HAN.out, hkd]; show (if s.has at_ then _ else _) = _; rw [if_neg hno])
        clear hno hkd
        go_wp2
        go_ret2
        rw [hAN.out]
        exact bans_none K2.out (fun _ h => .inl h) BW.out
      · obtain ⟨i, rfl, hi6⟩ : ∃ i : Nat, at_ = (i : Int) ∧ i < 6 := by
          have h1 := of_decide_eq_true HINN.out.symm
          exact ⟨at_.toNat, by omega, by omega⟩
        have hyes : s.has (i : Int) := by
          have h2 := HS.out.sectors
          unfold DS.has
          rw [h2]
          omega
        have hAN := Lib.hid (show AN = ⟨s.op u, u + 1, err (s.op u).dead, s.got u i⟩ by rw [HAN.out, hkd]; show (if s.has (i : Int) then _ else _) = _; rw [if_pos hyes])
        clear hyes hkd
        go_wp2_with fail
        refine (bop_any K2.out (by omega)).mono ?_
        rintro e w3 ⟨rfl, hK3, hb3⟩
        have K3 := Lib.hid hK3
        have B3 := Lib.hid (BW.out.trans hb3 (fun _ h _ => h))
        have SZ3 := Lib.hid hb3.size
        have B23 := Lib.hid hb3
        clear hK3 hb3
        cases hdd : (s.op u).dead
        · have HDD := Lib.hid hdd
          clear hdd
          obtain ⟨on, wt, fb, k3⟩ := K3.out
          have hwc : w3.cell? ⟨b, 6 + i, none⟩ = some (wt i) := (k3.at_.cell (6 + i)).trans (bc_wt hi6)
          have hoc : w3.cell? ⟨b, i, none⟩ = some (on i) := (k3.at_.cell i).trans (bc_on hi6)
          rcases k3.wtOK i hi6 with ⟨e1, e2⟩ | ⟨x, cap, l, e1, e2, e3, e4, e5⟩
          · obtain ⟨x, cap, o1, o2, o3, o4⟩ := k3.onOK i hi6
            rw [e1] at hwc
            rw [o1] at hoc
            have hnn := fun (w : World) => neq_nil w none 0 0
            have R := Lib.hid (show Has w3 (some x) 3 (s.got u i) by
              rw [DS.got_ok _ HDD.out]
              have e2' : s.wait i = none := e2
              have e6 : s.read i = (s.on i).getD zeros := by
                unfold DS.read DS.last
                rw [e2', HS.out.size]
                rfl
              rw [e6]
              exact o2)
            clear k3 e1 e2 o1 o2 o3 o4
            go_wp2
            go_ret2
            rw [hAN.out]
            exact ⟨U, some x, 3, cap, by rw [HDD.out]; rfl, by omega, R.out, K3.out, fun _ h => .inl h, B3.out⟩
          · rw [e1] at hwc
            have hnn := fun (w : World) => neq_nil w (some x) 3 cap
            have R := Lib.hid (show Has w3 (some x) 3 (s.got u i) by
              rw [DS.got_ok _ HDD.out]
              have e2' : s.wait i = some l := e2
              have e6 : s.read i = l := by
                unfold DS.read DS.last
                rw [e2']
                rfl
              rw [e6]
              exact e3)
            clear k3 e1 e2 e3 e4 e5
            go_wp2
            go_ret2
            rw [hAN.out]
            exact ⟨U, some x, 3, cap, by rw [HDD.out]; rfl, by omega, R.out, K3.out, fun _ h => .inl h, B3.out⟩
        · have HDD := Lib.hid hdd
          clear hdd
          go_wp2
          go_ret2
          rw [hAN.out, DS.got_no _ HDD.out, HDD.out]
          exact bans_none K3.out (fun _ h => .inl h) B3.out
    · have hDi : (d : Int) % 10 = 1 := by omega
      rw [hDi]
      have hkd : kind d = 0 := by unfold kind; rw [if_pos (by omega)]
      cases inn
      · have hno : ¬ s.has at_ := by
          have h1 := of_decide_eq_false HINN.out.symm
          have h2 := HS.out.sectors
          intro h
          unfold DS.has at h
          rw [h2] at h
          exact h1 ⟨h.1, by simpa using h.2⟩
        have hAN := Lib.hid (show AN = ⟨s, u, 1, []⟩ by rw [HAN.out, hkd]; show (if s.has at_ then _ else _) = _; rw [if_neg hno])
        clear hno hkd
        go_wp2
        go_ret2
        rw [hAN.out]
        exact bans_none K2.out (fun _ h => .inl h) BW.out
      · obtain ⟨i, rfl, hi6⟩ : ∃ i : Nat, at_ = (i : Int) ∧ i < 6 := by
          have h1 := of_decide_eq_true HINN.out.symm
          exact ⟨at_.toNat, by omega, by omega⟩
        have hyes : s.has (i : Int) := by
          have h2 := HS.out.sectors
          unfold DS.has
          rw [h2]
          omega
        have hAN := Lib.hid (show AN = ⟨s.op u, u + 1, err (s.op u).dead, s.got u i⟩ by rw [HAN.out, hkd]; show (if s.has (i : Int) then _ else _) = _; rw [if_pos hyes])
        clear hyes hkd
        go_wp2_with fail
        refine (bop_any K2.out (by omega)).mono ?_
        rintro e w3 ⟨rfl, hK3, hb3⟩
        have K3 := Lib.hid hK3
        have B3 := Lib.hid (BW.out.trans hb3 (fun _ h _ => h))
        have SZ3 := Lib.hid hb3.size
        have B23 := Lib.hid hb3
        clear hK3 hb3
        cases hdd : (s.op u).dead
        · have HDD := Lib.hid hdd
          clear hdd
          obtain ⟨on, wt, fb, k3⟩ := K3.out
          have hwc : w3.cell? ⟨b, 6 + i, none⟩ = some (wt i) := (k3.at_.cell (6 + i)).trans (bc_wt hi6)
          have hoc : w3.cell? ⟨b, i, none⟩ = some (on i) := (k3.at_.cell i).trans (bc_on hi6)
          rcases k3.wtOK i hi6 with ⟨e1, e2⟩ | ⟨x, cap, l, e1, e2, e3, e4, e5⟩
          · obtain ⟨x, cap, o1, o2, o3, o4⟩ := k3.onOK i hi6
            rw [e1] at hwc
            rw [o1] at hoc
            have hnn := fun (w : World) => neq_nil w none 0 0
            have R := Lib.hid (show Has w3 (some x) 3 (s.got u i) by
              rw [DS.got_ok _ HDD.out]
              have e2' : s.wait i = none := e2
              have e6 : s.read i = (s.on i).getD zeros := by
                unfold DS.read DS.last
                rw [e2', HS.out.size]
                rfl
              rw [e6]
              exact o2)
            clear k3 e1 e2 o1 o2 o3 o4
            go_wp2
            go_ret2
            rw [hAN.out]
            exact ⟨U, some x, 3, cap, by rw [HDD.out]; rfl, by omega, R.out, K3.out, fun _ h => .inl h, B3.out⟩
          · rw [e1] at hwc
            have hnn := fun (w : World) => neq_nil w (some x) 3 cap
            have R := Lib.hid (show Has w3 (some x) 3 (s.got u i) by
              rw [DS.got_ok _ HDD.out]
              have e2' : s.wait i = some l := e2
              have e6 : s.read i = l := by
                unfold DS.read DS.last
                rw [e2']
                rfl
              rw [e6]
              exact e3)
            clear k3 e1 e2 e3 e4 e5
            go_wp2
            go_ret2
            rw [hAN.out]
            exact ⟨U, some x, 3, cap, by rw [HDD.out]; rfl, by omega, R.out, K3.out, fun _ h => .inl h, B3.out⟩
        · have HDD := Lib.hid hdd
          clear hdd
          go_wp2
          go_ret2
          rw [hAN.out, DS.got_no _ HDD.out, HDD.out]
          exact bans_none K3.out (fun _ h => .inl h) B3.out
    · have hDi : (d : Int) % 10 = 2 := by omega
      rw [hDi]
      have hkd : kind d = 1 := by unfold kind; rw [if_neg (by omega), if_pos (by omega)]
      cases inn
      · have hno : ¬ s.has at_ := by
          have h1 := of_decide_eq_false HINN.out.symm
          have h2 := HS.out.sectors
          intro h
          unfold DS.has at h
          rw [h2] at h
          exact h1 ⟨h.1, by simpa using h.2⟩
        have hAN := Lib.hid (show AN = ⟨s, u, 1, []⟩ by rw [HAN.out, hkd]; show (if s.has at_ ∧ long = false then _ else _) = _; rw [if_neg (fun h => hno h.1)])
        clear hno hkd
        go_wp2
        go_ret2
        rw [hAN.out]
        exact bans_none K2.out (fun _ h => .inl h) BW.out
      · cases long
        · obtain ⟨i, rfl, hi6⟩ : ∃ i : Nat, at_ = (i : Int) ∧ i < 6 := by
            have h1 := of_decide_eq_true HINN.out.symm
            exact ⟨at_.toNat, by omega, by omega⟩
          have hyes : s.has (i : Int) := by
            have h2 := HS.out.sectors
            unfold DS.has
            rw [h2]
            omega
          have hAN := Lib.hid (show AN = ⟨s.put u i (three fill), u + 1, err (s.op u).dead, []⟩ by rw [HAN.out, hkd]; show (if s.has (i : Int) ∧ false = false then _ else _) = _; rw [if_pos ⟨hyes, rfl⟩])
          clear hyes hkd
          go_wp2_with fail
          refine (bop_any K2.out (by omega)).mono ?_
          rintro e w3 ⟨rfl, hK3, hb3⟩
          have K3 := Lib.hid hK3
          have B3 := Lib.hid (BW.out.trans hb3 (fun _ h _ => h))
          have SZ3 := Lib.hid hb3.size
          have B23 := Lib.hid hb3
          clear hK3 hb3
          cases hdd : (s.op u).dead
          · have HDD := Lib.hid hdd
            clear hdd
            obtain ⟨on, wt, fb, k3⟩ := K3.out
            have hbb : ¬ gd = b := by
              have h1 := K2.out
              obtain ⟨_, _, _, h1⟩ := h1
              obtain ⟨_, _, _, h0⟩ := HB0.out
              have := h0.lt b h0.own
              have := GD.out.1
              omega
            have k3' : Book w3 b (fun k => U k ∨ k = gd) (s.op u) (u + 1) on wt fb := ⟨k3.at_, k3.onOK.mono (fun _ h => .inl h), k3.wtOK.mono (fun _ h => .inl h), k3.fail, .inl k3.own, fun k hk => hk.elim (k3.lt k) (fun e => by rw [e]; exact Nat.lt_of_lt_of_le GD.out.2 SZ3.out)⟩
            have hrow3 : Has w3 (some ⟨gd, 0, none⟩) 3 (three fill) := ROW.out.but B23.out (fun y hy => by injection hy with hy; subst hy; exact hbb)
            have hwc : w3.cell? ⟨b, 6 + i, none⟩ = some (wt i) := (k3.at_.cell (6 + i)).trans (bc_wt hi6)
            have hwf := k3.at_.frozen (6 + i)
            have k4 : At (w3.setCell ⟨b, 6 + i, none⟩ (.slice (some ⟨gd, 0, none⟩) 3 3)) b _ 32 := k3.at_.set (6 + i) (.slice (some ⟨gd, 0, none⟩) 3 3)
            rw [bs_wt hi6] at k4
            have hnc : (w3.setCell ⟨b, 6 + i, none⟩ (.slice (some ⟨gd, 0, none⟩) 3 3)).cell? ⟨b, 12 + i, none⟩ = some (.int .i64 (s.writes i)) := (k4.cell (12 + i)).trans (bc_wr hi6)
            have hnf := k4.frozen (12 + i)
            have hwr : wrap64 (s.writes i + 1) = s.writes i + 1 := by have := HWR.out i; unfold wrap64; omega
            have FIN := Lib.hid (put_lies (w1 := w3) (w2 := w3) (l := three fill) k3' hi6 hrow3 (.inr rfl) hbb)
            obtain ⟨W4, hW4⟩ : ∃ W4, W4 = w3.setCell ⟨b, 6 + i, none⟩ (.slice (some ⟨gd, 0, none⟩) 3 3) := ⟨_, rfl⟩
            rw [← hW4] at hnc hnf FIN
            have B4 := Lib.hid (show But (fun k => k = b) w3 W4 by rw [hW4]; exact But.own _ _ _ _)
            have HW4 := Lib.hid hW4
            clear k3 k3' k4 hrow3 hW4 hbb
            go_wp2
            rw [← HW4.out]
            go_region
            go_wp2
            go_ret2
            rw [hAN.out, DS.put_ok _ _ HDD.out, HDD.out]
            refine bans_none ⟨_, _, _, FIN.out.but (S := fun _ => False) (But.refl _ _).drew (fun _ _ h => h)⟩ (fun k hk => hk.imp id (fun e => ?_)) ?_
            · rw [e]
              have := GD.out.1
              have := EGA.out
              omega
            · exact ((B3.out.trans B4.out (fun _ h _ => h)).trans (But.own _ _ _ _) (fun _ h _ => h)).drew
          · have HDD := Lib.hid hdd
            clear hdd
            go_wp2
            go_ret2
            rw [hAN.out, DS.put_no _ _ HDD.out, HDD.out]
            exact bans_none K3.out (fun _ h => .inl h) B3.out
        · have hAN := Lib.hid (show AN = ⟨s, u, 1, []⟩ by rw [HAN.out, hkd]; show (if s.has at_ ∧ true = false then _ else _) = _; rw [if_neg (fun h => by cases h.2)])
          clear hkd
          go_wp2
          go_ret2
          rw [hAN.out]
          exact bans_none K2.out (fun _ h => .inl h) BW.out
    · have hDi : (d : Int) % 10 = 3 := by omega
      rw [hDi]
      have hkd : kind d = 1 := by unfold kind; rw [if_neg (by omega), if_pos (by omega)]
      cases inn
      · have hno : ¬ s.has at_ := by
          have h1 := of_decide_eq_false HINN.out.symm
          have h2 := HS.out.sectors
          intro h
          unfold DS.has at h
          rw [h2] at h
          exact h1 ⟨h.1, by simpa using h.2⟩
        have hAN := Lib.hid (show AN = ⟨s, u, 1, []⟩ by rw [HAN.out, hkd]; show (if s.has at_ ∧ long = false then _ else _) = _; rw [if_neg (fun h => hno h.1)])
        clear hno hkd
        go_wp2
        go_ret2
        rw [hAN.out]
        exact bans_none K2.out (fun _ h => .inl h) BW.out
      · cases long
        · obtain ⟨i, rfl, hi6⟩ : ∃ i : Nat, at_ = (i : Int) ∧ i < 6 := by
            have h1 := of_decide_eq_true HINN.out.symm
            exact ⟨at_.toNat, by omega, by omega⟩
          have hyes : s.has (i : Int) := by
            have h2 := HS.out.sectors
            unfold DS.has
            rw [h2]
            omega
          have hAN := Lib.hid (show AN = ⟨s.put u i (three fill), u + 1, err (s.op u).dead, []⟩ by rw [HAN.out, hkd]; show (if s.has (i : Int) ∧ false = false then _ else _) = _; rw [if_pos ⟨hyes, rfl⟩])
          clear hyes hkd
          go_wp2_with fail
          refine (bop_any K2.out (by omega)).mono ?_
          rintro e w3 ⟨rfl, hK3, hb3⟩
          have K3 := Lib.hid hK3
          have B3 := Lib.hid (BW.out.trans hb3 (fun _ h _ => h))
          have SZ3 := Lib.hid hb3.size
          have B23 := Lib.hid hb3
          clear hK3 hb3
          cases hdd : (s.op u).dead
          · have HDD := Lib.hid hdd
            clear hdd
            obtain ⟨on, wt, fb, k3⟩ := K3.out
            have hbb : ¬ gd = b := by
              have h1 := K2.out
              obtain ⟨_, _, _, h1⟩ := h1
              obtain ⟨_, _, _, h0⟩ := HB0.out
              have := h0.lt b h0.own
              have := GD.out.1
              omega
            have k3' : Book w3 b (fun k => U k ∨ k = gd) (s.op u) (u + 1) on wt fb := ⟨k3.at_, k3.onOK.mono (fun _ h => .inl h), k3.wtOK.mono (fun _ h => .inl h), k3.fail, .inl k3.own, fun k hk => hk.elim (k3.lt k) (fun e => by rw [e]; exact Nat.lt_of_lt_of_le GD.out.2 SZ3.out)⟩
            have hrow3 : Has w3 (some ⟨gd, 0, none⟩) 3 (three fill) := ROW.out.but B23.out (fun y hy => by injection hy with hy; subst hy; exact hbb)
            have hwc : w3.cell? ⟨b, 6 + i, none⟩ = some (wt i) := (k3.at_.cell (6 + i)).trans (bc_wt hi6)
            have hwf := k3.at_.frozen (6 + i)
            have k4 : At (w3.setCell ⟨b, 6 + i, none⟩ (.slice (some ⟨gd, 0, none⟩) 3 3)) b _ 32 := k3.at_.set (6 + i) (.slice (some ⟨gd, 0, none⟩) 3 3)
            rw [bs_wt hi6] at k4
            have hnc : (w3.setCell ⟨b, 6 + i, none⟩ (.slice (some ⟨gd, 0, none⟩) 3 3)).cell? ⟨b, 12 + i, none⟩ = some (.int .i64 (s.writes i)) := (k4.cell (12 + i)).trans (bc_wr hi6)
            have hnf := k4.frozen (12 + i)
            have hwr : wrap64 (s.writes i + 1) = s.writes i + 1 := by have := HWR.out i; unfold wrap64; omega
            have FIN := Lib.hid (put_lies (w1 := w3) (w2 := w3) (l := three fill) k3' hi6 hrow3 (.inr rfl) hbb)
            obtain ⟨W4, hW4⟩ : ∃ W4, W4 = w3.setCell ⟨b, 6 + i, none⟩ (.slice (some ⟨gd, 0, none⟩) 3 3) := ⟨_, rfl⟩
            rw [← hW4] at hnc hnf FIN
            have B4 := Lib.hid (show But (fun k => k = b) w3 W4 by rw [hW4]; exact But.own _ _ _ _)
            have HW4 := Lib.hid hW4
            clear k3 k3' k4 hrow3 hW4 hbb
            go_wp2
            rw [← HW4.out]
            go_region
            go_wp2
            go_ret2
            rw [hAN.out, DS.put_ok _ _ HDD.out, HDD.out]
            refine bans_none ⟨_, _, _, FIN.out.but (S := fun _ => False) (But.refl _ _).drew (fun _ _ h => h)⟩ (fun k hk => hk.imp id (fun e => ?_)) ?_
            · rw [e]
              have := GD.out.1
              have := EGA.out
              omega
            · exact ((B3.out.trans B4.out (fun _ h _ => h)).trans (But.own _ _ _ _) (fun _ h _ => h)).drew
          · have HDD := Lib.hid hdd
            clear hdd
            go_wp2
            go_ret2
            rw [hAN.out, DS.put_no _ _ HDD.out, HDD.out]
            exact bans_none K3.out (fun _ h => .inl h) B3.out
        · have hAN := Lib.hid (show AN = ⟨s, u, 1, []⟩ by rw [HAN.out, hkd]; show (if s.has at_ ∧ true = false then _ else _) = _; rw [if_neg (fun h => by cases h.2)])
          clear hkd
          go_wp2
          go_ret2
          rw [hAN.out]
          exact bans_none K2.out (fun _ h => .inl h) BW.out
    · have hDi : (d : Int) % 10 = 4 := by omega
      rw [hDi]
      have hkd : kind d = 1 := by unfold kind; rw [if_neg (by omega), if_pos (by omega)]
      cases inn
      · have hno : ¬ s.has at_ := by
          have h1 := of_decide_eq_false HINN.out.symm
          have h2 := HS.out.sectors
          intro h
          unfold DS.has at h
          rw [h2] at h
          exact h1 ⟨h.1, by simpa using h.2⟩
        have hAN := Lib.hid (show AN = ⟨s, u, 1, []⟩ by rw [HAN.out, hkd]; show (if s.has at_ ∧ long = false then _ else _) = _; rw [if_neg (fun h => hno h.1)])
        clear hno hkd
        go_wp2
        go_ret2
        rw [hAN.out]
        exact bans_none K2.out (fun _ h => .inl h) BW.out
      · cases long
        · obtain ⟨i, rfl, hi6⟩ : ∃ i : Nat, at_ = (i : Int) ∧ i < 6 := by
            have h1 := of_decide_eq_true HINN.out.symm
            exact ⟨at_.toNat, by omega, by omega⟩
          have hyes : s.has (i : Int) := by
            have h2 := HS.out.sectors
            unfold DS.has
            rw [h2]
            omega
          have hAN := Lib.hid (show AN = ⟨s.put u i (three fill), u + 1, err (s.op u).dead, []⟩ by rw [HAN.out, hkd]; show (if s.has (i : Int) ∧ false = false then _ else _) = _; rw [if_pos ⟨hyes, rfl⟩])
          clear hyes hkd
          go_wp2_with fail
          refine (bop_any K2.out (by omega)).mono ?_
          rintro e w3 ⟨rfl, hK3, hb3⟩
          have K3 := Lib.hid hK3
          have B3 := Lib.hid (BW.out.trans hb3 (fun _ h _ => h))
          have SZ3 := Lib.hid hb3.size
          have B23 := Lib.hid hb3
          clear hK3 hb3
          cases hdd : (s.op u).dead
          · have HDD := Lib.hid hdd
            clear hdd
            obtain ⟨on, wt, fb, k3⟩ := K3.out
            have hbb : ¬ gd = b := by
              have h1 := K2.out
              obtain ⟨_, _, _, h1⟩ := h1
              obtain ⟨_, _, _, h0⟩ := HB0.out
              have := h0.lt b h0.own
              have := GD.out.1
              omega
            have k3' : Book w3 b (fun k => U k ∨ k = gd) (s.op u) (u + 1) on wt fb := ⟨k3.at_, k3.onOK.mono (fun _ h => .inl h), k3.wtOK.mono (fun _ h => .inl h), k3.fail, .inl k3.own, fun k hk => hk.elim (k3.lt k) (fun e => by rw [e]; exact Nat.lt_of_lt_of_le GD.out.2 SZ3.out)⟩
            have hrow3 : Has w3 (some ⟨gd, 0, none⟩) 3 (three fill) := ROW.out.but B23.out (fun y hy => by injection hy with hy; subst hy; exact hbb)
            have hwc : w3.cell? ⟨b, 6 + i, none⟩ = some (wt i) := (k3.at_.cell (6 + i)).trans (bc_wt hi6)
            have hwf := k3.at_.frozen (6 + i)
            have k4 : At (w3.setCell ⟨b, 6 + i, none⟩ (.slice (some ⟨gd, 0, none⟩) 3 3)) b _ 32 := k3.at_.set (6 + i) (.slice (some ⟨gd, 0, none⟩) 3 3)
            rw [bs_wt hi6] at k4
            have hnc : (w3.setCell ⟨b, 6 + i, none⟩ (.slice (some ⟨gd, 0, none⟩) 3 3)).cell? ⟨b, 12 + i, none⟩ = some (.int .i64 (s.writes i)) := (k4.cell (12 + i)).trans (bc_wr hi6)
            have hnf := k4.frozen (12 + i)
            have hwr : wrap64 (s.writes i + 1) = s.writes i + 1 := by have := HWR.out i; unfold wrap64; omega
            have FIN := Lib.hid (put_lies (w1 := w3) (w2 := w3) (l := three fill) k3' hi6 hrow3 (.inr rfl) hbb)
            obtain ⟨W4, hW4⟩ : ∃ W4, W4 = w3.setCell ⟨b, 6 + i, none⟩ (.slice (some ⟨gd, 0, none⟩) 3 3) := ⟨_, rfl⟩
            rw [← hW4] at hnc hnf FIN
            have B4 := Lib.hid (show But (fun k => k = b) w3 W4 by rw [hW4]; exact But.own _ _ _ _)
            have HW4 := Lib.hid hW4
            clear k3 k3' k4 hrow3 hW4 hbb
            go_wp2
            rw [← HW4.out]
            go_region
            go_wp2
            go_ret2
            rw [hAN.out, DS.put_ok _ _ HDD.out, HDD.out]
            refine bans_none ⟨_, _, _, FIN.out.but (S := fun _ => False) (But.refl _ _).drew (fun _ _ h => h)⟩ (fun k hk => hk.imp id (fun e => ?_)) ?_
            · rw [e]
              have := GD.out.1
              have := EGA.out
              omega
            · exact ((B3.out.trans B4.out (fun _ h _ => h)).trans (But.own _ _ _ _) (fun _ h _ => h)).drew
          · have HDD := Lib.hid hdd
            clear hdd
            go_wp2
            go_ret2
            rw [hAN.out, DS.put_no _ _ HDD.out, HDD.out]
            exact bans_none K3.out (fun _ h => .inl h) B3.out
        · have hAN := Lib.hid (show AN = ⟨s, u, 1, []⟩ by rw [HAN.out, hkd]; show (if s.has at_ ∧ true = false then _ else _) = _; rw [if_neg (fun h => by cases h.2)])
          clear hkd
          go_wp2
          go_ret2
          rw [hAN.out]
          exact bans_none K2.out (fun _ h => .inl h) BW.out
    · have hDi : (d : Int) % 10 = 5 := by omega
      rw [hDi]
      have hkd : kind d = 2 := by unfold kind; rw [if_neg (by omega), if_neg (by omega)]; omega
      have hAN := Lib.hid (show AN = ⟨s.fl u, u + 1, err (s.op u).dead, []⟩ by rw [HAN.out, hkd]; rfl)
      clear hkd
      go_wp2_with fail
      refine (bop_any K2.out (by omega)).mono ?_
      rintro e w3 ⟨rfl, hK3, hb3⟩
      have K3 := Lib.hid hK3
      have B3 := Lib.hid (BW.out.trans hb3 (fun _ h _ => h))
      have SZ3 := Lib.hid hb3.size
      have B23 := Lib.hid hb3
      clear hK3 hb3
      cases hdd : (s.op u).dead
      · have HDD := Lib.hid hdd
        clear hdd
        go_wp2_with fail
        refine (settle_any 18446744073709551615 (by decide) (op_small HS.out u).dom K3.out).mono ?_
        rintro e w4 ⟨rfl, hK4, hb4⟩
        have K4 := Lib.hid hK4
        have B4 := Lib.hid (B3.out.trans hb4 (fun _ h _ => h))
        clear hK4 hb4
        go_wp2
        go_ret2
        rw [hAN.out, DS.fl_ok HDD.out, HDD.out, ← cycle_all (op_small HS.out u).dom]
        exact bans_none K4.out (fun _ h => .inl h) B4.out
      · have HDD := Lib.hid hdd
        clear hdd
        go_wp2
        go_ret2
        rw [hAN.out, DS.fl_no HDD.out, HDD.out]
        exact bans_none K3.out (fun _ h => .inl h) B3.out
    · have hDi : (d : Int) % 10 = 6 := by omega
      rw [hDi]
      have hkd : kind d = 3 := by unfold kind; rw [if_neg (by omega), if_neg (by omega)]; omega
      have hAN := Lib.hid (show AN = ⟨s.cycle keep (wl s 6), u, 0, []⟩ by rw [HAN.out, hkd]; rfl)
      clear hkd
      go_wp2_with fail
      refine (settle_any keep ha3 HS.out.dom K2.out).mono ?_
      rintro e w4 ⟨rfl, hK4, hb4⟩
      have K4 := Lib.hid hK4
      have B4 := Lib.hid (BW.out.trans hb4 (fun _ h _ => h))
      clear hK4 hb4
      go_wp2
      go_ret2
      rw [hAN.out]
      exact bans_none K4.out (fun _ h => .inl h) B4.out
    · have hDi : (d : Int) % 10 = 7 := by omega
      rw [hDi]
      have hkd : kind d = 4 := by unfold kind; rw [if_neg (by omega), if_neg (by omega)]; omega
      have hAN := Lib.hid (show AN = ⟨{ s with failAt := u + at_ }, u, 0, []⟩ by rw [HAN.out, hkd]; rfl)
      clear hkd
      obtain ⟨on, wt, fb, k2⟩ := K2.out
      obtain ⟨c18, c19, c20⟩ := k2.cells
      have f19 := k2.at_.frozen 19
      obtain ⟨X, hX⟩ : ∃ X, X = max (u + at_) (-1) := ⟨_, rfl⟩
      have hmx := fun (w : World) => run_max2 (P := Try.prog) w #[3, 3] 3 (u + at_) (-1) X hX
      have hsum : wrap64 (u + at_) = u + at_ := by unfold wrap64; omega
      have K4 := Lib.hid (show Bk (w2.setCell ⟨b, 19, none⟩ (.int .i64 X)) b U { s with failAt := u + at_ } u from ⟨on, wt, X, k2.put rfl k2.onOK k2.wtOK (by show Alike X (u + at_); unfold Alike; omega)⟩)
      have B4 := Lib.hid (BW.out.trans (But.own w2 b 19 (.int .i64 X)) (fun _ h _ => h))
      clear k2 c18 hX
      go_wp2
      go_ret2
      rw [hAN.out]
      exact bans_none K4.out (fun _ h => .inl h) B4.out
    · have hDi : (d : Int) % 10 = 8 := by omega
      rw [hDi]
      have hkd : kind d = 5 := by unfold kind; rw [if_neg (by omega), if_neg (by omega)]; omega
      have hAN := Lib.hid (show AN = ⟨{ s with dead := true }, u, 0, []⟩ by rw [HAN.out, hkd]; rfl)
      clear hkd
      obtain ⟨on, wt, fb, k2⟩ := K2.out
      obtain ⟨c18, c19, c20⟩ := k2.cells
      have f18 := k2.at_.frozen 18
      have K4 := Lib.hid (show Bk (w2.setCell ⟨b, 18, none⟩ (.bool true)) b U { s with dead := true } u from ⟨on, wt, fb, k2.put rfl k2.onOK k2.wtOK k2.fail⟩)
      have B4 := Lib.hid (BW.out.trans (But.own w2 b 18 (.bool true)) (fun _ h _ => h))
      clear k2 c19 c20
      go_wp2
      go_ret2
      rw [hAN.out]
      exact bans_none K4.out (fun _ h => .inl h) B4.out
    · have hDi : (d : Int) % 10 = 9 := by omega
      rw [hDi]
      have hkd : kind d = 6 := by unfold kind; rw [if_neg (by omega), if_neg (by omega)]; omega
      have hAN := Lib.hid (show AN = ⟨blank 6 3, u, 0, []⟩ by rw [HAN.out, hkd]; rfl)
      clear hkd
      obtain ⟨on, wt, fb, k2⟩ := K2.out
      obtain ⟨c18, c19, c20⟩ := k2.cells
      have L2 := Lib.hid k2.lt
      have O2 := Lib.hid k2.own
      have A2 := Lib.hid k2.at_
      clear k2 c18 c19
      go_wp2_with fail
      refine (fresh_any w2).mono ?_
      rintro e w3 ⟨on3, rfl, h1, h2, hb3⟩
      have H1 := Lib.hid h1
      have H2 := Lib.hid h2
      have B3 := Lib.hid hb3
      have A3 := Lib.hid (A2.out.below hb3 A2.out.lt)
      clear h1 h2 hb3
      go_wp2_with (refine wpList_store_whole rfl (.tmp 34) (.tmp 33) rfl b _ (bcells on3 nils noughts false (-1) 0) ?_ ?_ A3.out ?_ ?_ ?_ ?_)
      any_goals first | exact bc_one _ _ _ _ H1.out (fun _ _ => rfl) | (apply bc_size) | rfl
      intro w4 hat4 hb4
      have c20' : w4.cell? ⟨b, 20, none⟩ = some (.int .i64 0) := hat4.cell 20
      have f20' := hat4.frozen 20
      have FIN := Lib.hid (fresh_book (u := u) B3.out H2.out hat4 hb4 A2.out.lt)
      have B4 := Lib.hid ((BW.out.trans (But.of_below (S := fun k => k = b) B3.out) (fun _ h _ => h)).trans hb4 (fun _ h _ => h))
      have SZ := Lib.hid (show w.heap.size ≤ w2.heap.size from BW.out.size)
      clear hat4 hb4
      go_wp2
      go_ret2
      rw [hAN.out]
      exact bans_none FIN.out (fun k hk => hk.elim (fun e => .inl (by rw [e]; exact O2.out)) (fun h => .inr (Nat.le_trans SZ.out h.1))) (B4.out.trans (But.own _ _ _ _) (fun _ h _ => h))
end

end Go.Proofs.Ytlcnpjkifokhdaa
