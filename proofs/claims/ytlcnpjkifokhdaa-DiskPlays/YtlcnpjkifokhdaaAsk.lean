/-
  THE WALK OF ask.
-/
import Derived.Test.YtlcnpjkifokhdaaDo
import Derived.Deep.RegionHeld3
namespace Go.Proofs.Ytlcnpjkifokhdaa
open Go.RowKit Go.Maps Go.Shelf
set_option linter.unusedVariables false
set_option maxRecDepth 100000

def Dans (B : Nat) (w0 w : World) (g p : Nat) (T : Nat → Prop) (an : Ans) (e : Ending) (w' : World) : Prop :=
  ∃ T' A n cap, e = .returned (.tuple #[.slice A n cap, .int .i64 an.e]) ∧ n ≤ 3 ∧ Has w' A n an.r ∧ (∀ x, A = some x → w.heap.size ≤ x.block) ∧ Sys B w0 w' g p T' an.s an.u (-1) ∧ (∀ k, T' k → T k ∨ w.heap.size ≤ k) ∧ But (fun k => T k ∨ k = p) w w'

section
variable {B : Nat} {w0 w : World} {g p : Nat} {T : Nat → Prop} {s : DS} {u : Int}

theorem dans_none {w' : World} {T' : Nat → Prop} {e : Int} (h : Sys B w0 w' g p T' s u (-1)) (hT : ∀ k, T' k → T k ∨ w.heap.size ≤ k) (hb : But (fun k => T k ∨ k = p) w w') : Dans B w0 w g p T ⟨s, u, e, []⟩ (.returned (.tuple #[.slice none 0 0, .int .i64 e])) w' :=
  ⟨T', none, 0, 0, rfl, by omega, Has.nil _ _, (fun x hx => by cases hx), h, hT, hb⟩

theorem read_len {w : World} (h : Dk w g p T s) (i : Int) : (s.read i).length = s.size := by
  obtain ⟨bd, bw, bn, fd, fw, fn, h⟩ := h
  unfold DS.read DS.last
  rcases h.rowsWait i with ⟨h1, h2⟩ | ⟨A, cap, l, h1, h2, h3, _⟩
  · rw [h2]
    rcases h.rowsOn i with ⟨k1, k2⟩ | ⟨A, cap, l, k1, k2, k3, _⟩
    · rw [k2]
      simp
    · rw [k2]
      exact k3.1
  · rw [h2]
    exact h3.1
theorem got_len {w : World} (h : Dk w g p T s) (hs : Small s) (u i : Int) : (s.got u i).length ≤ 3 := by
  have := read_len h i
  unfold DS.got
  split
  · simp
  · rw [this, hs.size]
    omega

theorem write_three {w3 : World} (at_ : Int) (l : Bytes) (gd : Nat) (hs : Small s) (hh : s.has at_) (hY : Sys B w0 w3 g p T s u (-1)) (hrow : Has w3 (some ⟨gd, 0, none⟩) 3 l) (hoff : ¬ gd = g ∧ ¬ gd = p) (hu : 0 ≤ u ∧ u ≤ 1000) (hw : ∀ i, 0 ≤ s.writes i ∧ s.writes i ≤ 1000) :
    Calls Try.prog 21 #[.pointer (some ⟨g, 0, none⟩), .int .i64 at_, .slice (some ⟨gd, 0, none⟩) 3 3] w3 fun e w' => ∃ T4, e = .returned (.int .i64 (err (s.op u).dead)) ∧ Sys B w0 w' g p T4 (s.put u at_ l) (u + 1) (-1) ∧ (∀ k, T4 k → T k ∨ w3.heap.size ≤ k) ∧ But (fun k => T k ∨ k = p) w3 w' := by
  have hc := write_go (s := s) at_ u (-1) (some ⟨gd, 0, none⟩) 3 l hh hY.dk hY.pw (by rw [hs.size]; exact hrow) (fun x hx => by injection hx with hx; subst hx; exact hoff) (by omega) (by decide) (by decide) (by have := hw at_; omega)
  rw [hs.size] at hc
  refine hc.mono ?_
  rintro e w' ⟨T', rfl, hd, hp, hT, hb⟩
  exact ⟨T', rfl, hY.go hd hp hT hb, hT, hb⟩

set_option maxHeartbeats 6400000 in
theorem ask_any (a : Act1) (ha : a.ok) (hs : Small s) (h : Sys B w0 w g p T s u (-1)) (hu : 0 ≤ u ∧ u ≤ 1000) (hw : ∀ i, 0 ≤ s.writes i ∧ s.writes i ≤ 1000) : Calls Try.prog 12 #[.pointer (some ⟨p, 0, none⟩), .pointer (some ⟨g, 0, none⟩), .agg a.cells] w (Dans B w0 w g p T (act s u a (kind a.d))) := by
  obtain ⟨d, at_, fill, long, keep⟩ := a
  obtain ⟨ha1, ha2, ha3⟩ := ha
  have H := Lib.hid h
  have HS := Lib.hid hs
  have HWR := Lib.hid hw
  clear h hs hw
  unfold Act1.cells
  simp only at ha1 ha2 ha3
  generalize hF : (fill.toNat : Int) = F
  have HF := Lib.hid hF
  clear hF
  obtain ⟨AN, hAN⟩ : ∃ AN, AN = act s u ⟨d, at_, fill, long, keep⟩ (kind d) := ⟨_, rfl⟩
  have HAN := Lib.hid hAN
  show Calls Try.prog 12 _ w (Dans B w0 w g p T (act s u ⟨d, at_, fill, long, keep⟩ (kind d)))
  rw [← hAN]
  clear hAN
  go_enter Try.func12, Try.ntmps12
  go_upto_if 10 with (fail)
  obtain ⟨W, hW⟩ : ∃ W, W = w.alloc (.cells #[.int .u8 (d : Int), .int .i8 at_, .int .u8 F, .bool long, .int .u64 (keep : Int)] 37) := ⟨_, rfl⟩
  rw [← hW]
  have A0 := Lib.hid (show At W w.heap.size #[.int .u8 (d : Int), .int .i8 at_, .int .u8 F, .bool long, .int .u64 (keep : Int)] 37 by rw [hW]; exact At.new _ 37 rfl)
  have Y0 := Lib.hid (show Sys B w0 W g p T s u (-1) by rw [hW]; exact H.out.alloc _)
  have B0 := Lib.hid (show Below w.heap.size w W by rw [hW]; exact (Below.refl _ _).alloc (Nat.le_refl _) _)
  have ca0 : W.cell? ⟨w.heap.size, 0, none⟩ = some (.int .u8 (d : Int)) := A0.out.cell 0
  have ca1 : W.cell? ⟨w.heap.size, 1, none⟩ = some (.int .i8 at_) := A0.out.cell 1
  have ca2 : W.cell? ⟨w.heap.size, 2, none⟩ = some (.int .u8 F) := A0.out.cell 2
  have ca4 : W.cell? ⟨w.heap.size, 4, none⟩ = some (.int .u64 (keep : Int)) := A0.out.cell 4
  clear hW
  have OFF := Lib.hid (H.out.off _ (Nat.le_refl _))
  generalize hga : w.heap.size = ga at *
  have EGA := Lib.hid hga
  clear hga
  have hgw : ga < W.heap.size := A0.out.lt
  obtain ⟨nn, hnn⟩ : ∃ nn : Int, nn = if long then 4 else 3 := ⟨_, rfl⟩
  have HNN := Lib.hid hnn
  clear hnn
  go_cut [8] (fun s8 wx => W = wx ∧ s8 = .int .i64 nn)
  case first =>
    cases long
    · go_wp2_with fail
      go_meet
      exact ⟨rfl, by rw [HNN.out]; rfl⟩
    · go_wp2_with fail
      go_meet
      exact ⟨rfl, by rw [HNN.out]; rfl⟩
  case rest =>
    obtain ⟨rfl, rfl⟩ := hcut
    have BW := Lib.hid (show But (fun k => T k ∨ k = p) w W from But.of_below (by rw [EGA.out]; exact B0.out))
    go_upto_region 6 with (fail)
    have hcase : d % 10 = 0 ∨ d % 10 = 1 ∨ d % 10 = 2 ∨ d % 10 = 3 ∨ d % 10 = 4 ∨ d % 10 = 5 ∨ d % 10 = 6 ∨ d % 10 = 7 ∨ d % 10 = 8 ∨ d % 10 = 9 := by omega
    rcases hcase with hD | hD | hD | hD | hD | hD | hD | hD | hD | hD
    · have hDi : (d : Int) % 10 = 0 := by omega
      rw [hDi]
      have hkd : kind d = 0 := by unfold kind; rw [if_pos (by omega)]
      by_cases hh : s.has at_
      · have hAN := Lib.hid (show AN = ⟨s.op u, u + 1, err (s.op u).dead, s.got u at_⟩ by rw [HAN.out, hkd]; show (if s.has at_ then _ else _) = _; rw [if_pos hh])
        clear hkd
        go_wp2_with fail
        refine (read_go at_ u (-1) hh Y0.out.dk Y0.out.pw (by omega) (by decide) (by decide)).mono ?_
        rintro e w3 ⟨v, rfl, hr, hd, hp, hb⟩
        obtain ⟨A, cap, rfl, hA1, _, hA3⟩ := own_form hr
        have Y3 := Lib.hid (Y0.out.keep hd hp hb)
        have R3 := Lib.hid hA1
        have R4 := Lib.hid (show ∀ x, A = some x → ga ≤ x.block from fun x hx => by have := (hA3 x hx).1; omega)
        have B3 := Lib.hid (BW.out.trans (hb.mono (T := fun k => T k ∨ k = p) (fun k hk _ => hk.elim (fun e => .inl (e ▸ Y0.out.dk.own)) .inr)) (fun _ h _ => h))
        have LEN := Lib.hid (got_len Y0.out.dk HS.out u at_)
        clear hr hd hp hb hA1 hA3 hh
        generalize hn : (s.got u at_).length = n at *
        go_wp2
        go_ret2
        rw [hAN.out]
        refine ⟨T, A, n, cap, rfl, LEN.out, R3.out, by rw [EGA.out]; exact R4.out, Y3.out, fun _ h => .inl h, B3.out⟩
      · have hAN := Lib.hid (show AN = ⟨s, u, 1, []⟩ by rw [HAN.out, hkd]; show (if s.has at_ then _ else _) = _; rw [if_neg hh])
        clear hkd
        go_wp2_with fail
        refine (read_arg at_ hh Y0.out.dk).mono ?_
        rintro e w3 ⟨rfl, rfl⟩
        go_wp2
        go_ret2
        rw [hAN.out]
        exact dans_none Y0.out (fun _ h => .inl h) BW.out
    · have hDi : (d : Int) % 10 = 1 := by omega
      rw [hDi]
      have hkd : kind d = 0 := by unfold kind; rw [if_pos (by omega)]
      by_cases hh : s.has at_
      · have hAN := Lib.hid (show AN = ⟨s.op u, u + 1, err (s.op u).dead, s.got u at_⟩ by rw [HAN.out, hkd]; show (if s.has at_ then _ else _) = _; rw [if_pos hh])
        clear hkd
        go_wp2_with fail
        refine (read_go at_ u (-1) hh Y0.out.dk Y0.out.pw (by omega) (by decide) (by decide)).mono ?_
        rintro e w3 ⟨v, rfl, hr, hd, hp, hb⟩
        obtain ⟨A, cap, rfl, hA1, _, hA3⟩ := own_form hr
        have Y3 := Lib.hid (Y0.out.keep hd hp hb)
        have R3 := Lib.hid hA1
        have R4 := Lib.hid (show ∀ x, A = some x → ga ≤ x.block from fun x hx => by have := (hA3 x hx).1; omega)
        have B3 := Lib.hid (BW.out.trans (hb.mono (T := fun k => T k ∨ k = p) (fun k hk _ => hk.elim (fun e => .inl (e ▸ Y0.out.dk.own)) .inr)) (fun _ h _ => h))
        have LEN := Lib.hid (got_len Y0.out.dk HS.out u at_)
        clear hr hd hp hb hA1 hA3 hh
        generalize hn : (s.got u at_).length = n at *
        go_wp2
        go_ret2
        rw [hAN.out]
        refine ⟨T, A, n, cap, rfl, LEN.out, R3.out, by rw [EGA.out]; exact R4.out, Y3.out, fun _ h => .inl h, B3.out⟩
      · have hAN := Lib.hid (show AN = ⟨s, u, 1, []⟩ by rw [HAN.out, hkd]; show (if s.has at_ then _ else _) = _; rw [if_neg hh])
        clear hkd
        go_wp2_with fail
        refine (read_arg at_ hh Y0.out.dk).mono ?_
        rintro e w3 ⟨rfl, rfl⟩
        go_wp2
        go_ret2
        rw [hAN.out]
        exact dans_none Y0.out (fun _ h => .inl h) BW.out
    · have hDi : (d : Int) % 10 = 2 := by omega
      rw [hDi]
      have hkd : kind d = 1 := by unfold kind; rw [if_neg (by omega), if_pos (by omega)]
      have HFIVE := Lib.hid (show At W ga #[.int .u8 (d : Int), .int .i8 at_, .int .u8 F, .bool long, .int .u64 (keep : Int)] 37 from A0.out)
      have cw : IntKind.i64.wrap at_ = at_ := IntWalk.i64_in _ (by omega)
      have hk1 : W.drew.cell? ⟨ga, 1, none⟩ = some (.int .i8 at_) := ca1
      have hk2 : W.drew.cell? ⟨ga, 2, none⟩ = some (.int .u8 F) := ca2
      have hca1 : (W.drew.alloc (.cells #[.int .u8 F] 5)).cell? ⟨ga, 1, none⟩ = some (.int .i8 at_) := ((HFIVE.out.but (S := fun _ => False) (But.refl _ _).drew (fun h => h)).alloc _).cell 1
      have hca2 : (W.drew.alloc (.cells #[.int .u8 F] 5)).cell? ⟨ga, 2, none⟩ = some (.int .u8 F) := ((HFIVE.out.but (S := fun _ => False) (But.refl _ _).drew (fun h => h)).alloc _).cell 2
      have OFFN := Lib.hid (show ¬ (T ga ∨ ga = p) from fun h => h.elim OFF.out.1 OFF.out.2.2)
      cases long
      · obtain rfl : nn = 3 := HNN.out
        by_cases hh : s.has at_
        · have hAN := Lib.hid (show AN = ⟨s.put u at_ (three fill), u + 1, err (s.op u).dead, []⟩ by rw [HAN.out, hkd]; show (if s.has at_ ∧ false = false then _ else _) = _; rw [if_pos ⟨hh, rfl⟩])
          have HH := Lib.hid hh
          clear hkd hh
          go_wp2_with fail
          go_region_held3 (fun w' => w'.cell? ⟨ga, 1, none⟩ = some (.int .i8 at_) ∧ w'.cell? ⟨ga, 2, none⟩ = some (.int .u8 F)) (first | exact ⟨hk1, hk2⟩ | exact ⟨hcat, hcaf⟩ | exact ⟨hca1, hca2⟩ | exact ⟨hd1, hd2⟩ | go_keep)
            ((first
            | (go_at_call 28; refine (rep3 fill W.heap.size _ (one_has (W.drewN _) W.heap.size rfl fill F HF.out.symm)).mono ?_; rintro e w3 ⟨gd, rfl, hown3, hb3⟩; have Y3 := ((Y0.out.drewN 1).alloc (.cells #[.int .u8 F] 5)).up hb3; have R3 := own_slice hown3; have A3 := ((HFIVE.out.but (S := fun _ => False) ((But.refl _ _).drewN 1) (fun h => h)).alloc (.cells #[.int .u8 F] 5)).below hb3 (by simp; omega); have hcat : w3.cell? ⟨ga, 1, none⟩ = some (.int .i8 at_) := A3.cell 1; have hcaf : w3.cell? ⟨ga, 2, none⟩ = some (.int .u8 F) := A3.cell 2; have hlt3 := A3.lt; clear A3; have hg3 := (R3.2.2 _ rfl).1; have hb3' : But (fun k => T k ∨ k = p) w w3 := ((BW.out.drewN 1).alloc (.cells #[.int .u8 F] 5)).trans (But.of_below (S := fun _ => False) hb3) (fun _ h => h.elim); have SY := Lib.hid Y3; have SR := Lib.hid R3.1; have SG := Lib.hid (show W.heap.size ≤ gd by simp at hg3; omega); have SB := Lib.hid hb3'; clear hown3 hb3 Y3 R3 hg3 hb3')
            | (go_at_call 21; refine (write_three at_ (three fill) gd HS.out HH.out SY.out SR.out (Y0.out.off gd SG.out).2 hu HWR.out).mono ?_; rintro e w4 ⟨T4, rfl, hY4, hT4, hb4⟩; have hd1 : w4.cell? ⟨ga, 1, none⟩ = some (.int .i8 at_) := (hb4.cell (p := ⟨ga, 1, none⟩) hlt3 OFFN.out).trans hcat; have hd2 : w4.cell? ⟨ga, 2, none⟩ = some (.int .u8 F) := (hb4.cell (p := ⟨ga, 2, none⟩) hlt3 OFFN.out).trans hcaf; have Y4 := Lib.hid hY4; have TT4 := Lib.hid hT4; have B4 := Lib.hid (SB.out.trans hb4 (fun _ h _ => h)); have SZ4 := Lib.hid SB.out.size; clear hY4 hT4 hb4)))
          all_goals
            go_wp2
            go_ret2
            rw [hAN.out]
            exact dans_none Y4.out (fun k hk => (TT4.out k hk).imp id (fun h => Nat.le_trans SZ4.out h)) B4.out
        · have hAN := Lib.hid (show AN = ⟨s, u, 1, []⟩ by rw [HAN.out, hkd]; show (if s.has at_ ∧ false = false then _ else _) = _; rw [if_neg (fun h => hh h.1)])
          have HH := Lib.hid hh
          clear hkd hh
          go_wp2_with fail
          go_region_held3 (fun w' => w'.cell? ⟨ga, 1, none⟩ = some (.int .i8 at_) ∧ w'.cell? ⟨ga, 2, none⟩ = some (.int .u8 F)) (first | exact ⟨hk1, hk2⟩ | exact ⟨hcat, hcaf⟩ | exact ⟨hca1, hca2⟩ | exact ⟨hd1, hd2⟩ | go_keep)
            ((first
            | (go_at_call 28; refine (rep3 fill W.heap.size _ (one_has (W.drewN _) W.heap.size rfl fill F HF.out.symm)).mono ?_; rintro e w3 ⟨gd, rfl, hown3, hb3⟩; have Y3 := ((Y0.out.drewN 1).alloc (.cells #[.int .u8 F] 5)).up hb3; have R3 := own_slice hown3; have A3 := ((HFIVE.out.but (S := fun _ => False) ((But.refl _ _).drewN 1) (fun h => h)).alloc (.cells #[.int .u8 F] 5)).below hb3 (by simp; omega); have hcat : w3.cell? ⟨ga, 1, none⟩ = some (.int .i8 at_) := A3.cell 1; have hcaf : w3.cell? ⟨ga, 2, none⟩ = some (.int .u8 F) := A3.cell 2; have hlt3 := A3.lt; clear A3; have hg3 := (R3.2.2 _ rfl).1; have hb3' : But (fun k => T k ∨ k = p) w w3 := ((BW.out.drewN 1).alloc (.cells #[.int .u8 F] 5)).trans (But.of_below (S := fun _ => False) hb3) (fun _ h => h.elim); have SY := Lib.hid Y3; have SR := Lib.hid R3.1; have SG := Lib.hid (show W.heap.size ≤ gd by simp at hg3; omega); have SB := Lib.hid hb3'; clear hown3 hb3 Y3 R3 hg3 hb3')
            | (go_at_call 21; refine (write_arg at_ (some ⟨gd, 0, none⟩) 3 3 (.inl HH.out) SY.out.dk).mono ?_; rintro e w4 ⟨rfl, rfl⟩)))
          all_goals
            go_wp2
            go_ret2
            rw [hAN.out]
            exact dans_none SY.out (fun _ h => .inl h) SB.out
      · obtain rfl : nn = 4 := HNN.out
        have hAN := Lib.hid (show AN = ⟨s, u, 1, []⟩ by rw [HAN.out, hkd]; show (if s.has at_ ∧ true = false then _ else _) = _; rw [if_neg (fun h => by cases h.2)])
        clear hkd
        go_wp2_with fail
        go_region_held3 (fun w' => w'.cell? ⟨ga, 1, none⟩ = some (.int .i8 at_) ∧ w'.cell? ⟨ga, 2, none⟩ = some (.int .u8 F)) (first | exact ⟨hk1, hk2⟩ | exact ⟨hcat, hcaf⟩ | exact ⟨hca1, hca2⟩ | exact ⟨hd1, hd2⟩ | go_keep)
          ((first
          | (go_at_call 28; refine (rep4 fill W.heap.size _ (one_has (W.drewN _) W.heap.size rfl fill F HF.out.symm)).mono ?_; rintro e w3 ⟨gd, rfl, hown3, hb3⟩; have Y3 := ((Y0.out.drewN 1).alloc (.cells #[.int .u8 F] 5)).up hb3; have R3 := own_slice hown3; have A3 := ((HFIVE.out.but (S := fun _ => False) ((But.refl _ _).drewN 1) (fun h => h)).alloc (.cells #[.int .u8 F] 5)).below hb3 (by simp; omega); have hcat : w3.cell? ⟨ga, 1, none⟩ = some (.int .i8 at_) := A3.cell 1; have hcaf : w3.cell? ⟨ga, 2, none⟩ = some (.int .u8 F) := A3.cell 2; have hlt3 := A3.lt; clear A3; have hg3 := (R3.2.2 _ rfl).1; have hb3' : But (fun k => T k ∨ k = p) w w3 := ((BW.out.drewN 1).alloc (.cells #[.int .u8 F] 5)).trans (But.of_below (S := fun _ => False) hb3) (fun _ h => h.elim); have SY := Lib.hid Y3; have SR := Lib.hid R3.1; have SG := Lib.hid (show W.heap.size ≤ gd by simp at hg3; omega); have SB := Lib.hid hb3'; clear hown3 hb3 Y3 R3 hg3 hb3')
          | (go_at_call 21; refine (write_arg at_ (some ⟨gd, 0, none⟩) 4 4 (.inr (by rw [HS.out.size]; decide)) SY.out.dk).mono ?_; rintro e w4 ⟨rfl, rfl⟩)))
        all_goals
          go_wp2
          go_ret2
          rw [hAN.out]
          exact dans_none SY.out (fun _ h => .inl h) SB.out
    · have hDi : (d : Int) % 10 = 3 := by omega
      rw [hDi]
      have hkd : kind d = 1 := by unfold kind; rw [if_neg (by omega), if_pos (by omega)]
      have HFIVE := Lib.hid (show At W ga #[.int .u8 (d : Int), .int .i8 at_, .int .u8 F, .bool long, .int .u64 (keep : Int)] 37 from A0.out)
      have cw : IntKind.i64.wrap at_ = at_ := IntWalk.i64_in _ (by omega)
      have hk1 : W.drew.cell? ⟨ga, 1, none⟩ = some (.int .i8 at_) := ca1
      have hk2 : W.drew.cell? ⟨ga, 2, none⟩ = some (.int .u8 F) := ca2
      have hca1 : (W.drew.alloc (.cells #[.int .u8 F] 5)).cell? ⟨ga, 1, none⟩ = some (.int .i8 at_) := ((HFIVE.out.but (S := fun _ => False) (But.refl _ _).drew (fun h => h)).alloc _).cell 1
      have hca2 : (W.drew.alloc (.cells #[.int .u8 F] 5)).cell? ⟨ga, 2, none⟩ = some (.int .u8 F) := ((HFIVE.out.but (S := fun _ => False) (But.refl _ _).drew (fun h => h)).alloc _).cell 2
      have OFFN := Lib.hid (show ¬ (T ga ∨ ga = p) from fun h => h.elim OFF.out.1 OFF.out.2.2)
      cases long
      · obtain rfl : nn = 3 := HNN.out
        by_cases hh : s.has at_
        · have hAN := Lib.hid (show AN = ⟨s.put u at_ (three fill), u + 1, err (s.op u).dead, []⟩ by rw [HAN.out, hkd]; show (if s.has at_ ∧ false = false then _ else _) = _; rw [if_pos ⟨hh, rfl⟩])
          have HH := Lib.hid hh
          clear hkd hh
          go_wp2_with fail
          go_region_held3 (fun w' => w'.cell? ⟨ga, 1, none⟩ = some (.int .i8 at_) ∧ w'.cell? ⟨ga, 2, none⟩ = some (.int .u8 F)) (first | exact ⟨hk1, hk2⟩ | exact ⟨hcat, hcaf⟩ | exact ⟨hca1, hca2⟩ | exact ⟨hd1, hd2⟩ | go_keep)
            ((first
            | (go_at_call 28; refine (rep3 fill W.heap.size _ (one_has (W.drewN _) W.heap.size rfl fill F HF.out.symm)).mono ?_; rintro e w3 ⟨gd, rfl, hown3, hb3⟩; have Y3 := ((Y0.out.drewN 1).alloc (.cells #[.int .u8 F] 5)).up hb3; have R3 := own_slice hown3; have A3 := ((HFIVE.out.but (S := fun _ => False) ((But.refl _ _).drewN 1) (fun h => h)).alloc (.cells #[.int .u8 F] 5)).below hb3 (by simp; omega); have hcat : w3.cell? ⟨ga, 1, none⟩ = some (.int .i8 at_) := A3.cell 1; have hcaf : w3.cell? ⟨ga, 2, none⟩ = some (.int .u8 F) := A3.cell 2; have hlt3 := A3.lt; clear A3; have hg3 := (R3.2.2 _ rfl).1; have hb3' : But (fun k => T k ∨ k = p) w w3 := ((BW.out.drewN 1).alloc (.cells #[.int .u8 F] 5)).trans (But.of_below (S := fun _ => False) hb3) (fun _ h => h.elim); have SY := Lib.hid Y3; have SR := Lib.hid R3.1; have SG := Lib.hid (show W.heap.size ≤ gd by simp at hg3; omega); have SB := Lib.hid hb3'; clear hown3 hb3 Y3 R3 hg3 hb3')
            | (go_at_call 21; refine (write_three at_ (three fill) gd HS.out HH.out SY.out SR.out (Y0.out.off gd SG.out).2 hu HWR.out).mono ?_; rintro e w4 ⟨T4, rfl, hY4, hT4, hb4⟩; have hd1 : w4.cell? ⟨ga, 1, none⟩ = some (.int .i8 at_) := (hb4.cell (p := ⟨ga, 1, none⟩) hlt3 OFFN.out).trans hcat; have hd2 : w4.cell? ⟨ga, 2, none⟩ = some (.int .u8 F) := (hb4.cell (p := ⟨ga, 2, none⟩) hlt3 OFFN.out).trans hcaf; have Y4 := Lib.hid hY4; have TT4 := Lib.hid hT4; have B4 := Lib.hid (SB.out.trans hb4 (fun _ h _ => h)); have SZ4 := Lib.hid SB.out.size; clear hY4 hT4 hb4)))
          all_goals
            go_wp2
            go_ret2
            rw [hAN.out]
            exact dans_none Y4.out (fun k hk => (TT4.out k hk).imp id (fun h => Nat.le_trans SZ4.out h)) B4.out
        · have hAN := Lib.hid (show AN = ⟨s, u, 1, []⟩ by rw [HAN.out, hkd]; show (if s.has at_ ∧ false = false then _ else _) = _; rw [if_neg (fun h => hh h.1)])
          have HH := Lib.hid hh
          clear hkd hh
          go_wp2_with fail
          go_region_held3 (fun w' => w'.cell? ⟨ga, 1, none⟩ = some (.int .i8 at_) ∧ w'.cell? ⟨ga, 2, none⟩ = some (.int .u8 F)) (first | exact ⟨hk1, hk2⟩ | exact ⟨hcat, hcaf⟩ | exact ⟨hca1, hca2⟩ | exact ⟨hd1, hd2⟩ | go_keep)
            ((first
            | (go_at_call 28; refine (rep3 fill W.heap.size _ (one_has (W.drewN _) W.heap.size rfl fill F HF.out.symm)).mono ?_; rintro e w3 ⟨gd, rfl, hown3, hb3⟩; have Y3 := ((Y0.out.drewN 1).alloc (.cells #[.int .u8 F] 5)).up hb3; have R3 := own_slice hown3; have A3 := ((HFIVE.out.but (S := fun _ => False) ((But.refl _ _).drewN 1) (fun h => h)).alloc (.cells #[.int .u8 F] 5)).below hb3 (by simp; omega); have hcat : w3.cell? ⟨ga, 1, none⟩ = some (.int .i8 at_) := A3.cell 1; have hcaf : w3.cell? ⟨ga, 2, none⟩ = some (.int .u8 F) := A3.cell 2; have hlt3 := A3.lt; clear A3; have hg3 := (R3.2.2 _ rfl).1; have hb3' : But (fun k => T k ∨ k = p) w w3 := ((BW.out.drewN 1).alloc (.cells #[.int .u8 F] 5)).trans (But.of_below (S := fun _ => False) hb3) (fun _ h => h.elim); have SY := Lib.hid Y3; have SR := Lib.hid R3.1; have SG := Lib.hid (show W.heap.size ≤ gd by simp at hg3; omega); have SB := Lib.hid hb3'; clear hown3 hb3 Y3 R3 hg3 hb3')
            | (go_at_call 21; refine (write_arg at_ (some ⟨gd, 0, none⟩) 3 3 (.inl HH.out) SY.out.dk).mono ?_; rintro e w4 ⟨rfl, rfl⟩)))
          all_goals
            go_wp2
            go_ret2
            rw [hAN.out]
            exact dans_none SY.out (fun _ h => .inl h) SB.out
      · obtain rfl : nn = 4 := HNN.out
        have hAN := Lib.hid (show AN = ⟨s, u, 1, []⟩ by rw [HAN.out, hkd]; show (if s.has at_ ∧ true = false then _ else _) = _; rw [if_neg (fun h => by cases h.2)])
        clear hkd
        go_wp2_with fail
        go_region_held3 (fun w' => w'.cell? ⟨ga, 1, none⟩ = some (.int .i8 at_) ∧ w'.cell? ⟨ga, 2, none⟩ = some (.int .u8 F)) (first | exact ⟨hk1, hk2⟩ | exact ⟨hcat, hcaf⟩ | exact ⟨hca1, hca2⟩ | exact ⟨hd1, hd2⟩ | go_keep)
          ((first
          | (go_at_call 28; refine (rep4 fill W.heap.size _ (one_has (W.drewN _) W.heap.size rfl fill F HF.out.symm)).mono ?_; rintro e w3 ⟨gd, rfl, hown3, hb3⟩; have Y3 := ((Y0.out.drewN 1).alloc (.cells #[.int .u8 F] 5)).up hb3; have R3 := own_slice hown3; have A3 := ((HFIVE.out.but (S := fun _ => False) ((But.refl _ _).drewN 1) (fun h => h)).alloc (.cells #[.int .u8 F] 5)).below hb3 (by simp; omega); have hcat : w3.cell? ⟨ga, 1, none⟩ = some (.int .i8 at_) := A3.cell 1; have hcaf : w3.cell? ⟨ga, 2, none⟩ = some (.int .u8 F) := A3.cell 2; have hlt3 := A3.lt; clear A3; have hg3 := (R3.2.2 _ rfl).1; have hb3' : But (fun k => T k ∨ k = p) w w3 := ((BW.out.drewN 1).alloc (.cells #[.int .u8 F] 5)).trans (But.of_below (S := fun _ => False) hb3) (fun _ h => h.elim); have SY := Lib.hid Y3; have SR := Lib.hid R3.1; have SG := Lib.hid (show W.heap.size ≤ gd by simp at hg3; omega); have SB := Lib.hid hb3'; clear hown3 hb3 Y3 R3 hg3 hb3')
          | (go_at_call 21; refine (write_arg at_ (some ⟨gd, 0, none⟩) 4 4 (.inr (by rw [HS.out.size]; decide)) SY.out.dk).mono ?_; rintro e w4 ⟨rfl, rfl⟩)))
        all_goals
          go_wp2
          go_ret2
          rw [hAN.out]
          exact dans_none SY.out (fun _ h => .inl h) SB.out
    · have hDi : (d : Int) % 10 = 4 := by omega
      rw [hDi]
      have hkd : kind d = 1 := by unfold kind; rw [if_neg (by omega), if_pos (by omega)]
      have HFIVE := Lib.hid (show At W ga #[.int .u8 (d : Int), .int .i8 at_, .int .u8 F, .bool long, .int .u64 (keep : Int)] 37 from A0.out)
      have cw : IntKind.i64.wrap at_ = at_ := IntWalk.i64_in _ (by omega)
      have hk1 : W.drew.cell? ⟨ga, 1, none⟩ = some (.int .i8 at_) := ca1
      have hk2 : W.drew.cell? ⟨ga, 2, none⟩ = some (.int .u8 F) := ca2
      have hca1 : (W.drew.alloc (.cells #[.int .u8 F] 5)).cell? ⟨ga, 1, none⟩ = some (.int .i8 at_) := ((HFIVE.out.but (S := fun _ => False) (But.refl _ _).drew (fun h => h)).alloc _).cell 1
      have hca2 : (W.drew.alloc (.cells #[.int .u8 F] 5)).cell? ⟨ga, 2, none⟩ = some (.int .u8 F) := ((HFIVE.out.but (S := fun _ => False) (But.refl _ _).drew (fun h => h)).alloc _).cell 2
      have OFFN := Lib.hid (show ¬ (T ga ∨ ga = p) from fun h => h.elim OFF.out.1 OFF.out.2.2)
      cases long
      · obtain rfl : nn = 3 := HNN.out
        by_cases hh : s.has at_
        · have hAN := Lib.hid (show AN = ⟨s.put u at_ (three fill), u + 1, err (s.op u).dead, []⟩ by rw [HAN.out, hkd]; show (if s.has at_ ∧ false = false then _ else _) = _; rw [if_pos ⟨hh, rfl⟩])
          have HH := Lib.hid hh
          clear hkd hh
          go_wp2_with fail
          go_region_held3 (fun w' => w'.cell? ⟨ga, 1, none⟩ = some (.int .i8 at_) ∧ w'.cell? ⟨ga, 2, none⟩ = some (.int .u8 F)) (first | exact ⟨hk1, hk2⟩ | exact ⟨hcat, hcaf⟩ | exact ⟨hca1, hca2⟩ | exact ⟨hd1, hd2⟩ | go_keep)
            ((first
            | (go_at_call 28; refine (rep3 fill W.heap.size _ (one_has (W.drewN _) W.heap.size rfl fill F HF.out.symm)).mono ?_; rintro e w3 ⟨gd, rfl, hown3, hb3⟩; have Y3 := ((Y0.out.drewN 1).alloc (.cells #[.int .u8 F] 5)).up hb3; have R3 := own_slice hown3; have A3 := ((HFIVE.out.but (S := fun _ => False) ((But.refl _ _).drewN 1) (fun h => h)).alloc (.cells #[.int .u8 F] 5)).below hb3 (by simp; omega); have hcat : w3.cell? ⟨ga, 1, none⟩ = some (.int .i8 at_) := A3.cell 1; have hcaf : w3.cell? ⟨ga, 2, none⟩ = some (.int .u8 F) := A3.cell 2; have hlt3 := A3.lt; clear A3; have hg3 := (R3.2.2 _ rfl).1; have hb3' : But (fun k => T k ∨ k = p) w w3 := ((BW.out.drewN 1).alloc (.cells #[.int .u8 F] 5)).trans (But.of_below (S := fun _ => False) hb3) (fun _ h => h.elim); have SY := Lib.hid Y3; have SR := Lib.hid R3.1; have SG := Lib.hid (show W.heap.size ≤ gd by simp at hg3; omega); have SB := Lib.hid hb3'; clear hown3 hb3 Y3 R3 hg3 hb3')
            | (go_at_call 21; refine (write_three at_ (three fill) gd HS.out HH.out SY.out SR.out (Y0.out.off gd SG.out).2 hu HWR.out).mono ?_; rintro e w4 ⟨T4, rfl, hY4, hT4, hb4⟩; have hd1 : w4.cell? ⟨ga, 1, none⟩ = some (.int .i8 at_) := (hb4.cell (p := ⟨ga, 1, none⟩) hlt3 OFFN.out).trans hcat; have hd2 : w4.cell? ⟨ga, 2, none⟩ = some (.int .u8 F) := (hb4.cell (p := ⟨ga, 2, none⟩) hlt3 OFFN.out).trans hcaf; have Y4 := Lib.hid hY4; have TT4 := Lib.hid hT4; have B4 := Lib.hid (SB.out.trans hb4 (fun _ h _ => h)); have SZ4 := Lib.hid SB.out.size; clear hY4 hT4 hb4)))
          all_goals
            go_wp2
            go_ret2
            rw [hAN.out]
            exact dans_none Y4.out (fun k hk => (TT4.out k hk).imp id (fun h => Nat.le_trans SZ4.out h)) B4.out
        · have hAN := Lib.hid (show AN = ⟨s, u, 1, []⟩ by rw [HAN.out, hkd]; show (if s.has at_ ∧ false = false then _ else _) = _; rw [if_neg (fun h => hh h.1)])
          have HH := Lib.hid hh
          clear hkd hh
          go_wp2_with fail
          go_region_held3 (fun w' => w'.cell? ⟨ga, 1, none⟩ = some (.int .i8 at_) ∧ w'.cell? ⟨ga, 2, none⟩ = some (.int .u8 F)) (first | exact ⟨hk1, hk2⟩ | exact ⟨hcat, hcaf⟩ | exact ⟨hca1, hca2⟩ | exact ⟨hd1, hd2⟩ | go_keep)
            ((first
            | (go_at_call 28; refine (rep3 fill W.heap.size _ (one_has (W.drewN _) W.heap.size rfl fill F HF.out.symm)).mono ?_; rintro e w3 ⟨gd, rfl, hown3, hb3⟩; have Y3 := ((Y0.out.drewN 1).alloc (.cells #[.int .u8 F] 5)).up hb3; have R3 := own_slice hown3; have A3 := ((HFIVE.out.but (S := fun _ => False) ((But.refl _ _).drewN 1) (fun h => h)).alloc (.cells #[.int .u8 F] 5)).below hb3 (by simp; omega); have hcat : w3.cell? ⟨ga, 1, none⟩ = some (.int .i8 at_) := A3.cell 1; have hcaf : w3.cell? ⟨ga, 2, none⟩ = some (.int .u8 F) := A3.cell 2; have hlt3 := A3.lt; clear A3; have hg3 := (R3.2.2 _ rfl).1; have hb3' : But (fun k => T k ∨ k = p) w w3 := ((BW.out.drewN 1).alloc (.cells #[.int .u8 F] 5)).trans (But.of_below (S := fun _ => False) hb3) (fun _ h => h.elim); have SY := Lib.hid Y3; have SR := Lib.hid R3.1; have SG := Lib.hid (show W.heap.size ≤ gd by simp at hg3; omega); have SB := Lib.hid hb3'; clear hown3 hb3 Y3 R3 hg3 hb3')
            | (go_at_call 21; refine (write_arg at_ (some ⟨gd, 0, none⟩) 3 3 (.inl HH.out) SY.out.dk).mono ?_; rintro e w4 ⟨rfl, rfl⟩)))
          all_goals
            go_wp2
            go_ret2
            rw [hAN.out]
            exact dans_none SY.out (fun _ h => .inl h) SB.out
      · obtain rfl : nn = 4 := HNN.out
        have hAN := Lib.hid (show AN = ⟨s, u, 1, []⟩ by rw [HAN.out, hkd]; show (if s.has at_ ∧ true = false then _ else _) = _; rw [if_neg (fun h => by cases h.2)])
        clear hkd
        go_wp2_with fail
        go_region_held3 (fun w' => w'.cell? ⟨ga, 1, none⟩ = some (.int .i8 at_) ∧ w'.cell? ⟨ga, 2, none⟩ = some (.int .u8 F)) (first | exact ⟨hk1, hk2⟩ | exact ⟨hcat, hcaf⟩ | exact ⟨hca1, hca2⟩ | exact ⟨hd1, hd2⟩ | go_keep)
          ((first
          | (go_at_call 28; refine (rep4 fill W.heap.size _ (one_has (W.drewN _) W.heap.size rfl fill F HF.out.symm)).mono ?_; rintro e w3 ⟨gd, rfl, hown3, hb3⟩; have Y3 := ((Y0.out.drewN 1).alloc (.cells #[.int .u8 F] 5)).up hb3; have R3 := own_slice hown3; have A3 := ((HFIVE.out.but (S := fun _ => False) ((But.refl _ _).drewN 1) (fun h => h)).alloc (.cells #[.int .u8 F] 5)).below hb3 (by simp; omega); have hcat : w3.cell? ⟨ga, 1, none⟩ = some (.int .i8 at_) := A3.cell 1; have hcaf : w3.cell? ⟨ga, 2, none⟩ = some (.int .u8 F) := A3.cell 2; have hlt3 := A3.lt; clear A3; have hg3 := (R3.2.2 _ rfl).1; have hb3' : But (fun k => T k ∨ k = p) w w3 := ((BW.out.drewN 1).alloc (.cells #[.int .u8 F] 5)).trans (But.of_below (S := fun _ => False) hb3) (fun _ h => h.elim); have SY := Lib.hid Y3; have SR := Lib.hid R3.1; have SG := Lib.hid (show W.heap.size ≤ gd by simp at hg3; omega); have SB := Lib.hid hb3'; clear hown3 hb3 Y3 R3 hg3 hb3')
          | (go_at_call 21; refine (write_arg at_ (some ⟨gd, 0, none⟩) 4 4 (.inr (by rw [HS.out.size]; decide)) SY.out.dk).mono ?_; rintro e w4 ⟨rfl, rfl⟩)))
        all_goals
          go_wp2
          go_ret2
          rw [hAN.out]
          exact dans_none SY.out (fun _ h => .inl h) SB.out
    · have hDi : (d : Int) % 10 = 5 := by omega
      rw [hDi]
      have hkd : kind d = 2 := by unfold kind; rw [if_neg (by omega), if_neg (by omega)]; omega
      have hAN := Lib.hid (show AN = ⟨s.fl u, u + 1, err (s.op u).dead, []⟩ by rw [HAN.out, hkd]; rfl)
      clear hkd
      go_wp2_with fail
      refine (flush_go u (-1) Y0.out.dk Y0.out.pw (by omega) (by decide) (by decide)).mono ?_
      rintro e w3 ⟨rfl, hd, hp, hb⟩
      have Y3 := Lib.hid (Y0.out.go hd hp (fun _ h => .inl h) hb)
      have B3 := Lib.hid (BW.out.trans hb (fun _ h _ => h))
      clear hd hp hb
      go_wp2
      go_ret2
      rw [hAN.out]
      exact dans_none Y3.out (fun _ h => .inl h) B3.out
    · have hDi : (d : Int) % 10 = 6 := by omega
      rw [hDi]
      have hkd : kind d = 3 := by unfold kind; rw [if_neg (by omega), if_neg (by omega)]; omega
      have hAN := Lib.hid (show AN = ⟨s.cycle keep (wl s 6), u, 0, []⟩ by rw [HAN.out, hkd]; rfl)
      clear hkd
      go_wp2_with fail
      refine (cycle_any keep ha3 Y0.out.dk).mono ?_
      rintro e w3 ⟨ss, rfl, hW, hd, hb⟩
      obtain rfl := waits_one hW (wl_waits HS.out.dom)
      have Y3 := Lib.hid (Y0.out.go (T' := T) (u' := u) (l' := -1) hd (Y0.out.pw.but hb Y0.out.dk.np) (fun _ h => .inl h) (hb.mono (fun _ h _ => .inl h)))
      have B3 := Lib.hid (BW.out.trans (hb.mono (T := fun k => T k ∨ k = p) (fun _ h _ => .inl h)) (fun _ h _ => h))
      clear hW hd hb
      go_wp2
      go_ret2
      rw [hAN.out]
      exact dans_none Y3.out (fun _ h => .inl h) B3.out
    · have hDi : (d : Int) % 10 = 7 := by omega
      rw [hDi]
      have hkd : kind d = 4 := by unfold kind; rw [if_neg (by omega), if_neg (by omega)]; omega
      have hAN := Lib.hid (show AN = ⟨{ s with failAt := u + at_ }, u, 0, []⟩ by rw [HAN.out, hkd]; rfl)
      clear hkd
      have cw : IntKind.i64.wrap at_ = at_ := IntWalk.i64_in _ (by omega)
      have cs : IntKind.i64.wrap (u + at_) = u + at_ := IntWalk.i64_in _ (by omega)
      go_wp2_with fail
      go_region_with ((first
        | (go_at_call 16; refine (used_any p u (-1) _ (Y0.out.drewN _).pw).mono ?_; rintro e w3 ⟨rfl, rfl⟩)
        | (go_at_call 29; refine (failAt_any (u + at_) (Y0.out.drewN _).dk).mono ?_; rintro e w4 ⟨rfl, hd4, hb4⟩)))
      all_goals
        have Y4 := Lib.hid ((Y0.out.drewN 1).keep hd4 ((Y0.out.drewN 1).pw.but hb4 (fun e => by have h1 := Y0.out.dk.np; rw [e] at h1; exact h1 Y0.out.dk.own)) (hb4.mono (fun _ h _ => .inl h)))
        have B4 := Lib.hid ((BW.out.drewN 1).trans (hb4.mono (T := fun k => T k ∨ k = p) (fun k hk _ => .inl (by rw [hk]; exact Y0.out.dk.own))) (fun _ h _ => h))
        clear hd4 hb4
        go_wp2
        go_ret2
        rw [hAN.out]
        exact dans_none Y4.out (fun _ h => .inl h) B4.out
    · have hDi : (d : Int) % 10 = 8 := by omega
      rw [hDi]
      have hkd : kind d = 5 := by unfold kind; rw [if_neg (by omega), if_neg (by omega)]; omega
      have hAN := Lib.hid (show AN = ⟨{ s with dead := true }, u, 0, []⟩ by rw [HAN.out, hkd]; rfl)
      clear hkd
      go_wp2_with fail
      refine (fail_any Y0.out.dk).mono ?_
      rintro e w4 ⟨rfl, hd4, hb4⟩
      have Y4 := Lib.hid (Y0.out.keep hd4 (Y0.out.pw.but hb4 (fun e => by have h1 := Y0.out.dk.np; rw [e] at h1; exact h1 Y0.out.dk.own)) (hb4.mono (fun _ h _ => .inl h)))
      have B4 := Lib.hid (BW.out.trans (hb4.mono (T := fun k => T k ∨ k = p) (fun k hk _ => .inl (by rw [hk]; exact Y0.out.dk.own))) (fun _ h _ => h))
      clear hd4 hb4
      go_wp2
      go_ret2
      rw [hAN.out]
      exact dans_none Y4.out (fun _ h => .inl h) B4.out
    · have hDi : (d : Int) % 10 = 9 := by omega
      rw [hDi]
      have hkd : kind d = 6 := by unfold kind; rw [if_neg (by omega), if_neg (by omega)]; omega
      have hAN := Lib.hid (show AN = ⟨blank 6 3, u, 0, []⟩ by rw [HAN.out, hkd]; rfl)
      clear hkd
      go_wp2_with fail
      refine (blank_any Y0.out.dk).mono ?_
      rintro e w4 ⟨rfl, hd4, hb4⟩
      rw [HS.out.sectors, HS.out.size] at hd4
      have Y4 := Lib.hid (Y0.out.go (T' := T) (u' := u) (l' := -1) hd4 (Y0.out.pw.but hb4 Y0.out.dk.np) (fun _ h => .inl h) (hb4.mono (fun _ h _ => .inl h)))
      have B4 := Lib.hid (BW.out.trans (hb4.mono (T := fun k => T k ∨ k = p) (fun _ h _ => .inl h)) (fun _ h _ => h))
      clear hd4 hb4
      go_wp2
      go_ret2
      rw [hAN.out]
      exact dans_none Y4.out (fun _ h => .inl h) B4.out
end

end Go.Proofs.Ytlcnpjkifokhdaa
