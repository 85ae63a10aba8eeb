/-
  THE WALK OF StageAll.
-/
import Derived.Test.YtclbiidgggdniaaStageFindsWalk
import Derived.Test.YtclbiidgggdniaaBatch
import Derived.Deep.CutRange
import Derived.Deep.LoopGhost
namespace Go.Proofs.Ytclbiidgggdniaa
open Go.RowKit
set_option linter.unusedVariables false
set_option maxRecDepth 100000

theorem filter_abs (u : Nat) : ∀ L : List Rc, (L.filter fun x => decide (u < x.seq)).map Rc.abs = (L.map Rc.abs).filter fun r => decide (u < r.seq)
  | [] => rfl
  | x :: L => by
    rw [List.map_cons, List.filter_cons, List.filter_cons]
    show (if decide (u < x.seq) = true then _ else _ : List Rc).map Rc.abs = if decide (u < x.seq) = true then _ else _
    split
    · rw [List.map_cons, filter_abs u L]
    · exact filter_abs u L
/-- Those that are not done with, of the first k. -/
structure Rst (w wr : World) (L : List Rc) (u k : Nat) (v : Value) (R : List Rc) : Prop where
  rw : Rw wr w.heap.size v R
  out : R = (L.take k).filter fun x => decide (u < x.seq)
  bel : Below w.heap.size w wr
  len : R.length ≤ k
section
variable {w wr : World} {L R : List Rc} {u k : Nat} {v : Value}
theorem Rst.start (w : World) (L : List Rc) (u : Nat) : Rst w w L u 0 (.slice none 0 0) [] := ⟨Rw.nil _ _, rfl, Below.refl _ _, Nat.le_refl _⟩
theorem Rst.up {w2 : World} (h : Rst w wr L u k v R) (hb : Below wr.heap.size wr w2) : Rst w w2 L u k v R := ⟨h.rw.up hb, h.out, h.bel.trans (hb.mono h.bel.size), h.len⟩
theorem Rst.skip {x : Rc} (h : Rst w wr L u k v R) (hk : k < L.length) (hx : L[k] = x) (hf : ¬ u < x.seq) : Rst w wr L u (k + 1) v R := by
  refine ⟨h.rw, ?_, h.bel, Nat.le_succ_of_le h.len⟩
  rw [List.take_succ_eq_append_getElem hk, List.filter_append, ← h.out, hx]
  simp [hf]
theorem Rst.take {w2 : World} {x : Rc} {A : Option Addr} {c : Nat} (h : Rst w wr L u k v R) (hk : k < L.length) (hx : L[k] = x) (hf : u < x.seq)
    (hown : w2.ownsRow w.heap.size 35 4 (.slice A (R.length + 1) c) (R.length + 1) (flat (R ++ [x]))) (hg : wr.grownBy w2 v.ownBlock) (hn : ∀ g, (Value.slice A (R.length + 1) c).ownBlock = some g → v.ownBlock = some g ∨ wr.heap.size ≤ g)
    (ho : Ok w x) : Rst w w2 L u (k + 1) (.slice A (R.length + 1) c) (R ++ [x]) := by
  have bt : But (fun k => v.ownBlock = some k) wr w2 := (But.refl _ _).grown hg (fun k hk _ => hk)
  refine ⟨h.rw.push hown hg hn (fun y hy => by simp at hy; subst hy; exact ho.below h.bel) (fun y hy h0 a haa e => ?_), ?_, h.bel.trans (bt.below (fun i e => (h.rw.own.lt i e).1) h.bel.size), by simp; exact h.len⟩
  · simp at hy; subst hy
    have := (h.rw.own.lt _ e).1
    have := ho.has.low h0 a haa
    omega
  · rw [List.take_succ_eq_append_getElem hk, List.filter_append, ← h.out, hx]
    simp [hf]
end
/-- What came so far, and what is left. -/
structure Ast (w wr : World) (M : List Rc) (gv : Value) (G : List Rc) (A : Option Addr) (n : Nat) (Lf : List Rc) : Prop where
  bel : Below w.heap.size w wr
  got : Rw wr w.heap.size gv G
  left : Rs wr A n Lf
  sub : ∀ x ∈ Lf, x ∈ M
  off : ∀ a, A = some a → gv.ownBlock ≠ some a.block
  out : G.map Rc.abs ++ vw Rr.lba (Lf.map Rc.abs) = vw Rr.lba (M.map Rc.abs)
  up : Up Rr.seq (Lf.map Rc.abs)
section
variable {w wr w2 : World} {M G Lf : List Rc} {gv : Value} {A : Option Addr} {n : Nat}
theorem Ast.rise (h : Ast w wr M gv G A n Lf) (hb : Below wr.heap.size wr w2) : Ast w w2 M gv G A n Lf := ⟨h.bel.trans (hb.mono h.bel.size), h.got.up hb, h.left.below hb, h.sub, h.off, h.out, h.up⟩
theorem Ast.len (h : Ast w wr M gv G A n Lf) : G.length + (vw Rr.lba (Lf.map Rc.abs)).length ≤ M.length := by
  have h1 := congrArg List.length h.out
  have h2 := vw_len Rr.lba (M.map Rc.abs)
  simp only [List.length_append, List.length_map] at h1 h2
  omega
/-- A batch put to what came. -/
theorem Ast.push {A3 : Option Addr} {c3 m : Nat} {Gb : List Rc} (h : Ast w wr M gv G A n Lf) (hM : ∀ x ∈ M, Ok w x) (hown : w2.ownsRow w.heap.size 35 4 (.slice A3 (G.length + m) c3) (G.length + m) (flat (G ++ Gb))) (hg : wr.grownBy w2 gv.ownBlock)
    (hn : ∀ g, (Value.slice A3 (G.length + m) c3).ownBlock = some g → gv.ownBlock = some g ∨ wr.heap.size ≤ g) (hx : ∀ x ∈ Gb, Ok wr x) (ho : ∀ x ∈ Gb, 0 < x.n → ∀ a, x.A = some a → gv.ownBlock ≠ some a.block) :
    Rw w2 w.heap.size (.slice A3 (G.length + m) c3) (G ++ Gb) ∧ Rs w2 A n Lf ∧ Below w.heap.size w w2 := by
  have bt : But (fun k => gv.ownBlock = some k) wr w2 := (But.refl _ _).grown hg (fun k hk _ => hk)
  refine ⟨h.got.push hown hg hn hx ho, h.left.but bt (fun _ a ha => h.off a ha) (fun x hx h0 a ha e => ?_), h.bel.trans (bt.below (fun i e => (h.got.own.lt i e).1) h.bel.size)⟩
  have := (h.got.own.lt _ e).1
  have := (hM x (h.sub x hx)).has.low h0 a ha
  omega
/-- Behind a round. -/
theorem Ast.next {w3 w5 : World} {Gb R : List Rc} {u K : Nat} {gv2 : Value} {Ar : Option Addr} {cr : Nat} (h : Ast w wr M gv G A n Lf) (h0 : 0 < K) (hK : K ≤ (vw Rr.lba (Lf.map Rc.abs)).length) (hG : Gb.map Rc.abs = (vw Rr.lba (Lf.map Rc.abs)).take K)
    (hu : u = upTo Rr.lba Rr.seq (Lf.map Rc.abs) K) (hg : Rw w3 w.heap.size gv2 (G ++ Gb)) (hb : Below w.heap.size w w3) (hr : Rst w3 w5 Lf u n (.slice Ar R.length cr) R) : Ast w w5 M gv2 (G ++ Gb) Ar R.length R ∧ R.length < n := by
  have ho : R = Lf.filter fun x => decide (u < x.seq) := by rw [hr.out, List.take_of_length_le (Nat.le_of_eq h.left.len)]
  have ha : R.map Rc.abs = (Lf.map Rc.abs).filter fun r => decide (upTo Rr.lba Rr.seq (Lf.map Rc.abs) K < r.seq) := by rw [ho, filter_abs, hu]
  obtain ⟨A2, c2, e, _, _, hs, hA, _⟩ := hr.rw.form
  injection e with e1 _ e2
  subst e1 e2
  refine ⟨⟨hb.trans (hr.bel.mono hb.size), hg.up hr.bel, hs, fun x hx => h.sub x ?_, fun a haa e => ?_, ?_, ?_⟩, ?_⟩
  · rw [ho] at hx
    exact (List.mem_filter.1 hx).1
  · have h1 := (hA a haa).1
    have h2 := (hg.own.lt _ e).2
    omega
  · rw [List.map_append, hG, ha, vw_rest h.up h0 hK, List.append_assoc, List.take_append_drop]
    exact h.out
  · rw [ha]
    exact h.up.filter _
  · have h1 := rest_len (f := Rr.lba) (g := Rr.seq) (l := Lf.map Rc.abs) h0 hK
    rw [← ha, List.length_map, List.length_map, h.left.len] at h1
    exact h1
end
theorem many_pos (q : Nat) {m : Nat} (h : 0 < m) : 0 < many (1 + (q : Int)) m := by unfold many; omega

set_option maxHeartbeats 6400000 in
theorem stageAll_walk (A : Option Addr) (n c : Nat) (L : List It) (J : Int) (w : World) (h : Items w A n c L) (hJ : 0 ≤ J ∧ J ≤ 255) : Calls Try.prog 7 #[.slice A n c, .int .u8 J] w fun e w' => e = .returned (.bool true) ∧ Below w.heap.size w w' := by
  obtain ⟨mo, hmo⟩ : ∃ mo : Nat, J % 9 = (mo : Int) := ⟨(J % 9).toNat, by omega⟩
  have hm8 : mo ≤ 8 := by omega
  have H := Lib.hid h
  clear h
  go_enter Try.func7, Try.ntmps7
  go_wp2_with fail
  refine (awake_any w).mono ?_
  rintro e w0 ⟨rfl, hb0⟩
  have B0 := Lib.hid hb0
  clear hb0
  by_cases hbig : 60 < n
  · have hbi : (60 : Int) < (n : Int) := by omega
    go_wp2
    go_ret
    exact ⟨rfl, B0.out⟩
  have hbi : ¬ (60 : Int) < (n : Int) := by omega
  go_wp2_with fail
  refine (make_one A n c L w0 (by omega) (H.out.below B0.out)).mono ?_
  rintro e w1 ⟨v, M, rfl, hR, hM, hl, hb⟩
  obtain ⟨A1, c1, rfl, hc1, hcm, hs, _⟩ := hR.form
  rw [hl] at hs hc1
  rw [hl]
  have B1 := Lib.hid (B0.out.trans (hb.mono B0.out.size))
  have X1 := Lib.hid hs
  have M1 := Lib.hid hM
  clear hb hs hM hR hl
  have A0 := Lib.hid (show Ast w1 w1 M (.slice none 0 0) [] A1 n M from ⟨Below.refl _ _, Rw.nil _ _, X1.out, fun x h => h, fun a _ e => (by cases e), rfl, by rw [M1.out]; exact recs_up 1 L⟩)
  have MO := Lib.hid X1.out.ok
  have ML := Lib.hid X1.out.len
  go_wp2_with fail
  go_loopg [6, 7, 8, 9, 10, 12, 41] n (fun gg s6 s7 _ _ _ _ _ wr => ∃ (G Lf : List Rc) (Al : Option Addr) (nl cl : Nat), nl ≤ gg ∧ nl ≤ 60 ∧ s7 = .slice Al nl cl ∧ Ast w1 wr M s6 G Al nl Lf)
  case atStart => exact ⟨[], M, A1, n, c1, Nat.le_refl _, by omega, rfl, A0.out⟩
  case round =>
    obtain ⟨G, Lf, Al, nl, cl, hgg, hn60, rfl, hS⟩ := hrel
    obtain ⟨Ag, cg, rfl, _⟩ := hS.got.form
    have SS := Lib.hid hS
    by_cases hlt : 0 < nl
    · have hi : (0 : Int) < (nl : Int) := by omega
      clear hS
      go_wp2_with fail
      refine (batch_any Al nl cl Lf (1 + (mo : Int)) wr (by omega) SS.out.left).mono ?_
      rintro e w2 ⟨Ab, cb, Gb, u, rfl, hG, hGe, hGn, _, hu1, hb⟩
      have hml : Gb.length = many (1 + (mo : Int)) (vw Rr.lba (Lf.map Rc.abs)).length := by
        have h1 := congrArg List.length hGe
        have h2 := many_le (1 + (mo : Int)) (vw Rr.lba (Lf.map Rc.abs)).length
        rw [List.length_map, List.length_take] at h1
        omega
      rw [← hml] at hGe
      have hp : 0 < (vw Rr.lba (Lf.map Rc.abs)).length := vw_pos (by rw [List.length_map, SS.out.left.len]; exact hlt)
      have h0 : 0 < Gb.length := by rw [hml]; exact many_pos mo hp
      have hK : Gb.length ≤ (vw Rr.lba (Lf.map Rc.abs)).length := by rw [hml]; exact many_le _ _
      obtain ⟨gb, ob, rfl, hgx⟩ := hG.cells h0
      clear hgx
      have S2 := Lib.hid (SS.out.rise hb)
      have hlen := S2.out.len
      have hMl := ML.out
      have G2 := Lib.hid hG
      have GE := Lib.hid hGe
      have GN := Lib.hid (show ∀ x ∈ Gb, 0 < x.n → ∀ a, x.A = some a → (Value.slice Ag G.length cg).ownBlock ≠ some a.block from fun x hx hx0 a ha e => by
        have h1 := hGn x hx hx0 a ha
        have h2 := (SS.out.got.own.lt _ e).2
        omega)
      have U1 := Lib.hid (hu1 h0)
      have HK := Lib.hid hK
      have hG60 : G.length ≤ 60 := by omega
      have hm60 : Gb.length ≤ 60 := by omega
      clear hG hGe hGn hu1 hb hml hp hK hlen hMl
      generalize hm : Gb.length = m at *
      have HM := Lib.hid hm
      have hne : ((m : Int) == 0) = false := by rw [beq_eq_false_iff_ne]; omega
      clear hm
      go_wp2_with (at_builtin; refine wpList_append_rec rfl (.tmp 36) (.tmp 37) rfl w1.heap.size (.slice Ag G.length cg) G.length G rfl S2.out.got.own ⟨gb, ob, none⟩ m cb Gb rfl G2.out.src (by omega) S2.out.bel.size ?_; intro A3 c3 w3 hown hg hf; have P3 := Lib.hid (S2.out.push MO.out hown hg hf G2.out.ok GN.out); clear hown hg hf)
      have LF := Lib.hid P3.out.2.1
      go_loopw [10, 41] (fun v i wy => ∃ (k : Nat) (R : List Rc), k ≤ nl ∧ i = .int .i64 k ∧ Rst w3 wy Lf u k v R) (fun _ i _ => nl - (intOf i).toNat)
      case atStart => exact ⟨0, [], Nat.zero_le _, rfl, Rst.start _ _ _⟩
      case round =>
        obtain ⟨k, R, hk, rfl, hR⟩ := hrel
        obtain ⟨Ar, cr, rfl, _⟩ := hR.rw.form
        have RR := Lib.hid hR
        by_cases hlk : k < nl
        · obtain ⟨g2, o2, rfl, hgl2, hl2, x, hx, ox, r0, r1, r2, r3⟩ := (LF.out.below hR.bel).one hlk
          have HX := Lib.hid hx
          have OX := Lib.hid (LF.out.ok x (by rw [← hx]; exact List.getElem_mem hl2))
          have hn4 := hR.len
          obtain ⟨xs, xk, xl, xA, xn, xc, xd⟩ := x
          simp only at r0 r1 r2 r3
          have RN := Lib.hid (hR.up (below_new wr (.cells #[.int .u64 (xs : Int), .int .i64 xk, .int .i64 xl, .slice xA xn xc] 35)))
          have D5 := At.new (w := wr) #[.int .u64 (xs : Int), .int .i64 xk, .int .i64 xl, .slice xA xn xc] 35 rfl
          have d0 := D5.cell 0
          have d1 := D5.cell 1
          have d2 := D5.cell 2
          have d3 := D5.cell 3
          simp at d0 d1 d2 d3
          have R6 := Lib.hid (RN.out.up (below_new _ (.cells #[.int .u64 (xs : Int), .int .i64 xk, .int .i64 xl, .slice xA xn xc] 35)))
          clear hR hx ox D5
          by_cases hs : u < xs
          · have hi2 : (u : Int) < (xs : Int) := by omega
            go_wp2_with (at_builtin; refine wpList_append_rec rfl (.tmp 49) (.tmp 51) rfl w3.heap.size (.slice Ar R.length cr) R.length R rfl R6.out.rw.own ⟨wr.heap.size + 1, 0, none⟩ 1 1 [⟨xs, xk, xl, xA, xn, xc, xd⟩] rfl (Src.one ⟨xs, xk, xl, xA, xn, xc, xd⟩ (At.new _ 35 (by simp))) (by omega) R6.out.bel.size ?_; intro A5 c5 w6 hown hg hf; have NX := Lib.hid (R6.out.take hl2 HX.out hs hown hg hf OX.out); clear hown hg hf)
            go_roundw
            case rel => exact ⟨k + 1, _, by omega, by go_num, NX.out⟩
            case measure => simp [intOf]; omega
          · have hi2 : ¬ (u : Int) < (xs : Int) := by omega
            have NX := Lib.hid (RN.out.skip hl2 HX.out hs)
            go_wp2_with fail
            go_roundw
            case rel => exact ⟨k + 1, _, by omega, by go_num, NX.out⟩
            case measure => simp [intOf]; omega
        · obtain rfl : k = nl := by omega
          clear hR
          have NA := Lib.hid (S2.out.next (by omega) HK.out GE.out U1.out P3.out.1 P3.out.2.2 RR.out)
          have hlt2 := NA.out.2
          have hi3 : ¬ (k : Int) ≤ (R.length : Int) := by omega
          have NR := Lib.hid NA.out.1
          go_wp2_with fail
          go_roundg R.length
          case measure => omega
          case rel => exact ⟨_, R, Ar, R.length, cr, Nat.le_refl _, by omega, rfl, NR.out⟩
    · obtain rfl : nl = 0 := by omega
      have hl0 : Lf = [] := List.eq_nil_of_length_eq_zero SS.out.left.len
      have GE := Lib.hid (show G.map Rc.abs = vw Rr.lba (M.map Rc.abs) by have h1 := SS.out.out; rw [hl0] at h1; simpa [vw] using h1)
      have G1 := Lib.hid SS.out.got
      have B2 := Lib.hid (B1.out.trans (SS.out.bel.mono B1.out.size))
      have X2 := Lib.hid (X1.out.below SS.out.bel)
      clear hS hl0
      go_wp2_with fail
      refine (lview_any A1 n c1 M wr (by omega) X2.out hc1 hcm).mono ?_
      rintro e w3 ⟨v, rfl, hR, hb⟩
      have B3 := Lib.hid (B2.out.trans (hb.mono B2.out.size))
      have G3 := Lib.hid (G1.out.up hb)
      obtain ⟨A3, c3, rfl, _, _, hs⟩ := hR.rs
      have el : (vw Rc.lba M).length = G.length := by have := congrArg List.length (GE.out.trans (abs_vw M).symm); simpa using this.symm
      rw [el] at hs ⊢
      obtain ⟨Ag2, cg2, eg, _, _, hs2⟩ := G3.out.rs
      injection eg with e1 _ e2
      subst e1 e2
      have W3 := Lib.hid hs
      have Y3 := Lib.hid hs2
      have hv : G.length ≤ 1000 := by have := vw_len Rc.lba M; have := X1.out.len; omega
      clear hR hb hs hs2 el
      go_wp2_with fail
      refine (same_yes Ag A3 G.length cg c3 G (vw Rc.lba M) w3 hv Y3.out W3.out (GE.out.trans (abs_vw M).symm)).mono ?_
      rintro e w4 ⟨rfl, q, rfl⟩
      have B4 := Lib.hid (B3.out.trans ((below_drewN w3 q).mono B3.out.size))
      go_wp2
      go_ret
      exact ⟨rfl, B4.out⟩
end Go.Proofs.Ytclbiidgggdniaa
