/-
  THE WALK OF View.
-/
import Derived.Test.YtclbiidgggdniaaLasts
import Derived.Deep.CutRange
namespace Go.Proofs.Ytclbiidgggdniaa
open Go.RowKit
set_option linter.unusedVariables false
set_option maxRecDepth 100000

/-- The view as far as the first k records, its bytes all its own. -/
structure Vst (w wr : World) (L : List Rc) (k : Nat) (v : Value) (M : List Rc) : Prop where
  rw : Rw wr w.heap.size v M
  out : M.map Rc.abs ++ vw Rr.lba ((L.map Rc.abs).drop k) = vw Rr.lba (L.map Rc.abs)
  new : ∀ x ∈ M, 0 < x.n → ∀ a, x.A = some a → w.heap.size ≤ a.block
  bel : Below w.heap.size w wr
  len : M.length ≤ k
section
variable {w wr : World} {L M : List Rc} {k : Nat} {v : Value}
theorem Vst.start (w : World) (L : List Rc) : Vst w w L 0 (.slice none 0 0) [] := ⟨Rw.nil _ _, rfl, fun x hx => (by cases hx), Below.refl _ _, Nat.le_refl _⟩
theorem free_abs (L : List Rc) (x : Rc) (k : Nat) : free Rr.lba x.abs.lba ((L.map Rc.abs).drop k) = free Rc.lba x.lba (L.drop k) := by
  rw [← List.map_drop, free_map]
  rfl
theorem Vst.skip {w2 : World} {x : Rc} (h : Vst w wr L k v M) (hk : k < L.length) (hx : L[k] = x) (hf : free Rc.lba x.lba (L.drop (k + 1)) = false) (hb : Below wr.heap.size wr w2) : Vst w w2 L (k + 1) v M := by
  refine ⟨h.rw.up hb, ?_, h.new, h.bel.trans (hb.mono h.bel.size), Nat.le_succ_of_le h.len⟩
  rw [← h.out]
  congr 1
  exact (vw_no (l := L.map Rc.abs) (k := k) (x := x.abs) (by simpa using hk) (by simp [hx]) (by rw [free_abs]; exact hf)).symm
theorem Vst.take {w1 w2 : World} {x x2 : Rc} {A : Option Addr} {c : Nat} (h : Vst w wr L k v M) (hk : k < L.length) (hx : L[k] = x) (hf : free Rc.lba x.lba (L.drop (k + 1)) = true) (hb : Below wr.heap.size wr w1)
    (hown : w2.ownsRow w.heap.size 35 4 (.slice A (M.length + 1) c) (M.length + 1) (flat (M ++ [x2]))) (hg : w1.grownBy w2 v.ownBlock) (hn : ∀ g, (Value.slice A (M.length + 1) c).ownBlock = some g → v.ownBlock = some g ∨ w1.heap.size ≤ g)
    (ho : Ok w1 x2) (ha : 0 < x2.n → ∀ a, x2.A = some a → wr.heap.size ≤ a.block) (he : x2.abs = x.abs) : Vst w w2 L (k + 1) (.slice A (M.length + 1) c) (M ++ [x2]) := by
  have hs := h.bel.size
  have r1 := h.rw.up hb
  have bt : But (fun k => v.ownBlock = some k) w1 w2 := (But.refl _ _).grown hg (fun k hk _ => hk)
  refine ⟨r1.push hown hg hn (fun y hy => by simp at hy; subst hy; exact ho) (fun y hy h0 a haa e => ?_), ?_, fun y hy h0 a haa => ?_, (h.bel.trans (hb.mono hs)).trans (bt.below (fun i e => (r1.own.lt i e).1) (Nat.le_trans hs hb.size)), by simp; exact h.len⟩
  · simp at hy; subst hy
    have := (h.rw.own.lt _ e).2
    have := ha h0 a haa
    omega
  · rw [← h.out, List.map_append, List.append_assoc]
    congr 1
    rw [vw_yes (l := L.map Rc.abs) (k := k) (x := x.abs) (by simpa using hk) (by simp [hx]) (by rw [free_abs]; exact hf), ← he]
    rfl
  · rcases List.mem_append.1 hy with hy | hy
    · exact h.new y hy h0 a haa
    · simp at hy; subst hy
      exact Nat.le_trans hs (ha h0 a haa)
theorem Vst.done (h : Vst w wr L L.length v M) : M.map Rc.abs = vw Rr.lba (L.map Rc.abs) := by
  rw [← h.out, List.drop_eq_nil_of_le (by simp)]
  simp [vw]
end

set_option maxHeartbeats 1600000 in
theorem view_any (A : Option Addr) (n c : Nat) (L : List Rc) (w : World) (hn : n ≤ 1000) (h : Rs w A n L) :
    Calls Try.prog 11 #[.slice A n c] w fun e w' => ∃ v M, e = .returned v ∧ Rw w' w.heap.size v M ∧ M.map Rc.abs = vw Rr.lba (L.map Rc.abs) ∧ (∀ x ∈ M, 0 < x.n → ∀ a, x.A = some a → w.heap.size ≤ a.block) ∧ Below w.heap.size w w' := by
  have H := Lib.hid h
  clear h
  go_enter Try.func11, Try.ntmps11
  go_wp2_with fail
  refine (lasts_any A n c L w hn H.out).mono ?_
  rintro e w1 ⟨b, F, m, rfl, hbl, hM, hF, hb1⟩
  have MM := Lib.hid hM
  have FF := Lib.hid hF
  have B1 := Lib.hid hb1
  have H1 := Lib.hid (H.out.below hb1)
  clear hM hF hb1 hbl
  go_wp2_with fail
  go_loopw [4, 11] (fun v i wr => ∃ (k : Nat) (M : List Rc), k ≤ n ∧ i = .int .i64 k ∧ Vst w1 wr L k v M) (fun _ i _ => n - (intOf i).toNat)
  case atStart => exact ⟨0, [], Nat.zero_le _, rfl, Vst.start _ _⟩
  case round =>
    obtain ⟨k, M, hk, rfl, hV⟩ := hrel
    obtain ⟨Av, cv, rfl, _⟩ := hV.rw.form
    have VV := Lib.hid hV
    by_cases hlt : k < n
    · obtain ⟨g, off, rfl, hgl, hl, x, hx, ox, q0, q1, q2, q3⟩ := (H1.out.below hV.bel).one hlt
      obtain ⟨j, hj, hji⟩ := (show Lx (L.map Rc.lba) L.length F from by rw [H.out.len]; exact FF.out).last (f := Rc.lba) hl
      have M1 := MM.out.but (S := fun _ => False) (But.of_below hV.bel) (fun h => h)
      rw [hx] at hj hji
      have HX := Lib.hid hx
      have OX := Lib.hid ox
      have hn4 := hV.len
      clear hV hx ox
      obtain ⟨xs, xk, xl, xA, xn, xc, xd⟩ := x
      simp only at q0 q1 q2 q3 hj hji
      have hlook : (Instr.lookup 48 (.map (some b)) (.int .i64 xl) false).run Try.prog (wr.alloc (.cells (lit xs xk xl xA xn xc) 35)) = .ok (.int .i64 (j : Int)) (wr.alloc (.cells (lit xs xk xl xA xn xc) 35)) := by
        have := (M1.but (S := fun _ => False) ((But.refl _ _).alloc (.cells (lit xs xk xl xA xn xc) 35)) (fun h => h)).look OX.out.lba
        rw [hj] at this
        exact this
      have B4 := Lib.hid (below_new wr (.cells (lit xs xk xl xA xn xc) 35))
      have D4 := At.new (w := wr) (lit xs xk xl xA xn xc) 35 rfl
      have d0 := D4.cell 0
      have d1 := D4.cell 1
      have d2 := D4.cell 2
      have d3 := D4.cell 3
      unfold lit at d0 d1 d2 d3
      simp at d0 d1 d2 d3
      clear M1 D4 hj
      unfold lit at hlook B4
      by_cases he : j = k
      · subst he
        have FR := Lib.hid (hji.1 rfl)
        clear hji
        go_wp2_with fail
        refine (rclone_any ⟨xs, xk, xl, xA, xn, xc, xd⟩ _ (OX.out.below B4.out)).mono ?_
        rintro e w5 ⟨A2, c2, rfl, hok, hnew, hb5⟩
        have OK := Lib.hid hok
        have NW := Lib.hid hnew
        have B5 := Lib.hid (B4.out.trans (hb5.mono B4.out.size))
        have B6 := Lib.hid (B5.out.alloc B5.out.size (.cells (lit xs xk xl A2 xn c2) 35))
        clear hok hnew hb5 hlook d0 d1 d2 d3 q0 q1 q2 q3
        unfold lit at *
        go_wp2_with (at_builtin; refine wpList_append_rec rfl (.tmp 22) (.tmp 25) rfl w1.heap.size (.slice Av M.length cv) M.length M rfl (VV.out.rw.up B6.out).own ⟨w5.heap.size, 0, none⟩ 1 1 [⟨xs, xk, xl, A2, xn, c2, xd⟩] rfl (Src.one ⟨xs, xk, xl, A2, xn, c2, xd⟩ (At.new _ 35 rfl)) (by omega) (Nat.le_trans VV.out.bel.size B6.out.size) ?_; intro A3 c3 w6 hown hg hf; have NX := Lib.hid (VV.out.take (by assumption) HX.out FR.out B6.out hown hg hf (OK.out.below (below_new _ _)) (fun h0 a ha => by have := NW.out h0 a ha; have := B4.out.size; omega) rfl); clear hown hg hf)
        go_roundw
        case rel => exact ⟨j + 1, _, by omega, by go_num, NX.out⟩
        case measure => simp [intOf]; omega
      · have FR := Lib.hid (show free Rc.lba xl (L.drop (k + 1)) = false by rw [← Bool.not_eq_true]; exact fun h => he (hji.2 h))
        have NX := Lib.hid (VV.out.skip hl HX.out FR.out B4.out)
        have hne : ¬ (j : Int) = (k : Int) := by omega
        clear hji
        go_wp2
        go_roundw
        case rel => exact ⟨k + 1, _, by omega, by go_num, NX.out⟩
        case measure => simp [intOf]; omega
    · obtain rfl : k = n := by omega
      clear hV
      go_wp2
      go_ret
      have V2 := VV.out
      rw [← H.out.len] at V2
      exact ⟨_, M, rfl, V2.rw.base B1.out.size, V2.done, fun x hx h0 a ha => Nat.le_trans B1.out.size (V2.new x hx h0 a ha), B1.out.trans (V2.bel.mono B1.out.size)⟩
end Go.Proofs.Ytclbiidgggdniaa
