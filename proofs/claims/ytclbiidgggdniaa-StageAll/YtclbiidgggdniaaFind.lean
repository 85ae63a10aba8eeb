/-
  THE WALK OF Find.
-/
import Derived.Test.YtclbiidgggdniaaSView
import Derived.Deep.CutRange
namespace Go.Proofs.Ytclbiidgggdniaa
open Go.RowKit
set_option linter.unusedVariables false
set_option maxRecDepth 100000

theorem fl_map {α β : Type} (f : β → Int) (g : α → β) (k : Int) : ∀ l : List α, fl f k (l.map g) = (fl (fun x => f (g x)) k l).map g
  | [] => rfl
  | r :: t => by
    rw [List.map_cons, fl_cons, fl_cons, free_map, fl_map f g k t]
    split
    · split <;> rfl
    · rfl
theorem fl_abs (k : Int) (L : List Rc) : fl Rr.lba k (L.map Rc.abs) = (fl Rc.lba k L).map Rc.abs := fl_map Rr.lba Rc.abs k L
def zeroR : Rr := ⟨0, 0, 0, []⟩
theorem results_cell_slot {fn : Func} {p u : Tmp} {ty : TypeId} (h : fn.results = #[.cell p ty, .tmp u]) (tmps : Array Value) (w : World) (g : Nat) (cs : Array Value) (fs : Array Field)
    (hp : tmps.getD p undef = .pointer (some ⟨g, 0, none⟩)) (hg : At w g cs ty) (hu : Try.prog.underlying ty = some (.struct fs)) (hi : (Try.prog.info? ty).map (·.size) = some cs.size) :
    (results fn tmps).run Try.prog w = .ok (.tuple #[.agg cs, tmps.getD u undef]) w := by
  have hp' : tmps[p]?.getD undef = .pointer (some ⟨g, 0, none⟩) := by simpa using hp
  simp [results, h, hp', asAddr, run_loadVar_row (P := Try.prog) w g ty ty cs (0, 0) _ hg hu rfl hi]

/-- What Find answers. -/
def FindAs (w : World) (L : List Rr) (k : Int) (e : Ending) (w' : World) : Prop :=
  ∃ y : Rc, e = .returned (.tuple #[.agg (lit y.seq y.kind y.lba y.A y.n y.c), .bool (fl Rr.lba k L).isSome]) ∧ Ok w' y ∧ y.abs = (fl Rr.lba k L).getD zeroR ∧ Below w.heap.size w w'
set_option maxHeartbeats 1600000 in
theorem find_any (A : Option Addr) (n c : Nat) (L : List Rc) (k : Int) (w : World) (hn : n ≤ 1000) (h : Rs w A n L) (hk : InU k) : Calls Try.prog 13 #[.slice A n c, .int .i64 k] w (FindAs w (L.map Rc.abs) k) := by
  have H := Lib.hid (h.below (below_new w (.cells (lit 0 0 0 none 0 0) 35)))
  have B0 := Lib.hid (below_new w (.cells (lit 0 0 0 none 0 0) 35))
  have D0 := Lib.hid (At.new (w := w) (lit 0 0 0 none 0 0) 35 rfl)
  clear h
  unfold lit at H B0 D0
  go_enter Try.func13, Try.ntmps13
  go_wp2_with fail
  refine (lasts_any A n c L _ hn H.out).mono ?_
  rintro e w1 ⟨b, F, m, rfl, hbl, hM, hF, hb1⟩
  have FF := Lib.hid hF
  have B1 := Lib.hid (B0.out.trans (hb1.mono B0.out.size))
  have D1 := Lib.hid (D0.out.below hb1 D0.out.lt)
  have H1 := Lib.hid (H.out.below hb1)
  have hlook := hM.look_ok hk
  rcases (show Lx (L.map Rc.lba) L.length F from by rw [H1.out.len]; exact hF).find (f := Rc.lba) k with ⟨e1, e2⟩ | ⟨j, hj, e1, e2⟩
  · have E2 := Lib.hid (show fl Rr.lba k (L.map Rc.abs) = none by rw [fl_abs, e2]; rfl)
    rw [e1] at hlook
    simp only [Option.getD_none, Option.isSome_none] at hlook
    clear hM hF hb1 hbl e1 e2
    go_wp2_with (refine wpList_store_part rfl 35 (.tmp 4) (.tmp 17) rfl w.heap.size 0 35 _ (lit 0 0 0 none 0 0) rfl rfl D1.out rec_size (by simp) (by simp [Value.oneCell']) ?_; intro w4 hat4 hb4; have R := Lib.hid (show At w4 w.heap.size (lit 0 0 0 none 0 0) 35 from hat4); have B4 := Lib.hid hb4; clear hat4 hb4)
    refine bodyPost_ret (results_cell_slot (p := 4) (u := 5) (ty := 35) rfl _ _ w.heap.size (lit 0 0 0 none 0 0) _ rfl R.out Try.underlying35 rec_size) rfl ?_
    refine ⟨⟨0, 0, 0, none, 0, 0, []⟩, ?_, ⟨Has.nil _ _, by show 0 ≤ 100; omega, by simp, by simp⟩, by rw [E2.out]; rfl, B1.out.trans (B4.out.below (fun k e => Nat.le_of_eq e.symm) B1.out.size)⟩
    rw [E2.out]
    rfl
  · have E2 := Lib.hid (show fl Rr.lba k (L.map Rc.abs) = some L[j].abs by rw [fl_abs, e2]; rfl)
    rw [e1] at hlook
    simp only [Option.getD_some, Option.isSome_some] at hlook
    obtain ⟨g, off, rfl, hgl, hl, x, hx, ox, q0, q1, q2, q3⟩ := H1.out.one (k := j) (by rw [← H1.out.len]; exact hj)
    rw [hx] at E2
    have OX := Lib.hid ox
    have J := Lib.hid (show j < n by rw [← H1.out.len]; exact hj)
    have hjn := J.out
    clear hM hF hb1 hbl e1 e2 ox hx hl hj
    obtain ⟨xs, xk, xl, xA, xn, xc, xd⟩ := x
    simp only at q0 q1 q2 q3
    go_wp2_with fail
    refine (rclone_any ⟨xs, xk, xl, xA, xn, xc, xd⟩ w1 OX.out).mono ?_
    rintro e w2 ⟨A2, c2, rfl, hok, hnew, hb2⟩
    have OK := Lib.hid hok
    have B2 := Lib.hid (B1.out.trans (hb2.mono B1.out.size))
    have D2 := Lib.hid (D1.out.below hb2 D1.out.lt)
    have NW := Lib.hid hnew
    have S1 := Lib.hid (show w.heap.size < w1.heap.size from D1.out.lt)
    clear hok hnew hb2 hlook q0 q1 q2 q3
    unfold lit
    go_wp2_with (refine wpList_store_part rfl 35 (.tmp 4) (.tmp 22) rfl w.heap.size 0 35 _ (lit xs xk xl A2 xn c2) rfl rfl D2.out rec_size (by simp) (by simp [Value.oneCell']) ?_; intro w4 hat4 hb4; have R := Lib.hid (show At w4 w.heap.size (lit xs xk xl A2 xn c2) 35 from hat4); have B4 := Lib.hid hb4; clear hat4 hb4)
    refine bodyPost_ret (results_cell_slot (p := 4) (u := 5) (ty := 35) rfl _ _ w.heap.size (lit xs xk xl A2 xn c2) _ rfl R.out Try.underlying35 rec_size) rfl ?_
    refine ⟨⟨xs, xk, xl, A2, xn, c2, xd⟩, ?_, OK.out.apart B4.out (fun h0 a ha e => ?_), by rw [E2.out]; rfl, B2.out.trans (B4.out.below (fun k e => Nat.le_of_eq e.symm) B2.out.size)⟩
    · rw [E2.out]
      rfl
    · have := NW.out h0 a ha
      have := S1.out
      omega
end Go.Proofs.Ytclbiidgggdniaa
