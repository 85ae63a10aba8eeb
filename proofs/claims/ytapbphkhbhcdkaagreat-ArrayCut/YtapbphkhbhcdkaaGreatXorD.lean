/-
  THE WALKS OF slices.Equal, slices.Clone (of slices), But.
-/
import Derived.Test.YtapbphkhbhcdkaaGreatXorB
import Derived.OwnWalk
namespace Go.Proofs.YtapbphkhbhcdkaaGreat
open Go.RowKit Go.Sort
set_option linter.unusedVariables false
set_option maxRecDepth 100000

theorem upx {B : Nat} {a w : World} (h : Below B a w) (e : B = a.heap.size) : B ≤ w.heap.size := by have := h.size; omega
/-- A row of one slice, just built. -/
theorem one_row {w : World} {g : Nat} (x : Sl) (h : At w g #[x.v] 55) : Row w (some ⟨g, 0, none⟩) 1 ([x].map Sl.v) :=
  ⟨rfl, fun _ => ⟨g, 0, rfl, h.lt, fun k hk => by
    have : k = 0 := by simp at hk; omega
    subst this
    rw [h.cell]
    rfl⟩⟩
theorem Ln.of_own {w : World} {base n : Nat} {v : Value} {L : List Sl} (h : w.ownsRow base 55 1 v n (L.map Sl.v)) (hh : ∀ x ∈ L, Has w x.A x.n x.l) (hc : ∀ x ∈ L, x.n ≤ 140737488355328) (hn : n ≤ 5864062014805) :
    ∃ A c, v = .slice A n c ∧ Ln w A n L := by
  obtain ⟨A, c, e, _, _, hr, _⟩ := Row.of_own h
  exact ⟨A, c, e, hr, hh, hc, hn⟩

theorem own_more {w wr w2 : World} {B n : Nat} {o : Obj} {v : Value} {xs : List Value} (hB : w.heap.size = B) (b : Below B w wr) (hown : wr.ownsRow B 55 1 v n xs) (hg : (wr.alloc o).grownBy w2 v.ownBlock) : Below B w w2 :=
  (b.alloc (upx b hB.symm) o).grown hg (by have := upx b hB.symm; simp; omega) (fun k hk => (hown.lt k hk).1)

/-- A row of the call's own holds the parity. -/
def ButDone (w : World) (L : List Sl) (e : Ending) (w' : World) : Prop :=
  ∃ g, e = .returned (.slice (some ⟨g, 0, none⟩) (mx L) (mx L)) ∧ At w' g (tabA (mx L) (par L)) 5 ∧ w.heap.size ≤ g ∧ Below w.heap.size w w'

theorem but_any (A : Option Addr) (n c : Nat) (L : List Sl) (i : Int) (w : World) (h : Ln w A n L) :
    Calls Tryz.prog 68 #[.slice A n c, .int .i64 i] w (ButDone w (oth L i n)) := by
  obtain ⟨i0, hi, hz0, hz1, hz2⟩ := info_parts line_info
  have hn := h.few
  have H := Lib.hid h
  clear h
  generalize hB : w.heap.size = B
  go_enter Tryz.func68, Tryz.ntmps68
  go_wp2_with (first
    | (at_make; refine wpList_make_own _ rfl _ (.tmp 9) 48 rfl B 55 i0 (.slice none 0 0) 1 Tryz.underlying48 hi hz0 hz1 .i64 .i64 n n rfl rfl rfl (by rw [hz2]; omega) (by unfold maxLen; omega) (by rw [hB]; exact Nat.le_refl _) ?_; intro w1 hown1 hg1; have OW1 := Lib.hid hown1; have B1 := Lib.hid (show Below B w w1 from (Below.refl _ _).grown hg1 (by rw [hB]; exact Nat.le_refl _) (by simp)); clear hown1 hg1))
  go_loopw [5, 13] (fun v q wr => ∃ j : Nat, j ≤ n ∧ q = .int .i64 j ∧ wr.ownsRow B 55 1 v (oth L i j).length ((oth L i j).map Sl.v) ∧ Below B w wr) (fun _ q _ => n - (intOf q).toNat)
  case atStart => exact ⟨0, Nat.zero_le _, rfl, by have := OW1.out; rw [hB] at this; exact this, B1.out⟩
  case round =>
    obtain ⟨j, hj, rfl, hO, hW⟩ := hrel
    have OW := Lib.hid hO
    have B2 := Lib.hid hW
    clear hO hW B1 OW1
    by_cases hlt : j < n
    · obtain ⟨hjl, b, off, rfl, hc, hh, hx⟩ := (H.out.below (by rw [hB]; exact B2.out)).one hlt
      clear hh
      by_cases hd : (j : Int) = i
      · subst hd
        have NX : Hid (wr.ownsRow B 55 1 u5 (oth L (j : Int) (j + 1)).length ((oth L (j : Int) (j + 1)).map Sl.v)) := by
          have := OW.out
          rw [← oth_same hjl rfl] at this
          exact this
        clear OW
        go_wp2
        go_roundw
        case rel => exact ⟨j + 1, by omega, by go_num, NX.out, B2.out⟩
        case measure => simp [intOf]; omega
      · have NX := Lib.hid (oth_more hjl hd)
        have LE := Lib.hid (oth_len L i j)
        go_wp2_with (at_builtin; refine wpList_append_ln rfl (.tmp 21) (.tmp 23) rfl B u5 (oth L i j).length (oth L i j) rfl (OW.out.alloc _) ⟨wr.heap.size, 0, none⟩ 1 1 [L[j]] rfl (one_row L[j] (At.new #[L[j].v] 55 rfl)) (by have := LE.out; omega) (by have := upx B2.out hB.symm; simp; omega) ?_; intro A2 cap2 w2 hown2 hg2 hf2; have B3 := Lib.hid (own_more hB B2.out OW.out hg2); have OW := Lib.hid hown2; clear hown2 hg2 hf2)
        go_roundw
        case rel => exact ⟨j + 1, by omega, by go_num, by rw [NX.out, List.length_append]; exact OW.out, B3.out⟩
        case measure => simp [intOf]; omega
    · obtain rfl : j = n := by omega
      have LE := Lib.hid (oth_len L i j)
      obtain ⟨A3, c3, rfl, hL3⟩ := Ln.of_own OW.out (fun x hx => (H.out.has x (oth_mem hx)).below (by rw [hB]; exact B2.out)) (fun x hx => H.out.cap x (oth_mem hx)) (by have := LE.out; omega)
      have LN := Lib.hid hL3
      clear hL3 OW
      go_wp2_with fail
      refine (of_any A3 _ c3 (oth L i j) wr LN.out).mono ?_
      rintro e w2 ⟨rfl, hA, hb⟩
      have AT := Lib.hid hA
      have B3 := Lib.hid (B2.out.trans (hb.mono (upx B2.out hB.symm)))
      have U := Lib.hid (upx B2.out hB.symm)
      clear hA hb
      go_wp2
      go_ret
      subst hB
      exact ⟨_, rfl, AT.out, U.out, B3.out⟩

end Go.Proofs.YtapbphkhbhcdkaaGreat
