/-
  THE WALK OF Of.
-/
import Derived.Test.YtapbphkhbhcdkaaGreatXorA
import Derived.Laws.BitsAllLaws
namespace Go.Proofs.YtapbphkhbhcdkaaGreat
open Go.RowKit Go.Sort
set_option linter.unusedVariables false
set_option maxRecDepth 100000

theorem made_tab {w w1 : World} {M : Nat} (h : w1.ownsRow w.heap.size 5 1 (.slice (some ⟨w.heap.size, 0, none⟩) M M) M (madeCells (Value.int .u8 0).cells (M * 1)).toList) :
    At w1 w.heap.size (tabA M fun _ => 0#8) 5 := by
  rcases h.2 with ⟨e, _⟩ | ⟨g, cap, cur, e, _, hh, _, _, hs, ht⟩
  · cases e
  · injection e with e1 _ e2
    injection e1 with e1
    injection e1 with e1
    subst e1 e2
    unfold At
    rw [hh, tabA_zero]
    congr 2
    apply Array.ext'
    rw [List.take_of_length_le (by simp [hs])] at ht
    rw [ht, show (Value.int .u8 0).cells = #[.int .u8 0] from rfl, toList_madeCells_one]
    simp

/-- The row made of noughts holds the slices' parity. -/
def OfDone (w : World) (L : List Sl) (e : Ending) (w' : World) : Prop :=
  e = .returned (.slice (some ⟨w.heap.size, 0, none⟩) (mx L) (mx L)) ∧ At w' w.heap.size (tabA (mx L) (par L)) 5 ∧ Below w.heap.size w w'

theorem xor8 (a b : BitVec 8) : bits .xor .u8 (a.toNat : Int) (b.toNat : Int) = ((a ^^^ b).toNat : Int) := by
  rw [u8_xor_nat _ _ a.isLt b.isLt, BitVec.toNat_xor]
theorem of_step {w : World} {g m k : Nat} {f : Nat → BitVec 8} {x : Sl} (h : At w g (tabA m (fun q => if q < k then f q ^^^ x.at_ q else f q)) 5) (hk : k < x.l.length) :
    At (w.setCell ⟨g, k, none⟩ (.int .u8 (bits .xor .u8 ((f k).toNat : Int) ((x.l[k]).toNat : Int)))) g (tabA m (fun q => if q < k + 1 then f q ^^^ x.at_ q else f q)) 5 := by
  have := h.set k (val (f k ^^^ x.l[k]))
  rw [tabA_set] at this
  rw [xor8]
  unfold tabA at *
  rw [tab_congr (g := fun j => if j = k then f k ^^^ x.l[k] else (fun q => if q < k then f q ^^^ x.at_ q else f q) j)]
  · exact this
  · intro q _
    by_cases e : q = k
    · subst e
      simp [x.at_lt hk]
    · have : (q < k + 1) ↔ (q < k) := by omega
      simp only [this, if_neg e]
theorem of_last {m k : Nat} {f g : Nat → BitVec 8} {x : Sl} (hk : x.l.length = k) (hf : ∀ q, g q = f q ^^^ x.at_ q) :
    tabA m (fun q => if q < k then f q ^^^ x.at_ q else f q) = tabA m g := by
  unfold tabA
  rw [tab_congr]
  intro q _
  rw [hf]
  by_cases e : q < k
  · rw [if_pos e]
  · rw [if_neg e, x.at_ge (by omega), BitVec.xor_zero]

theorem of_any (A : Option Addr) (n c : Nat) (L : List Sl) (w : World) (h : Ln w A n L) :
    Calls Tryz.prog 35 #[.slice A n c] w (OfDone w L) := by
  obtain ⟨i0, hi, hz0, hz1, hz2⟩ := info_parts byte_info
  have hn := h.few
  have hM := Lib.hid (show mx L ≤ 140737488355328 by have := h.mx_le n; rw [h.all] at this; exact this)
  have H := Lib.hid h
  clear h
  go_enter Tryz.func35, Tryz.ntmps35
  go_wp2_with fail
  refine (longest_any A n c L w H.out).mono ?_
  rintro e w0 ⟨rfl, rfl⟩
  go_wp2_with (first
    | (at_make; refine wpList_make_full _ rfl (.tmp 9) (.tmp 9) 55 rfl w0.heap.size 5 i0 (.int .u8 0) 1 Tryz.underlying55 hi hz0 hz1 .i64 .i64 (mx L) (mx L) (mx L) rfl rfl rfl rfl (by rw [hz2]; have := hM.out; omega) (by have := hM.out; unfold maxLen; omega) (Nat.le_refl _) ?_; intro w1 hown1 hg1; have RW := Lib.hid (made_tab hown1); have B1 := Lib.hid (show Below w0.heap.size w0 w1 from (Below.refl _ _).grown hg1 (Nat.le_refl _) (by simp)); clear hown1 hg1))
  generalize hG : w0.heap.size = g at *
  go_loopw [13] (fun i wr => ∃ j : Nat, j ≤ n ∧ i = .int .i64 j ∧ At wr g (tabA (mx L) (par (L.take j))) 5 ∧ Below g w0 wr) (fun i _ => n - (intOf i).toNat)
  case atStart => exact ⟨0, Nat.zero_le _, rfl, RW.out, B1.out⟩
  case round =>
    obtain ⟨j, hj, rfl, hA, hB⟩ := hrel
    have AT := Lib.hid hA
    have B2 := Lib.hid hB
    clear hA hB RW B1
    by_cases hlt : j < n
    · obtain ⟨hjl, b, off, rfl, hc, hh, hx⟩ := (H.out.below (by rw [hG]; exact B2.out)).one hlt
      have HM := Lib.hid (show L[j].n ≤ mx L by rw [← hh.1]; exact mx_mem (List.getElem_mem hjl))
      have HX := Lib.hid (show Has w0 L[j].A L[j].n L[j].l from H.out.has _ (List.getElem_mem hjl))
      have HP := Lib.hid (par_next L hjl)
      clear hh
      generalize L[j] = x at *
      obtain ⟨xA, xn, xc, xl⟩ := x
      simp only at *
      go_wp2_with fail
      go_loopw [19] (fun i wx => ∃ k : Nat, k ≤ xn ∧ i = .int .i64 k ∧ At wx g (tabA (mx L) (fun q => if q < k then par (L.take j) q ^^^ Sl.at_ ⟨xA, xn, xc, xl⟩ q else par (L.take j) q)) 5 ∧ Below g w0 wx) (fun i _ => xn - (intOf i).toNat)
      case atStart => exact ⟨0, Nat.zero_le _, rfl, by simpa using AT.out, B2.out⟩
      case round =>
        obtain ⟨k, hk, rfl, hA, hB⟩ := hrel
        have AT := Lib.hid hA
        have B2 := Lib.hid hB
        clear hA hB hc
        by_cases hlt2 : k < xn
        · obtain ⟨b2, off2, rfl⟩ := HX.out.some_ (by omega)
          have hkl : k < xl.length := by rw [HX.out.1]; omega
          have hkm : k < mx L := by have := HM.out; omega
          have hc := (HX.out.below (by rw [hG]; exact B2.out)).cell k hlt2
          have hc2 : wr.cell? ⟨g, k, none⟩ = some (.int .u8 ((par (L.take j) k).toNat : Int)) := by rw [AT.out.cell k, tabA_get _ _ hkm]; simp
          have hf := AT.out.frozen k
          have NX := Lib.hid (of_step (x := ⟨some ⟨b2, off2, none⟩, xn, xc, xl⟩) AT.out hkl)
          go_wp2
          go_roundw
          case rel => exact ⟨k + 1, by omega, by go_num, NX.out, B2.out.setCell (p := ⟨g, k, none⟩) (Nat.le_refl _) _⟩
          case measure => simp [intOf]; omega
        · obtain rfl : k = xn := by omega
          have NX : Hid (At wr g (tabA (mx L) (par (L.take (j + 1)))) 5) := by
            have := AT.out
            rw [of_last (x := ⟨xA, k, xc, xl⟩) HX.out.1 HP.out] at this
            exact this
          go_wp2
          go_roundw
          case rel => exact ⟨j + 1, by omega, by go_num, NX.out, B2.out⟩
          case measure => simp [intOf]; omega
    · obtain rfl : j = n := by omega
      have AT : Hid (At wr g (tabA (mx L) (par L)) 5) := by
        have := AT.out
        rw [H.out.all] at this
        exact this
      go_wp2
      go_ret
      subst hG
      exact ⟨rfl, AT.out, B2.out⟩

end Go.Proofs.YtapbphkhbhcdkaaGreat
