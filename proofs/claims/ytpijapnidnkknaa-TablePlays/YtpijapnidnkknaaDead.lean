/-
  THE WALKS OF Dead, Clear, All, Awake.
-/
import Derived.Test.YtpijapnidnkknaaRowsT
import Derived.Deep.CutRange
namespace Go.Proofs.Ytpijapnidnkknaa
open Go.RowKit
set_option linter.unusedVariables false
set_option maxRecDepth 100000


/-- Sealed, and nothing lives in it. -/
def dies (T : List Sg) (j : Nat) : Bool := match T[j]? with | some x => x.st == 2 && x.lv == 0 | none => false
/-- The dead ones of the first k. -/
def deadTo (T : List Sg) (k : Nat) : List Int := ((List.range k).filter (dies T)).map fun (j : Nat) => (j : Int)
def dead (T : List Sg) : List Int := deadTo T T.length
theorem deadTo_len (T : List Sg) (k : Nat) : (deadTo T k).length ≤ k := by
  unfold deadTo
  rw [List.length_map]
  exact Nat.le_trans (List.length_filter_le _ _) (by simp)
theorem dies_at {T : List Sg} {k : Nat} {x : Sg} (h : k < T.length) (e : T[k] = x) : dies T k = (x.st == 2 && x.lv == 0) := by
  unfold dies
  rw [List.getElem?_eq_getElem h, e]
theorem deadTo_yes {T : List Sg} {k : Nat} (h : dies T k = true) : deadTo T (k + 1) = deadTo T k ++ [(k : Int)] := by
  unfold deadTo
  rw [List.range_succ, List.filter_append, List.map_append]
  simp [h]
theorem deadTo_no {T : List Sg} {k : Nat} (h : dies T k = false) : deadTo T (k + 1) = deadTo T k := by
  unfold deadTo
  rw [List.range_succ, List.filter_append, List.map_append]
  simp [h]
theorem own_below {w w' : World} {base n : Nat} {e : TypeId} {size : Nat} {v : Value} {xs : List Value} (h : w.ownsRow base e size v n xs) (hb : Below w.heap.size w w') : w'.ownsRow base e size v n xs := own_but (S := fun _ => False) h (But.of_below hb) (fun _ _ h => h)
section
variable {w : World} {g r : Nat} {T : List Sg}
set_option maxHeartbeats 1600000 in
theorem dead_any (h : Tb w g r T) : Calls Try.prog 18 #[.pointer (some ⟨g, 0, none⟩)] w fun e w' => ∃ A c, e = .returned (.slice A (dead T).length c) ∧ w'.ownsRow w.heap.size 3 1 (.slice A (dead T).length c) (dead T).length (ints (dead T)) ∧ Below w.heap.size w w' := by
  have H := Lib.hid h
  have c0 := h.box.cell 0
  have hl := h.few
  clear h
  go_enter Try.func18, Try.ntmps18
  go_wp2_with fail
  go_loopg [3, 4, 5, 11] T.length (fun gg s3 _ _ s11 wr => ∃ (k : Nat) (A : Option Addr) (c : Nat), k ≤ T.length ∧ T.length - k ≤ gg ∧ s11 = .int .i64 (k : Int) ∧ s3 = .slice A (deadTo T k).length c ∧ wr.ownsRow w.heap.size 3 1 (.slice A (deadTo T k).length c) (deadTo T k).length (ints (deadTo T k)) ∧ Below w.heap.size w wr)
  case atStart => exact ⟨0, none, 0, Nat.zero_le _, by omega, rfl, rfl, World.ownsRow_nil _ _ _ _, Below.refl _ _⟩
  case round =>
    obtain ⟨k, A, c, hk0, hgg, rfl, rfl, hown, hB⟩ := hrel
    have OW := Lib.hid hown
    have DL := Lib.hid (deadTo_len T k)
    clear hown
    by_cases hlt : k < T.length
    · have hk : k < T.length := hlt
      have hrow := (H.out.below hB).row.cell hk
      generalize hX : T[k] = x at hrow
      obtain ⟨xs, xl, xb⟩ := x
      have HC := Lib.hid hrow
      have BW := Lib.hid hB
      clear hrow hB
      go_wp2_with (first
        | (refine wpList_load_part rfl 33 (.tmp 14) rfl r (k * 3) (Sg.ag ⟨xs, xl, xb⟩) _ rfl (fun j hj => HC.out j hj) Try.underlying33 rfl seg_size ?_)
        | (refine wpList_store_part rfl 33 (.tmp 5) (.tmp 15) rfl wr.heap.size 0 33 Sg.zero.ag (Sg.ag ⟨xs, xl, xb⟩) rfl rfl (At.new _ _ rfl) seg_size (by show 0 + 3 ≤ 3; omega) (ag_one _) ?_))
      intro w2 hat hb
      rw [part_whole] at hat
      have B2 := Lib.hid (show Below w.heap.size w w2 from BW.out.trans ((((But.refl (fun k => k = wr.heap.size) wr).alloc _).trans hb (fun _ h _ => h)).below (fun k e => by have := BW.out.size; omega) BW.out.size))
      have B2i := Lib.hid (show Below wr.heap.size wr w2 from (((But.refl (fun k => k = wr.heap.size) wr).alloc _).trans hb (fun _ h _ => h)).below (fun k e => Nat.le_of_eq e.symm) (Nat.le_refl _))
      have e0 : w2.cell? ⟨wr.heap.size, 0, none⟩ = some (.int .i64 xs) := hat.cell 0
      have e1 : w2.cell? ⟨wr.heap.size, 1, none⟩ = some (.int .i64 xl) := hat.cell 1
      clear hat hb
      have DD := Lib.hid (dies_at hk hX)
      by_cases he : xs = 2
      · by_cases hv : xl = 0
        · have DY := Lib.hid (deadTo_yes (T := T) (k := k) (by rw [DD.out, he, hv]; rfl))
          subst he hv
          clear hX
          have B3 := Lib.hid (show Below wr.heap.size wr (w2.alloc (.cells #[.int .i64 (k : Int)] 3)) from B2i.out.alloc B2i.out.size _)
          generalize hK : deadTo T k = K at *
          clear hK
          go_wp2_with (at_builtin; refine wpList_append_int rfl (.tmp 24) (.tmp 26) rfl w.heap.size (.slice A K.length c) K.length K rfl (own_below OW.out B3.out) ⟨w2.heap.size, 0, none⟩ 1 1 [(k : Int)] rfl rfl (int_src (At.new _ 3 rfl)) (by have := DL.out; omega) (by have := BW.out.size; have := B3.out.size; omega) ?_; intro A9 c9 w9 hown9 hg9 hf9; have R9 := Lib.hid hown9; have B9 := Lib.hid ((BW.out.trans (B3.out.mono BW.out.size)).grown hg9 (by have := BW.out.size; have := B3.out.size; omega) (fun i hi => (OW.out.lt i hi).1)); clear hown9 hg9 hf9)
          go_roundg (T.length - (k + 1))
          case measure => omega
          case rel => exact ⟨k + 1, A9, c9, by omega, Nat.le_refl _, by go_num, by rw [DY.out, List.length_append]; rfl, by rw [DY.out, List.length_append]; exact R9.out, B9.out⟩
        · have DN := Lib.hid (deadTo_no (T := T) (k := k) (by rw [DD.out]; simpa using fun _ => hv))
          subst he
          clear hX
          go_wp2_with fail
          go_roundg (T.length - (k + 1))
          case measure => omega
          case rel => exact ⟨k + 1, A, c, by omega, Nat.le_refl _, by go_num, by rw [DN.out], by rw [DN.out]; exact own_below OW.out (B2i.out), B2.out⟩
      · have DN := Lib.hid (deadTo_no (T := T) (k := k) (by rw [DD.out]; simp [he]))
        clear hX
        go_wp2_with fail
        go_roundg (T.length - (k + 1))
        case measure => omega
        case rel => exact ⟨k + 1, A, c, by omega, Nat.le_refl _, by go_num, by rw [DN.out], by rw [DN.out]; exact own_below OW.out (B2i.out), B2.out⟩
    · obtain rfl : k = T.length := by omega
      go_wp2
      go_ret
      exact ⟨A, c, rfl, OW.out, hB⟩

/-- Cleared, one after the other. -/
def clr (T : List Sg) (l : List Int) : List Sg := l.foldl (fun T i => put T i fun _ => Sg.zero) T
theorem clr_len : ∀ (l : List Int) (T : List Sg), (clr T l).length = T.length
  | [], _ => rfl
  | i :: l, T => by show (clr (put T i fun _ => Sg.zero) l).length = _; rw [clr_len l, put_len]
theorem clr_next {T : List Sg} {l : List Int} {k : Nat} (h : k < l.length) : clr T (l.take (k + 1)) = put (clr T (l.take k)) l[k] fun _ => Sg.zero := by
  unfold clr
  rw [List.take_succ_eq_append_getElem h, List.foldl_append]
  rfl
set_option maxHeartbeats 800000 in
theorem clear_any (A : Option Addr) (n c : Nat) (l : List Int) (hn : n ≤ 1000000) (hl : HasI w A n l) (ha : ∀ x, A = some x → ¬ x.block = r) (h : Tb w g r T) : Calls Try.prog 12 #[.pointer (some ⟨g, 0, none⟩), .slice A n c] w (Turned w g r (clr T l)) := by
  have H := Lib.hid h
  have HI := Lib.hid hl
  have HA := Lib.hid ha
  clear h hl ha
  go_enter Try.func12, Try.ntmps12
  go_wp2_with fail
  go_loopg [5, 8] n (fun gg _ s8 wr => ∃ k : Nat, k ≤ n ∧ n - k ≤ gg ∧ s8 = .int .i64 (k : Int) ∧ Tb wr g r (clr T (l.take k)) ∧ But (fun k => k = r) w wr)
  case atStart => exact ⟨0, Nat.zero_le _, by omega, rfl, H.out, But.refl _ _⟩
  case round =>
    obtain ⟨k, hk0, hgg, rfl, hT, hB⟩ := hrel
    have HT := Lib.hid hT
    have BW := Lib.hid hB
    clear hT hB
    by_cases hlt : k < n
    · have hkl : k < l.length := by rw [HI.out.1]; exact hlt
      have hI := HI.out.but BW.out (fun _ x hx => HA.out x hx)
      obtain ⟨b, off, rfl, _, hc⟩ := hI.2 (by omega)
      have hc2 := hc k hkl
      clear hc
      have CN := Lib.hid (clr_next (T := T) hkl)
      generalize l[k] = i at hc2 CN
      generalize clr T (l.take k) = K at HT CN
      clear hI
      go_wp2_with fail
      refine (set_any i Sg.zero HT.out).mono ?_
      rintro e w2 ⟨rfl, hT2, hB2⟩
      have T2 := Lib.hid hT2
      have B2 := Lib.hid (show But (fun k => k = r) w w2 from BW.out.trans hB2 (fun _ h _ => h))
      clear hT2 hB2 hc2
      go_wp2
      go_roundg (n - (k + 1))
      case measure => omega
      case rel => exact ⟨k + 1, by omega, Nat.le_refl _, by go_num, by rw [CN.out]; exact T2.out, B2.out⟩
    · obtain rfl : k = n := by omega
      rw [List.take_of_length_le (by rw [HI.out.1]; exact Nat.le_refl _)] at HT
      go_wp2
      go_end0
      exact ⟨rfl, HT.out, BW.out⟩

set_option maxHeartbeats 800000 in
theorem clone_any (hl : T.length ≤ 65536) (h : Rg w r T) (c : Nat) : Calls Try.prog 23 #[.slice (some ⟨r, 0, none⟩) T.length c] w fun e w' => ∃ A c, e = .returned (.slice A T.length c) ∧ w'.ownsRow w.heap.size 33 3 (.slice A T.length c) T.length (flat T) ∧ Below w.heap.size w w' := by
  have H := Lib.hid h
  clear h
  go_enter Try.func23, Try.ntmps23
  have hnil := fun (w : World) (a : Option Addr) (n c : Nat) => Lib.run_eql_slice_nil (P := Try.prog) w 26 33 a n c 0 0 Try.underlying26
  have B1 := Lib.hid ((Below.refl w.heap.size w).alloc (Nat.le_refl _) (.cells #[] 33))
  have OW := Lib.hid (show (w.alloc (.cells #[] 33)).ownsRow w.heap.size 33 3 (.slice (some ⟨w.heap.size, 0, none⟩) 0 0) 0 (flat []) from
    ⟨rfl, .inr ⟨w.heap.size, 0, #[], rfl, Nat.le_refl _, At.new #[] 33 rfl, Nat.le_refl _, Nat.zero_le _, rfl, rfl⟩⟩)
  go_wp2_with (at_builtin; refine wpList_append_seg rfl (.tmp 5) (.tmp 6) rfl w.heap.size (.slice (some ⟨w.heap.size, 0, none⟩) 0 0) 0 [] rfl OW.out ⟨r, 0, none⟩ T.length c T rfl rfl (seg_src (At.alloc H.out _)) (by omega) B1.out.size ?_; intro A9 c9 w9 hown9 hg9 hf9; have R9 := Lib.hid hown9; have B9 := Lib.hid (B1.out.grown hg9 B1.out.size (fun i hi => (OW.out.lt i hi).1)); clear hown9 hg9 hf9)
  go_ret
  have R := R9.out
  rw [Nat.zero_add] at R
  exact ⟨A9, c9, rfl, R, B9.out⟩
end
end Go.Proofs.Ytpijapnidnkknaa
