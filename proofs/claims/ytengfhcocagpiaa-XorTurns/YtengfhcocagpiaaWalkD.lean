/-
  THE WALKS OF slices.Equal, slices.Clone (of slices), But.
-/
import Derived.Test.YtengfhcocagpiaaWalkC
import Derived.OwnWalk
namespace Go.Proofs.Ytengfhcocagpiaa
open Go.RowKit Go.Sort
set_option linter.unusedVariables false
set_option maxRecDepth 100000

def Quiet (v : Value) (w : World) (e : Ending) (w' : World) : Prop := e = .returned v ∧ ∃ m, w' = w.drewN m
theorem ret_no {p : Prop} [Decidable p] (h : ¬ p) : Ending.returned (.bool false) = .returned (.bool (decide p)) := by rw [decide_eq_false h]
theorem ret_yes {p : Prop} [Decidable p] (h : p) : Ending.returned (.bool true) = .returned (.bool (decide p)) := by rw [decide_eq_true h]
theorem differ_at {l k : List (BitVec 8)} {j : Nat} (hl : j < l.length) (hk : j < k.length) (h : ((l[j].toNat : Int) != (k[j].toNat : Int)) = true) : ¬ l = k := by
  rintro rfl
  simp at h
theorem alike_next {l k : List (BitVec 8)} {j : Nat} (hl : j < l.length) (hk : j < k.length) (h : ((l[j].toNat : Int) != (k[j].toNat : Int)) = false) (e : l.take j = k.take j) : l.take (j + 1) = k.take (j + 1) := by
  have h1 : l[j] = k[j] := by
    apply BitVec.eq_of_toNat_eq
    have : (l[j].toNat : Int) = (k[j].toNat : Int) := by simpa using h
    omega
  rw [List.take_succ_eq_append_getElem hl, List.take_succ_eq_append_getElem hk, e, h1]
theorem alike_all {l k : List (BitVec 8)} {j : Nat} (hl : l.length = j) (hk : k.length = j) (e : l.take j = k.take j) : l = k := by
  rwa [List.take_of_length_le (by omega), List.take_of_length_le (by omega)] at e
theorem differ_len {w : World} {A B : Option Addr} {n m : Nat} {l k : List (BitVec 8)} (h : Has w A n l) (g : Has w B m k) (hne : ¬ n = m) : ¬ l = k := by
  rintro rfl
  exact hne (h.1.symm.trans g.1)

set_option maxHeartbeats 400000 in
theorem equal_any (A B : Option Addr) (n m c d : Nat) (l k : List (BitVec 8)) (w : World) (hn : n ≤ 140737488355328) (hm : m ≤ 140737488355328) (h : Has w A n l) (g : Has w B m k) :
    Calls Try.prog 13 #[.slice A n c, .slice B m d] w (Quiet (.bool (decide (l = k))) w) := by
  by_cases hnm : n = m
  · subst hnm
    have H := Lib.hid h
    have G := Lib.hid g
    clear h g
    go_enter Try.func13, Try.ntmps13
    go_wp2
    go_loopw [13] (fun i wr => ∃ j q : Nat, j ≤ n ∧ i = .int .i64 j ∧ wr = w.drewN q ∧ l.take j = k.take j) (fun i _ => n - (intOf i).toNat)
    case atStart => exact ⟨0, 0, Nat.zero_le _, rfl, rfl, rfl⟩
    case round =>
      obtain ⟨j, q, hj, rfl, rfl, hlk⟩ := hrel
      have HK := Lib.hid hlk
      clear hlk
      by_cases hlt : j < n
      · obtain ⟨b, off, rfl⟩ := H.out.some_ (by omega)
        obtain ⟨b2, off2, rfl⟩ := G.out.some_ (by omega)
        have hjl : j < l.length := by rw [H.out.1]; omega
        have hjk : j < k.length := by rw [G.out.1]; omega
        have hc : w.cell? ⟨b, off + j, none⟩ = some (.int .u8 (l[j].toNat : Int)) := H.out.cell j (by omega)
        have hc2 : w.cell? ⟨b2, off2 + j, none⟩ = some (.int .u8 (k[j].toNat : Int)) := G.out.cell j (by omega)
        go_wp2
        go_quiet (fail)
        go_wp2
        · have hne : ((l[j].toNat : Int) != (k[j].toNat : Int)) = true := by assumption
          go_ret
          exact ⟨ret_no (differ_at hjl hjk hne), _, World.drewN_drewN _ _ _⟩
        · have he : ((l[j].toNat : Int) != (k[j].toNat : Int)) = false := by assumption
          go_roundw
          case rel => exact ⟨j + 1, _, by omega, by go_num, rfl, alike_next hjl hjk he HK.out⟩
          case measure => simp [intOf]; omega
      · have e : j = n := by omega
        subst e
        go_wp2
        go_ret
        exact ⟨ret_yes (alike_all H.out.1 G.out.1 HK.out), _, rfl⟩
  · have hd := differ_len h g hnm
    have HD := Lib.hid hd
    clear hd h g
    go_enter Try.func13, Try.ntmps13
    go_wp2
    go_ret
    exact ⟨ret_no HD.out, 0, rfl⟩

/-- A row of one slice, just built. -/
theorem one_row {w : World} {g : Nat} (x : Sl) (h : At w g #[x.v] 25) : Row w (some ⟨g, 0, none⟩) 1 ([x].map Sl.v) :=
  ⟨rfl, fun _ => ⟨g, 0, rfl, h.lt, fun k hk => by
    have : k = 0 := by simp at hk; omega
    subst this
    rw [h.cell]
    rfl⟩⟩
theorem Ln.of_own {w : World} {base n : Nat} {v : Value} {L : List Sl} (h : w.ownsRow base 25 1 v n (L.map Sl.v)) (hh : ∀ x ∈ L, Has w x.A x.n x.l) (hc : ∀ x ∈ L, x.n ≤ 140737488355328) (hn : n ≤ 5864062014805) :
    ∃ A c, v = .slice A n c ∧ Ln w A n L := by
  obtain ⟨A, c, e, _, _, hr, _⟩ := Row.of_own h
  exact ⟨A, c, e, hr, hh, hc, hn⟩

theorem own_more {w wr w2 : World} {B n : Nat} {o : Obj} {v : Value} {xs : List Value} (hB : w.heap.size = B) (b : Below B w wr) (hown : wr.ownsRow B 25 1 v n xs) (hg : (wr.alloc o).grownBy w2 v.ownBlock) : Below B w w2 :=
  (b.alloc (up b hB.symm) o).grown hg (by have := up b hB.symm; simp; omega) (fun k hk => (hown.lt k hk).1)

/-- A row of the call's own holds the parity. -/
def ButDone (w : World) (L : List Sl) (e : Ending) (w' : World) : Prop :=
  ∃ g, e = .returned (.slice (some ⟨g, 0, none⟩) (mx L) (mx L)) ∧ At w' g (tabA (mx L) (par L)) 5 ∧ w.heap.size ≤ g ∧ Below w.heap.size w w'

theorem but_any (A : Option Addr) (n c : Nat) (L : List Sl) (i : Int) (w : World) (h : Ln w A n L) :
    Calls Try.prog 12 #[.slice A n c, .int .i64 i] w (ButDone w (oth L i n)) := by
  obtain ⟨i0, hi, hz0, hz1, hz2⟩ := info_parts line_info
  have hn := h.few
  have H := Lib.hid h
  clear h
  generalize hB : w.heap.size = B
  go_enter Try.func12, Try.ntmps12
  go_wp2_with (first
    | (at_make; refine wpList_make_own _ rfl _ (.tmp 9) 22 rfl B 25 i0 (.slice none 0 0) 1 Try.underlying22 hi hz0 hz1 .i64 .i64 n n rfl rfl rfl (by rw [hz2]; omega) (by unfold maxLen; omega) (by rw [hB]; exact Nat.le_refl _) ?_; intro w1 hown1 hg1; have OW1 := Lib.hid hown1; have B1 := Lib.hid (show Below B w w1 from (Below.refl _ _).grown hg1 (by rw [hB]; exact Nat.le_refl _) (by simp)); clear hown1 hg1))
  go_loopw [5, 13] (fun v q wr => ∃ j : Nat, j ≤ n ∧ q = .int .i64 j ∧ wr.ownsRow B 25 1 v (oth L i j).length ((oth L i j).map Sl.v) ∧ Below B w wr) (fun _ q _ => n - (intOf q).toNat)
  case atStart => exact ⟨0, Nat.zero_le _, rfl, by have := OW1.out; rw [hB] at this; exact this, B1.out⟩
  case round =>
    obtain ⟨j, hj, rfl, hO, hW⟩ := hrel
    have OW := Lib.hid hO
    have B2 := Lib.hid hW
    clear hO hW B1 OW1
    by_cases hlt : j < n
    · obtain ⟨hjl, b, off, rfl, hc, hh, hx⟩ := (H.out.below (by rw [hB]; exact B2.out)).one hlt
      clear hh
      by_cases hd : (j : Int) = i
      · subst hd
        have NX : Hid (wr.ownsRow B 25 1 u5 (oth L (j : Int) (j + 1)).length ((oth L (j : Int) (j + 1)).map Sl.v)) := by
          have := OW.out
          rw [← oth_same hjl rfl] at this
          exact this
        clear OW
        go_wp2
        go_roundw
        case rel => exact ⟨j + 1, by omega, by go_num, NX.out, B2.out⟩
        case measure => simp [intOf]; omega
      · have NX := Lib.hid (oth_more hjl hd)
        have LE := Lib.hid (oth_len L i j)
        go_wp2_with (at_builtin; refine wpList_append_ln rfl (.tmp 21) (.tmp 23) rfl B u5 (oth L i j).length (oth L i j) rfl (OW.out.alloc _) ⟨wr.heap.size, 0, none⟩ 1 1 [L[j]] rfl (one_row L[j] (At.new #[L[j].v] 25 rfl)) (by have := LE.out; omega) (by have := up B2.out hB.symm; simp; omega) ?_; intro A2 cap2 w2 hown2 hg2 hf2; have B3 := Lib.hid (own_more hB B2.out OW.out hg2); have OW := Lib.hid hown2; clear hown2 hg2 hf2)
        go_roundw
        case rel => exact ⟨j + 1, by omega, by go_num, by rw [NX.out, List.length_append]; exact OW.out, B3.out⟩
        case measure => simp [intOf]; omega
    · obtain rfl : j = n := by omega
      have LE := Lib.hid (oth_len L i j)
      obtain ⟨A3, c3, rfl, hL3⟩ := Ln.of_own OW.out (fun x hx => (H.out.has x (oth_mem hx)).below (by rw [hB]; exact B2.out)) (fun x hx => H.out.cap x (oth_mem hx)) (by have := LE.out; omega)
      have LN := Lib.hid hL3
      clear hL3 OW
      go_wp2_with fail
      refine (of_any A3 _ c3 (oth L i j) wr LN.out).mono ?_
      rintro e w2 ⟨rfl, hA, hb⟩
      have AT := Lib.hid hA
      have B3 := Lib.hid (B2.out.trans (hb.mono (up B2.out hB.symm)))
      have U := Lib.hid (up B2.out hB.symm)
      clear hA hb
      go_wp2
      go_ret
      subst hB
      exact ⟨_, rfl, AT.out, U.out, B3.out⟩

/-- A new row of the call's own holds the slices. -/
theorem clone_any (x : Addr) (n c : Nat) (L : List Sl) (w : World) (hn : n ≤ 5864062014805) (h : Row w (some x) n (L.map Sl.v)) :
    Calls Try.prog 15 #[.slice (some x) n c] w fun e w' => ∃ v, e = .returned v ∧ w'.ownsRow w.heap.size 25 1 v n (L.map Sl.v) ∧ Below w.heap.size w w' := by
  have hnil := fun (w : World) (a : Option Addr) (n c : Nat) => Lib.run_eql_slice_nil (P := Try.prog) w 22 25 a n c 0 0 Try.underlying22
  have H := Lib.hid h
  clear h
  go_enter Try.func15, Try.ntmps15
  go_wp2_with (at_builtin; refine wpList_append_ln rfl (.tmp 5) (.tmp 6) rfl w.heap.size (.slice (some ⟨w.heap.size, 0, none⟩) 0 0) 0 [] rfl (World.ownsRow_made w #[] 0 (Nat.le_refl _) (by unfold maxLen; omega) rfl) x n c L rfl (H.out.below ((Below.refl _ _).alloc (Nat.le_refl _) _)) (by omega) (by simp) ?_; intro A2 cap2 w2 hown2 hg2 hf2; have B3 := Lib.hid (show Below w.heap.size w w2 from ((Below.refl w.heap.size w).alloc (Nat.le_refl _) _).grown hg2 (by simp) (fun k hk => by simp [Value.ownBlock] at hk; omega)); have OW := Lib.hid hown2; clear hown2 hg2 hf2)
  go_ret
  exact ⟨_, rfl, by simpa using OW.out, B3.out⟩

end Go.Proofs.Ytengfhcocagpiaa
