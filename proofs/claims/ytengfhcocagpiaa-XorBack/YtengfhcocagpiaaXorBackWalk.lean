/-
  THE WALK OF XorBack: blocks of one length and their parity.
-/
import Derived.Test.YtengfhcocagpiaaBlocks
import Derived.Deep.RegionHeld3
namespace Go.Proofs.Ytengfhcocagpiaa
open Go.RowKit Go.Sort
set_option linter.unusedVariables false
set_option maxRecDepth 100000

theorem Has.of_list {w : World} {g m : Nat} {k : List (BitVec 8)} (h : At w g (k.map val).toArray 5) (hk : k.length = m) : Has w (some ⟨g, 0, none⟩) m k :=
  Has.of_block h hk (fun j hj => by simp [hj])

theorem nones_zero (m : Nat) : nones (tab m fun _ => 0#8) = true := by
  unfold nones tab
  rw [List.all_eq_true]
  intro x hx
  obtain ⟨k, _, rfl⟩ := List.mem_map.1 hx
  rfl
theorem Has.heap {w w' : World} {A : Option Addr} {n : Nat} {l : List (BitVec 8)} (h : Has w A n l) (e : w'.heap = w.heap) : Has w' A n l :=
  h.keep (by rw [e]; exact Nat.le_refl _) (fun p _ => World.cell?_of_block (by rw [e]))
theorem Row.heap {w w' : World} {A : Option Addr} {n : Nat} {vs : List Value} (h : Row w A n vs) (e : w'.heap = w.heap) : Row w' A n vs :=
  h.keep (by rw [e]; exact Nat.le_refl _) (fun b off _ _ k => World.cell?_of_block (by rw [e]))
theorem Ln.heap {w w' : World} {A : Option Addr} {n : Nat} {L : List Sl} (h : Ln w A n L) (e : w'.heap = w.heap) : Ln w' A n L :=
  ⟨h.row.heap e, fun x hx => (h.has x hx).heap e, h.cap, h.few⟩
theorem below_like {B : Nat} {a w w' : World} (h : Below B a w) (eh : w'.heap = w.heap) (eo : w'.os = w.os) (et : w'.tape = w.tape) (eu : w'.output = w.output) : Below B a w' :=
  ⟨eo.trans h.os, et.trans h.tape, eu.trans h.output, by rw [eh]; exact h.size, fun k hk => by rw [eh]; exact h.block k hk⟩
theorem equal_same (A B : Option Addr) (n c d : Nat) (l : List (BitVec 8)) (w : World) (hn : n ≤ 140737488355328) (h : Has w A n l) (g : Has w B n l) :
    Calls Try.prog 13 #[.slice A n c, .slice B n d] w (Quiet (.bool true) w) := by
  have := equal_any A B n n c d l l w hn hn h g
  rw [show decide (l = l) = true by simp] at this
  exact this

theorem back_facts {w5 : World} {B S c5 i g : Nat} {A5 : Option Addr} {K : List Sl} (h : Bl w5 B (.slice A5 (K.length + 1) c5) S (K ++ [pty (some ⟨g, 0, none⟩) S S K])) (hS : S ≤ 1000) (hn : K.length + 1 ≤ 5864062014805) (hk : 0 < K.length) (hil : i < K.length + 1) :
    ∃ (K2 : List Sl) (xA : Option Addr) (xc : Nat) (xl : List (BitVec 8)) (b off : Nat), A5 = some ⟨b, off, none⟩ ∧ Ln w5 A5 (K.length + 1) K2 ∧ w5.cell? ⟨b, off + i, none⟩ = some (.slice xA S xc) ∧ Has w5 xA S xl ∧
      mx (oth K2 (i : Int) (K.length + 1)) = S ∧ tab S (par (oth K2 (i : Int) (K.length + 1))) = xl ∧ nones (tab S (par K2)) = true ∧ mx K2 = S := by
  have hKl : (K ++ [pty (some ⟨g, 0, none⟩) S S K]).length = K.length + 1 := by simp
  obtain ⟨A6, c6, e6, hL6⟩ := h.ln hS (by omega)
  obtain ⟨hbm, hbt⟩ := back_of (A := some ⟨g, 0, none⟩) (c := S) (S := S) (K := K) (fun x hx => h.wide x (by simp [hx])) hk i (by omega)
  have hnn : nones (tab S (par (K ++ [pty (some ⟨g, 0, none⟩) S S K]))) = true := by
    rw [tab_congr (g := fun _ => 0#8) (fun k hk => par_pty _ S S K hk)]
    exact nones_zero S
  have hmm := mx_same h.wide (by omega)
  rw [hKl] at hbm hL6 e6
  simp only [hKl] at hbt
  injection e6 with e6 _ e7
  subst e6 e7
  obtain ⟨hjl, b, off, rfl, hc, hh, hx⟩ := hL6.one hil
  have hxn := h.len _ (List.getElem_mem hjl)
  rw [hxn] at hc hh
  exact ⟨_, _, _, _, b, off, rfl, hL6, hc, hh, hbm, hbt, hnn, hmm⟩

theorem back_walk (A : Option Addr) (n c : Nat) (L : List Sl) (at_ : Int) (hat : 0 ≤ at_ ∧ at_ ≤ 255) (size : Int) (hsize : 0 ≤ size ∧ size ≤ 255) (w : World) (h : Ln w A n L) (hfew : n ≤ 5864062014634) :
    Calls Try.prog 5 #[.slice A n c, .int .u8 at_, .int .u8 size] w fun e w' => e = .returned (.bool true) ∧ Below w.heap.size w w' := by
  obtain ⟨i0, hi, hz0, hz1, hz2⟩ := info_parts byte_info
  obtain ⟨sz, rfl⟩ : ∃ sz : Nat, size = (sz : Int) := ⟨size.toNat, by omega⟩
  obtain ⟨an, rfl⟩ : ∃ an : Nat, at_ = (an : Int) := ⟨at_.toNat, by omega⟩
  have H := Lib.hid h
  clear h
  generalize hB : w.heap.size = B
  go_enter Try.func5, Try.ntmps5
  go_wp2_with fail
  refine (awake_any w).mono ?_
  rintro e w1 ⟨rfl, hb⟩
  have H := Lib.hid (H.out.below hb)
  rw [hB] at hb
  have B1 := Lib.hid hb
  clear hb
  go_wp2_with fail
  refine (light_any A n c L w1 H.out).mono ?_
  rintro e w2 ⟨⟨lt, rfl⟩, rfl⟩
  cases lt
  · go_wp2
    go_ret
    exact ⟨rfl, B1.out⟩
  by_cases h0 : n = 0
  · subst h0
    go_wp2
    go_ret
    exact ⟨rfl, B1.out⟩
  have hne : ((n : Int) == 0) = false := by simp; omega
  go_wp2_with fail
  try simp only [hne]
  clear hne
  obtain ⟨S, hS⟩ : ∃ S : Nat, S = 1 + sz % 40 := ⟨_, rfl⟩
  have hS2 : 1 ≤ S ∧ S ≤ 40 := by omega
  have HS := Lib.hid hS
  clear hS
  go_loopw [7, 24] (fun v q wr => ∃ (j : Nat) (K : List Sl), j ≤ n ∧ q = .int .i64 j ∧ K.length = j ∧ Bl wr w2.heap.size v S K ∧ Below w2.heap.size w2 wr) (fun _ q _ => n - (intOf q).toNat)
  case atStart => exact ⟨0, [], Nat.zero_le _, rfl, rfl, Bl.nil _ _ _, Below.refl _ _⟩
  case round =>
    obtain ⟨j, K, hj, rfl, hK, hO, hW⟩ := hrel
    have HK := Lib.hid hK
    have OW := Lib.hid hO
    have B2 := Lib.hid hW
    clear hK hO hW
    by_cases hlt : j < n
    · obtain ⟨hjl, b, off, rfl, hc, hh, hx⟩ := (H.out.below B2.out).one hlt
      have HX := Lib.hid hh
      clear hh
      generalize hG : wr.heap.size = g
      have hgB : Hid (w2.heap.size ≤ g) := by rw [← hG]; exact up B2.out rfl
      go_wp2_with (first
        | (at_make; refine wpList_make_full _ rfl (.tmp 30) (.tmp 30) 25 rfl wr.heap.size 5 i0 (.int .u8 0) 1 Try.underlying25 hi hz0 hz1 .u8 .u8 (1 + (sz : Int) % 40) (1 + (sz : Int) % 40) S rfl rfl (by have := HS.out; omega) (by have := HS.out; omega) (by rw [hz2]; omega) (by unfold maxLen; omega) (Nat.le_refl _) ?_; intro w3 hown1 hg1; have RW := Lib.hid (show At w3 g (tabA S fun _ => 0#8) 5 by rw [← hG]; exact made_row hown1); have B3 := Lib.hid (show Below g wr w3 by rw [← hG]; exact (Below.refl _ _).grown hg1 (Nat.le_refl _) (by simp)); clear hown1 hg1))
      obtain ⟨w4, r4, k4, hrun, hk4, hA4, hb4⟩ := copy_run (c := L[j].c) RW.out (HX.out.below (by rw [hG]; exact B3.out)) B3.out (Nat.le_refl _)
      try simp only [hG]
      rw [hrun]
      have A4 := Lib.hid hA4
      have K4 := Lib.hid hk4
      have B4 := Lib.hid hb4
      clear hrun hA4 hb4 hk4 hc RW B3
      have NB := Lib.hid (show But (fun _ => False) wr (w4.alloc (.cells #[.slice (some ⟨g, 0, none⟩) S S] 25)) from (But.of_below (by rw [hG]; exact B4.out)).alloc _)
      have NH := Lib.hid (Has.of_list (A4.out.alloc (.cells #[.slice (some ⟨g, 0, none⟩) S S] 25)) K4.out)
      go_wp2_with (at_builtin; refine wpList_append_ln rfl (.tmp 35) (.tmp 37) rfl w2.heap.size u7 K.length K rfl (own_but OW.out.own NB.out (fun _ _ h => h)) ⟨w4.heap.size, 0, none⟩ 1 1 [⟨some ⟨g, 0, none⟩, S, S, k4⟩] rfl (one_row ⟨some ⟨g, 0, none⟩, S, S, k4⟩ (At.new #[_] 25 rfl)) (by have := HK.out; omega) (by have := up B2.out rfl; have := NB.out.size; omega) ?_; intro A5 c5 w5 hown5 hg5 hf5)
      have BL5 := Lib.hid (OW.out.push (x := ⟨some ⟨g, 0, none⟩, S, S, k4⟩) NB.out NH.out rfl (fun a ha => by injection ha with ha; subst ha; exact ⟨by rw [hG]; exact Nat.le_refl _, (A4.out.alloc _).lt⟩) hown5 hg5 hf5)
      have B5 := Lib.hid (show Below w2.heap.size w2 w5 from (B2.out.trans ((NB.out.below (B := w2.heap.size) (fun k h => h.elim) (up B2.out rfl)))).grown hg5 (by have := up B2.out rfl; have := NB.out.size; omega) (fun k hk => (OW.out.own.lt k hk).1))
      clear hown5 hg5 hf5
      go_wp2
      go_roundw
      case rel => exact ⟨j + 1, K ++ [⟨some ⟨g, 0, none⟩, S, S, k4⟩], by omega, by go_num, by simp [HK.out], BL5.out, B5.out⟩
      case measure => simp [intOf]; omega
    · obtain rfl : j = n := by omega
      obtain rfl := HK.out
      obtain ⟨A3, c3, rfl, hL3⟩ := OW.out.ln (by omega) (by omega)
      have LN := Lib.hid hL3
      have MX := Lib.hid (mx_same OW.out.wide (by omega))
      clear hL3 H HK hj hlt
      go_wp2_with fail
      refine (of_any A3 K.length c3 K wr LN.out).mono ?_
      rintro e w3 ⟨rfl, hA, hb⟩
      rw [MX.out] at hA
      simp only [MX.out]
      generalize hG : wr.heap.size = g at *
      have A4 := Lib.hid hA
      have B4 := Lib.hid hb
      clear hA hb LN
      have NB := Lib.hid (show But (fun _ => False) wr (w3.alloc (.cells #[.slice (some ⟨g, 0, none⟩) S S] 25)) from (But.of_below (by rw [hG]; exact B4.out)).alloc _)
      have NH := Lib.hid (Has.of_at (A4.out.alloc (.cells #[.slice (some ⟨g, 0, none⟩) S S] 25)))
      go_wp2_with (at_builtin; refine wpList_append_ln rfl (.tmp 40) (.tmp 43) rfl w2.heap.size (.slice A3 K.length c3) K.length K rfl (own_but OW.out.own NB.out (fun _ _ h => h)) ⟨w3.heap.size, 0, none⟩ 1 1 [pty (some ⟨g, 0, none⟩) S S K] rfl (one_row (pty (some ⟨g, 0, none⟩) S S K) (At.new #[_] 25 rfl)) (by omega) (by have := up B2.out rfl; have := NB.out.size; omega) ?_; intro A5 c5 w5 hown5 hg5 hf5; have BL5 := Lib.hid (OW.out.push (x := pty (some ⟨g, 0, none⟩) S S K) NB.out NH.out rfl (fun a ha => by injection ha with ha; subst ha; exact ⟨by rw [hG]; exact Nat.le_refl _, (A4.out.alloc _).lt⟩) hown5 hg5 hf5); have B5 := Lib.hid (show Below w2.heap.size w2 w5 from (B2.out.trans ((NB.out.below (B := w2.heap.size) (fun k h => h.elim) (up B2.out rfl)))).grown hg5 (by have := up B2.out rfl; have := NB.out.size; omega) (fun k hk => (OW.out.own.lt k hk).1)); clear hown5 hg5 hf5)
      obtain ⟨i, hix⟩ : ∃ i : Nat, i = an % (K.length + 1) := ⟨_, rfl⟩
      have hil : i < K.length + 1 := by rw [hix]; exact Nat.mod_lt _ (by omega)
      have hii : (an : Int) % ((K.length : Int) + 1) = (i : Int) := by rw [hix]; rfl
      simp only [hii]
      clear hix hii NB NH A4 B4 OW B2 hG MX
      obtain ⟨K2, xA, xc, xl, b, off, rfl, hL6, hc, hh, hbm, hbt, hnn, hmm⟩ := back_facts BL5.out (by omega) (by omega) (by omega) hil
      have LN := Lib.hid hL6
      have HH := Lib.hid hh
      have BM := Lib.hid hbm
      have BT := Lib.hid hbt
      have NN := Lib.hid hnn
      have MM := Lib.hid hmm
      clear hL6 hh hbm hbt hnn hmm BL5
      generalize hm : K.length + 1 = m at *
      have hm2 : m ≤ 5864062014635 := by omega
      have HM := Lib.hid hm
      clear hm hfew h0
      have B5 := Lib.hid (B1.out.trans (B5.out.mono (up B1.out hB.symm)))
      clear B1
      go_region_held3 (fun w' => w'.cell? ⟨b, off + i, none⟩ = some (.slice xA S xc)) (first | exact hc | exact hc7 | exact hc8 | exact hc9 | exact hc10 | go_keep)
        ((first
        | (go_at_call 12; refine (but_any _ m c5 K2 (i : Int) _ (LN.out.heap (by rfl))).mono ?_; rintro e w7 ⟨g7, rfl, hA7, hg7, hb7⟩; rw [BM.out] at hA7; simp only [BM.out]; have hc7 : w7.cell? ⟨b, off + i, none⟩ = some (.slice xA S xc) := (hb7.cell (p := ⟨b, off + i, none⟩) (World.block_lt_of_cell? w5 _ hc)).trans hc; have LN7 := Lib.hid ((LN.out.heap (w' := w5.drew) rfl).below hb7); have H7 := Lib.hid (show Has w7 (some ⟨g7, 0, none⟩) S xl from by rw [← BT.out]; exact Has.of_at hA7); have HX7 := Lib.hid ((HH.out.heap (w' := w5.drew) rfl).below hb7); have B7 := Lib.hid ((below_like (w' := w5.drew) B5.out rfl rfl rfl rfl).trans (hb7.mono (show B ≤ w5.heap.size from up B5.out hB.symm))); clear hA7 hg7 hb7)
        | (go_at_call 13; refine (equal_same _ _ S S xc xl _ (by omega) (H7.out.heap (by rfl)) (HX7.out.heap (by rfl))).mono ?_; rintro e w8 ⟨rfl, m8, hw8⟩; have hc8 : w8.cell? ⟨b, off + i, none⟩ = some (.slice xA S xc) := by subst hw8; exact hc7
           have LN8 := Lib.hid (show Ln w8 _ m K2 by subst hw8; exact LN7.out.heap (by rfl)); have B8 := Lib.hid (show Below B w w8 by subst hw8; exact below_like B7.out rfl rfl rfl rfl); clear hw8)
        | (go_at_call 10; refine (of_any _ m c5 K2 _ (LN8.out.heap (by rfl))).mono ?_; rintro e w9 ⟨rfl, hA9, hb9⟩; rw [MM.out] at hA9; simp only [MM.out]; have hc9 : w9.cell? ⟨b, off + i, none⟩ = some (.slice xA S xc) := (hb9.cell (p := ⟨b, off + i, none⟩) (World.block_lt_of_cell? w8 _ hc8)).trans hc8; have H9 := Lib.hid (Has.of_at hA9); have B9 := Lib.hid ((below_like B8.out (by rfl) (by rfl) (by rfl) (by rfl)).trans (hb9.mono (show B ≤ w8.heap.size from up B8.out hB.symm))); clear hA9 hb9)
        | (go_at_call 14; refine (none_any _ S S _ _ (by omega) (H9.out.heap (by rfl))).mono ?_; rintro e w10 ⟨rfl, hw10⟩; rw [NN.out]; have hc10 : w10.cell? ⟨b, off + i, none⟩ = some (.slice xA S xc) := by subst hw10; exact hc9
           have B10 := Lib.hid (show Below B w w10 by subst hw10; exact below_like B9.out rfl rfl rfl rfl); clear hw10)))
      all_goals
        go_wp2
        go_ret
        exact ⟨rfl, B10.out⟩

end Go.Proofs.Ytengfhcocagpiaa
