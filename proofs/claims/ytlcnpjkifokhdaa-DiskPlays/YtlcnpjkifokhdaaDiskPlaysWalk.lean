/-
  THE WALK OF DiskPlays.
-/
import Derived.Test.YtlcnpjkifokhdaaAsk
import Derived.Test.YtlcnpjkifokhdaaActs
import Derived.Deep.LoopGhost
import Derived.Laws.AppendOwn
import Derived.Maps.AppendAt
namespace Go.Proofs.Ytlcnpjkifokhdaa
open Go.RowKit Go.Maps Go.Shelf
set_option linter.unusedVariables false
set_option maxRecDepth 100000

theorem small_act {s : DS} (h : Small s) (u : Int) (a : Act1) (k : Nat) : Small (act s u a k).s := by
  have hop : Small (s.op u) := op_small h u
  unfold act
  split
  · split
    · exact hop
    · exact h
  · split
    · rename_i hh
      show Small (s.put u a.at_ (three a.fill))
      unfold DS.put
      split
      · exact hop
      · refine ⟨hop.sectors, hop.size, fun j hj => ?_⟩
        simp only [DS.write] at hj
        split at hj
        · rename_i e
          subst e
          have := hh.1
          unfold DS.has at this
          rw [h.sectors] at this
          exact ⟨this.1, by simpa using this.2⟩
        · exact hop.dom j hj
    · exact h
  · show Small (s.fl u)
    unfold DS.fl
    split
    · exact hop
    · exact ⟨hop.sectors, hop.size, fun j hj => absurd rfl hj⟩
  · exact ⟨h.sectors, h.size, fun j hj => absurd rfl hj⟩
  · exact ⟨h.sectors, h.size, h.dom⟩
  · exact ⟨h.sectors, h.size, h.dom⟩
  · exact ⟨rfl, rfl, fun j hj => absurd rfl hj⟩

theorem bound_act {s : DS} {u m : Int} (h : ∀ i, 0 ≤ s.writes i ∧ s.writes i ≤ m) (hu : 0 ≤ u ∧ u ≤ m) (hm : 0 ≤ m) (a : Act1) (k : Nat) : (∀ i, 0 ≤ (act s u a k).s.writes i ∧ (act s u a k).s.writes i ≤ m + 1) ∧ 0 ≤ (act s u a k).u ∧ (act s u a k).u ≤ m + 1 := by
  have h' : ∀ i, 0 ≤ s.writes i ∧ s.writes i ≤ m + 1 := fun i => by have := h i; omega
  unfold act
  split
  · split
    · exact ⟨h', by show 0 ≤ u + 1; omega, by show u + 1 ≤ m + 1; omega⟩
    · exact ⟨h', by show 0 ≤ u; omega, by show u ≤ m + 1; omega⟩
  · split
    · refine ⟨fun i => ?_, by show 0 ≤ u + 1; omega, by show u + 1 ≤ m + 1; omega⟩
      show 0 ≤ (s.put u a.at_ (three a.fill)).writes i ∧ (s.put u a.at_ (three a.fill)).writes i ≤ m + 1
      unfold DS.put
      split
      · exact h' i
      · simp only [DS.write]
        have := h i
        have e : (s.op u).writes i = s.writes i := rfl
        split <;> omega
    · exact ⟨h', by show 0 ≤ u; omega, by show u ≤ m + 1; omega⟩
  · refine ⟨fun i => ?_, by show 0 ≤ u + 1; omega, by show u + 1 ≤ m + 1; omega⟩
    show 0 ≤ (s.fl u).writes i ∧ (s.fl u).writes i ≤ m + 1
    unfold DS.fl
    split
    · exact h' i
    · exact h' i
  · exact ⟨h', by show 0 ≤ u; omega, by show u ≤ m + 1; omega⟩
  · exact ⟨h', by show 0 ≤ u; omega, by show u ≤ m + 1; omega⟩
  · exact ⟨h', by show 0 ≤ u; omega, by show u ≤ m + 1; omega⟩
  · exact ⟨fun i => by show 0 ≤ (0 : Int) ∧ (0 : Int) ≤ m + 1; omega, by show 0 ≤ u; omega, by show u ≤ m + 1; omega⟩

theorem writes_none {w : World} {g p : Nat} {T : Nat → Prop} {s : DS} (h : Dk w g p T s) {i : Int} (hi : ¬ s.has i) : s.writes i = 0 := by
  obtain ⟨bd, bw, bn, fd, fw, fn, h⟩ := h
  have h1 := h.counts i
  have h2 : fn i = none := by
    cases hc : fn i with
    | none => rfl
    | some v => exact absurd (h.underWrites i (by rw [hc]; simp)) hi
  rw [h2] at h1
  simp at h1
  omega

/-- A disk and a book that say the same. -/
structure Play (B : Nat) (w0 w : World) (g p b : Nat) (T U : Nat → Prop) (s : DS) (u m : Int) : Prop where
  sys : Sys B w0 w g p T s u (-1)
  bk : Bk w b U s u
  apart : ∀ k, U k → ¬ T k ∧ ¬ k = p ∧ B ≤ k
  small : Small s
  wr : ∀ i, 0 ≤ s.writes i ∧ s.writes i ≤ m
  ub : 0 ≤ u ∧ u ≤ m

section
variable {B : Nat} {w0 w w' : World} {g p b : Nat} {T U : Nat → Prop} {s : DS} {u m : Int}
theorem Bk.own (h : Bk w b U s u) : U b := by
  obtain ⟨_, _, _, h⟩ := h
  exact h.own
theorem Bk.lt (h : Bk w b U s u) : ∀ k, U k → k < w.heap.size := by
  obtain ⟨_, _, _, h⟩ := h
  exact h.lt
theorem Play.up (h : Play B w0 w g p b T U s u m) (hb : Below w.heap.size w w') : Play B w0 w' g p b T U s u m :=
  { h with sys := h.sys.up hb, bk := h.bk.up hb }
theorem Play.drewN (h : Play B w0 w g p b T U s u m) (n : Nat) : Play B w0 (w.drewN n) g p b T U s u m :=
  { h with sys := h.sys.drewN n, bk := h.bk.drewN n }
/-- An act, of the disk and then of the book. -/
theorem Play.step {w2 w3 : World} {T' U' : Nat → Prop} {s' : DS} {u' : Int} (h : Play B w0 w g p b T U s u m) (hs : Sys B w0 w2 g p T' s' u' (-1)) (hT : ∀ k, T' k → T k ∨ w.heap.size ≤ k) (hb2 : But (fun k => T k ∨ k = p) w w2)
    (hk : Bk w3 b U' s' u') (hU : ∀ k, U' k → U k ∨ w2.heap.size ≤ k) (hb3 : But (fun k => k = b) w2 w3) (h1 : Small s') (h2 : ∀ i, 0 ≤ s'.writes i ∧ s'.writes i ≤ m + 1) (h3 : 0 ≤ u' ∧ u' ≤ m + 1) : Play B w0 w3 g p b T' U' s' u' (m + 1) := by
  have hbU := h.bk.own
  have hbl := h.bk.lt b hbU
  have hap := h.apart b hbU
  have hnT : ¬ T' b := fun ht => (hT b ht).elim hap.1 (fun h => by omega)
  refine ⟨hs.but hb3 (fun k hk e => hnT (e ▸ hk)) (fun e => hap.2.1 e.symm) (fun k e => e ▸ hap.2.2), hk, fun k hk => ?_, h1, h2, h3⟩
  rcases hU k hk with hk | hk
  · have h4 := h.apart k hk
    have h5 := h.bk.lt k hk
    exact ⟨fun ht => (hT k ht).elim h4.1 (fun h => by omega), h4.2.1, h4.2.2⟩
  · have h4 := hs.off k hk
    exact ⟨h4.1, h4.2.2, Nat.le_trans hs.size hk⟩

/-- The first book. -/
theorem book_start {w2 w3 w4 : World} {on3 : Nat → Value} (hb : Below w2.heap.size w2 w3) (hm : ∀ i, i < 6 → Made w2 w3 on3 i) (hat : At w4 w3.heap.size (bcells on3 nils noughts false (-1) 0) 32) (hb4 : But (fun k => k = w3.heap.size) w3 w4) :
    Bk w4 w3.heap.size (fun k => k = w3.heap.size ∨ (w2.heap.size ≤ k ∧ k < w3.heap.size)) (blank 6 3) 0 := by
  refine ⟨on3, nils, -1, hat, fun i hi => ?_, fun i hi => .inl ⟨rfl, rfl⟩, .inl rfl, .inl rfl, ?_⟩
  · obtain ⟨r, h1, h2, h3, h4⟩ := hm i hi
    have hne : ¬ r = w3.heap.size := by omega
    exact ⟨⟨r, 0, none⟩, 3, h1, h2.but hb4 (fun y hy => by injection hy with hy; subst hy; exact hne), .inr ⟨h3, h4⟩, hne⟩
  · rintro k (rfl | h)
    · exact hat.lt
    · exact Nat.lt_of_lt_of_le h.2 hb4.size
end

theorem int_info : (Try.prog.info? 3).map (fun i => (i.zero, i.size, i.bytes)) = some (some (.int .i64 0), 1, 8) := by kernel_rfl

theorem quiet_mine {P : Program} {f : FuncId} {args : Array Value} {w : World} {n : Nat} {v : Value} (h : Calls P f args (w.drewN n) (Quiet v (w.drewN n))) : Calls P f args (w.drewN n) fun e w'' => e = .returned v ∧ ∃ m, w'' = w.drewN m :=
  h.mono fun _ _ ⟨he, m, hm⟩ => ⟨he, _, hm.trans (World.drewN_drewN _ _ _)⟩
theorem sectors_six {w : World} {g p : Nat} {T : Nat → Prop} {s : DS} (h : Dk w g p T s) (hs : s.sectors = 6) : Calls Try.prog 17 #[.pointer (some ⟨g, 0, none⟩)] w fun e w' => e = .returned (.int .i64 6) ∧ w' = w := by
  have := sectors_any h
  rw [hs] at this
  exact this
theorem writes_nought {w : World} {g p : Nat} {T : Nat → Prop} {s : DS} (h : Dk w g p T s) (hs : s.sectors = 6) (i : Int) (hi : i = -1 ∨ i = 6) : Calls Try.prog 18 #[.pointer (some ⟨g, 0, none⟩), .int .i64 i] w fun e w' => e = .returned (.int .i64 0) ∧ w' = w := by
  have h0 : s.writes i = 0 := writes_none h (fun hh => by
    unfold DS.has at hh
    rw [hs] at hh
    rcases hi with rfl | rfl
    · omega
    · have := hh.2
      simp at this)
  have := writes_any i (by unfold In64; omega) h
  rw [h0] at this
  exact this
theorem equal_same (A B : Option Addr) (n m c d : Nat) (l : Bytes) (w : World) (hn : n ≤ 1000000) (hm : m ≤ 1000000) (h : Has w A n l) (g : Has w B m l) : Calls Try.prog 14 #[.slice A n c, .slice B m d] w (Quiet (.bool true) w) := by
  have := equal_any A B n m c d l l w hn hm h g
  simpa using this

set_option maxHeartbeats 6400000 in
theorem diskPlays_walk (A : Option Addr) (n c : Nat) (L : List Act1) (w : World) (h : Acts w A n c L) : Calls Try.prog 3 #[.slice A n c] w fun e w' => e = .returned (.bool true) ∧ Below w.heap.size w w' := by
  obtain ⟨i0, hi0, hz0, hz1, hz2⟩ := info_parts int_info
  have H := Lib.hid h
  clear h
  go_enter Try.func3, Try.ntmps3
  go_wp2_with fail
  refine (awake_any w).mono ?_
  rintro e w0 ⟨rfl, hb0⟩
  have B0 := Lib.hid hb0
  clear hb0
  by_cases hbig : 80 < n
  · have hbi : (80 : Int) < (n : Int) := by omega
    go_wp2
    go_ret
    exact ⟨rfl, B0.out⟩
  · have hbi : ¬ (80 : Int) < (n : Int) := by omega
    go_wp2_with fail
    refine (new_any (-1) w0).mono ?_
    rintro e w1 ⟨rfl, hw1⟩
    have W1 := Lib.hid hw1
    have hlt1 : w0.heap.size < w1.heap.size := by rw [hw1]; simp
    clear hw1
    go_wp2_with fail
    refine (new_disk w0.heap.size 6 3 6 3 w1 hlt1 (by decide) (by decide) (by decide)).mono ?_
    rintro e w2 ⟨g, T, rfl, hd, hT, hb⟩
    have Y2 := Lib.hid (Sys.start W1.out hd hT hb)
    clear hd hT hb hlt1
    have UP := Lib.hid (show ∀ wx T s u l, Sys w0.heap.size w0 wx g w0.heap.size T s u l → Below w.heap.size w wx from fun wx T s u l hs => B0.out.trans (hs.below.mono B0.out.size))
    generalize hB : w0.heap.size = B at *
    clear hB W1
    go_wp2_with fail
    refine (fresh_any w2).mono ?_
    rintro e w3 ⟨on3, rfl, h1, h2, hb3⟩
    have H1 := Lib.hid h1
    have H2 := Lib.hid h2
    have B3 := Lib.hid hb3
    clear h1 h2 hb3
    go_wp2_with (refine wpList_store_whole rfl (.tmp 5) (.tmp 22) rfl w3.heap.size (bcells nils nils noughts false 0 0) (bcells on3 nils noughts false (-1) 0) ?_ ?_ ?_ ?_ ?_ ?_ ?_)
    any_goals first | exact bc_one _ _ _ _ H1.out (fun _ _ => rfl) | (apply bc_size) | rfl
    · exact At.new _ 32 rfl
    intro w4 hat4 hb4
    have hb34 : But (fun k => k = w3.heap.size) w3 w4 := ((But.refl _ _).alloc _).trans hb4 (fun _ h _ => h)
    have Y3 := Y2.out.up B3.out
    have hoff := Y3.off _ (Nat.le_refl _)
    have P4 := Lib.hid (show Play B w0 w4 g B w3.heap.size T (fun k => k = w3.heap.size ∨ (w2.heap.size ≤ k ∧ k < w3.heap.size)) (blank 6 3) 0 ((0 : Nat) : Int) from
      ⟨Y3.but hb34 (fun k hk e => hoff.1 (e ▸ hk)) (fun e => hoff.2.2 e.symm) (fun k e => e ▸ Y3.size), book_start B3.out H2.out hat4 hb34, fun k hk => by
        have h1 := Y2.out.off k (by rcases hk with rfl | hk; exact B3.out.size; exact hk.1)
        exact ⟨h1.1, h1.2.2, by have := Y2.out.size; have := B3.out.size; omega⟩, ⟨rfl, rfl, fun j hj => absurd rfl hj⟩, fun i => ⟨Int.le_refl _, Int.le_refl _⟩, ⟨Int.le_refl _, Int.le_refl _⟩⟩)
    clear hat4 hb4 hb34 Y3 hoff
    generalize hbk : w3.heap.size = b at *
    clear hbk
    go_wp2
    go_loopw [25] (fun i wr => ∃ (k : Nat) (T U : Nat → Prop) (s : DS) (u : Int), k ≤ n ∧ i = .int .i64 k ∧ Play B w0 wr g B b T U s u (k : Int)) (fun i _ => n - (intOf i).toNat)
    case atStart => exact ⟨0, _, _, _, _, Nat.zero_le _, rfl, P4.out⟩
    case round =>
      obtain ⟨k, T5, U5, s, u, hk, rfl, hP⟩ := hrel
      have P5 := Lib.hid hP
      by_cases hlt : k < n
      · obtain ⟨ba, off, rfl, hacts⟩ := H.out.2.2.2 (by omega)
        have hkl : k < L.length := by rw [H.out.1]; exact hlt
        have hact := (hacts k hkl).below (UP.out _ _ _ _ _ hP.sys)
        generalize L[k] = x at hact
        obtain ⟨c0, c1, c2, c3, c4, hok, hbal⟩ := hact
        clear hP hacts
        go_wp2_with fail
        obtain ⟨W, hW⟩ : ∃ W, W = wr.alloc (.cells #[.int .u8 (x.d : Int), .int .i8 x.at_, .int .u8 (x.fill.toNat : Int), .bool x.long, .int .u64 (x.keep : Int)] 37) := ⟨_, rfl⟩
        rw [← hW]
        have P6 := Lib.hid (show Play B w0 W g B b T5 U5 s u (k : Int) by rw [hW]; exact P5.out.up ((Below.refl _ _).alloc (Nat.le_refl _) _))
        have A6 := Lib.hid (show At W wr.heap.size #[.int .u8 (x.d : Int), .int .i8 x.at_, .int .u8 (x.fill.toNat : Int), .bool x.long, .int .u64 (x.keep : Int)] 37 by rw [hW]; exact At.new _ 37 rfl)
        have O6 := Lib.hid (P5.out.sys.off _ (Nat.le_refl _))
        clear hW c0 c1 c2 c3 c4 hbal P5
        generalize hga : wr.heap.size = ga at *
        clear hga
        refine (ask_any x hok P6.out.small P6.out.sys (by have := P6.out.ub; omega) (fun i => by have := P6.out.wr i; omega)).mono ?_
        rintro e w5 ⟨T6, A7, n7, c7, rfl, hn7, hh7, hA7, hs7, hT7, hb7⟩
        have hat5 := A6.out.but hb7 (fun h => h.elim O6.out.1 O6.out.2.2)
        have c0 : w5.cell? ⟨ga, 0, none⟩ = some (.int .u8 (x.d : Int)) := hat5.cell 0
        have c1 : w5.cell? ⟨ga, 1, none⟩ = some (.int .i8 x.at_) := hat5.cell 1
        have c2 : w5.cell? ⟨ga, 2, none⟩ = some (.int .u8 (x.fill.toNat : Int)) := hat5.cell 2
        have c3 : w5.cell? ⟨ga, 3, none⟩ = some (.bool x.long) := hat5.cell 3
        have c4 : w5.cell? ⟨ga, 4, none⟩ = some (.int .u64 (x.keep : Int)) := hat5.cell 4
        have hbk5 : Bk w5 b U5 s u := P6.out.bk.but hb7 (fun k hk h => h.elim (P6.out.apart k hk).1 (P6.out.apart k hk).2.1)
        have K5 := Lib.hid hbk5
        have R7 := Lib.hid hh7
        have N7 := Lib.hid hn7
        have AA7 := Lib.hid hA7
        have S7 := Lib.hid hs7
        have T7 := Lib.hid hT7
        have B7 := Lib.hid hb7
        clear hat5 hbk5 hh7 hn7 hA7 hs7 hT7 hb7
        obtain ⟨AN, hAN⟩ : ∃ AN, AN = act s u x (kind x.d) := ⟨_, rfl⟩
        have hsm := small_act P6.out.small u x (kind x.d)
        have hbd := bound_act P6.out.wr P6.out.ub (by omega) x (kind x.d)
        have HSM := Lib.hid hsm
        have HBD := Lib.hid hbd
        have DO := Lib.hid (do_any x hok P6.out.small K5.out (by have := P6.out.ub; omega) (fun i => by have := P6.out.wr i; omega))
        rw [← hAN] at R7 S7 HSM HBD DO
        rw [← hAN]
        clear hsm hbd hAN
        go_wp2_with fail
        refine DO.out.mono ?_
        rintro e w6 ⟨U8, A8, n8, c8, rfl, hn8, hh8, hk8, hU8, hb8⟩
        have P8 := P6.out.step S7.out T7.out B7.out hk8 hU8 hb8 HSM.out HBD.out.1 HBD.out.2
        have R78 := Lib.hid (R7.out.but hb8 (fun y hy e => by
          have h1 := AA7.out y hy
          have h2 := P6.out.bk.lt b P6.out.bk.own
          omega))
        have R8 := Lib.hid hh8
        have PP8 := Lib.hid P8
        have N8 := Lib.hid hn8
        obtain ⟨on, wt, fb, hbook⟩ := P8.bk
        obtain ⟨d18, d19, d20⟩ := hbook.cells
        clear P8 hh8 hk8 hU8 hb8 hn8 hbook d19 c0 c1 c2 c3 c4 DO S7 T7 B7 R7 AA7 K5
        obtain ⟨s', u', E, r⟩ := AN
        simp only at R78 R8 PP8 d18 d20
        go_wp2_with fail
        go_quiet ((first
          | (go_at_call 14; exact quiet_mine (equal_same A7 A8 n7 n8 c7 c8 r _ (by have := N7.out; omega) (by have := N8.out; omega) (R78.out.drewN _) (R8.out.drewN _)))
          | (go_at_call 15; exact Calls.quiet_of_same (dead_any (PP8.out.drewN _).sys.dk))
          | (go_at_call 16; exact Calls.quiet_of_same (used_any B u' (-1) _ (PP8.out.drewN _).sys.pw))
          | (go_at_call 17; exact Calls.quiet_of_same (sectors_six (PP8.out.drewN _).sys.dk HSM.out.sectors))))
        obtain ⟨w7, hw7⟩ : ∃ w7, w7 = w6.drewN nq := ⟨_, rfl⟩
        have P9 := Lib.hid (show Play B w0 w7 g B b T6 U8 s' u' ((k : Int) + 1) by rw [hw7]; exact PP8.out.drewN nq)
        rw [← hw7]
        clear hw7 PP8 R78 R8 d18 d20
        go_wp2
        go_loopw [12, 69] (fun v i wx => ∃ j : Nat, j ≤ 6 ∧ i = .int .i64 j ∧ wx.ownsRow w7.heap.size 3 1 v (wl s' j).length ((wl s' j).map encZ) ∧ Below w7.heap.size w7 wx) (fun _ i _ => 6 - (intOf i).toNat)
        case atStart => exact ⟨0, by omega, rfl, World.ownsRow_nil _ _ _ _, Below.refl _ _⟩
        case round =>
          obtain ⟨j, hj, rfl, hrow, hbel⟩ := hrel
          have P10 := P9.out.up hbel
          obtain ⟨on, wt, fb, hbook⟩ := P10.bk
          have PX := Lib.hid P10
          have BX := Lib.hid hbel
          obtain ⟨Ar, cr, rfl, hI⟩ := HasI.of_own hrow
          have RX := Lib.hid hrow
          have IX := Lib.hid hI
          clear P10 hbel hrow hI
          by_cases h6 : j < 6
          · have hwc : wr.cell? ⟨b, 6 + j, none⟩ = some (wt j) := (hbook.at_.cell (6 + j)).trans (bc_wt h6)
            have hnc : wr.cell? ⟨b, 12 + j, none⟩ = some (.int .i64 (s'.writes j)) := (hbook.at_.cell (12 + j)).trans (bc_wr h6)
            rcases hbook.wtOK j h6 with ⟨e1, e2⟩ | ⟨y, cy, ly, e1, e2, _, _, _⟩
            · rw [e1] at hwc
              have hnn := fun (w : World) => neq_nil w none 0 0
              have E2 := Lib.hid e2
              clear hbook e1 e2
              go_wp2
              go_quiet ((go_at_call 18; exact Calls.quiet_of_same (writes_any (j : Int) (by unfold In64; omega) (PX.out.drewN _).sys.dk)))
              go_wp2
              go_roundw
              case rel => exact ⟨j + 1, by omega, by go_num, by rw [wl_none E2.out]; exact RX.out, ⟨BX.out.os, BX.out.tape, BX.out.output, BX.out.size, BX.out.block⟩⟩
              case measure => simp [intOf]; omega
            · rw [e1] at hwc
              have hnn := fun (w : World) => neq_nil w (some y) 3 cy
              have E2 := Lib.hid e2
              have hwl := wl_len s' j
              clear hbook e1 e2
              go_wp2_with (at_builtin; refine wpList_append_own _ rfl (.tmp 77) (.tmp 79) 44 rfl w7.heap.size 3 i0 (.int .i64 0) 1 8 Try.underlying44 hi0 hz0 hz1 hz2 rfl (by decide) (.slice Ar (wl s' j).length cr) (wl s' j).length ((wl s' j).map encZ) rfl (RX.out.alloc _) ⟨wr.heap.size, 0, none⟩ 1 1 [.int .i64 (j : Int)] rfl rfl (cell_one_new _ _ _) (ints_oneCell .i64 [(j : Int)]) (by unfold maxLen; omega) (by omega) (by have := BX.out.size; simp; omega) ?_; intro v9 w9 hown9 hg9 hx9)
              have hb9 : Below w7.heap.size w7 w9 := (BX.out.alloc BX.out.size _).grown hg9 (by have := BX.out.size; simp; omega) (fun q hq => (RX.out.lt q hq).1)
              have P11 := P9.out.up hb9
              obtain ⟨on9, wt9, fb9, hbook9⟩ := P11.bk
              have hnc9 : w9.cell? ⟨b, 12 + j, none⟩ = some (.int .i64 (s'.writes j)) := (hbook9.at_.cell (12 + j)).trans (bc_wr h6)
              have PY := Lib.hid P11
              have BY := Lib.hid hb9
              have RY := Lib.hid hown9
              clear hb9 P11 hbook9 hown9 hg9 hx9 hnc hwc
              go_wp2
              go_quiet ((go_at_call 18; exact Calls.quiet_of_same (writes_any (j : Int) (by unfold In64; omega) (PY.out.drewN _).sys.dk)))
              go_wp2
              go_roundw
              case rel =>
                refine ⟨j + 1, by omega, by go_num, ?_, ⟨BY.out.os, BY.out.tape, BY.out.output, BY.out.size, BY.out.block⟩⟩
                have e3 : wl s' (j + 1) = wl s' j ++ [(j : Int)] := by
                  show wl s' j ++ _ = _
                  rw [E2.out]
                  rfl
                rw [e3, List.length_append, List.map_append]
                exact RY.out
              case measure => simp [intOf]; omega
          · have e0 : j = 6 := by omega
            subst e0
            clear hbook
            go_wp2_with fail
            refine (waiting_any PX.out.sys.dk).mono ?_
            rintro e w10 ⟨v10, ss, rfl, hW, hrow10, hb10⟩
            obtain rfl := waits_one hW (wl_waits HSM.out.dom)
            obtain ⟨A10, c10, rfl, hI10⟩ := HasI.of_own hrow10
            have P12 := Lib.hid (PX.out.up hb10)
            have I10 := Lib.hid hI10
            have I11 := Lib.hid (IX.out.below hb10)
            have hwl := wl_len s' 6
            clear hW hrow10 hb10 hI10
            go_wp2_with fail
            refine (equalI_same A10 Ar _ c10 cr (wl s' 6) w10 (by omega) I10.out I11.out).mono ?_
            rintro e w11 ⟨rfl, m11, hw11⟩
            have P13 := Lib.hid (P12.out.drewN m11)
            rw [← hw11] at P13
            clear hw11
            go_wp2_with fail
            refine (writes_nought P13.out.sys.dk HSM.out.sectors (-1) (.inl rfl)).mono ?_
            rintro e w12 ⟨rfl, rfl⟩
            go_wp2_with fail
            refine (writes_nought P13.out.sys.dk HSM.out.sectors 6 (.inr rfl)).mono ?_
            rintro e w12 ⟨rfl, rfl⟩
            go_wp2
            go_roundw
            case rel => exact ⟨k + 1, T6, U8, s', u', by omega, by go_num, by exact_mod_cast P13.out⟩
            case measure => simp [intOf]; omega
      · have e0 : k = n := by omega
        subst e0
        have BEL := Lib.hid (UP.out _ _ _ _ _ hP.sys)
        clear hP
        go_wp2
        go_ret
        exact ⟨rfl, BEL.out⟩

end Go.Proofs.Ytlcnpjkifokhdaa
