/-
  THE WALK OF NvPlays.
-/
import Derived.Test.YtolienlbdfbdeaaPlay
import Derived.Deep.CutRange
import Derived.Deep.CutBlock
import Derived.Deep.DeepCutAuto
namespace Go.Proofs.Ytolienlbdfbdeaa
open Go.RowKit
set_option linter.unusedVariables false
set_option maxRecDepth 100000

set_option maxHeartbeats 6400000 in
theorem nvPlays_walk (A : Option Addr) (n c : Nat) (M : List Ac) (w : World) (h : Acts w A n c M) : Calls Try.prog 3 #[.slice A n c] w fun e w' => e = .returned (.bool true) ∧ Below w.heap.size w w' := by
  have H := Lib.hid h
  clear h
  go_enter Try.func3, Try.ntmps3
  go_wp2_with fail
  refine (awake_any w).mono ?_
  rintro e w0 ⟨rfl, hb0⟩
  have B0 := Lib.hid hb0
  clear hb0
  by_cases hbig : 60 < n
  · have hbi : (60 : Int) < (n : Int) := by omega
    go_wp2
    go_ret
    exact ⟨rfl, B0.out⟩
  have hbi : ¬ (60 : Int) < (n : Int) := by omega
  go_wp2_with fail
  refine (new_any (-1) w0).mono ?_
  rintro e w1 ⟨rfl, hw1⟩
  have W1 := Lib.hid hw1
  have hlt1 : w0.heap.size < w1.heap.size := by rw [hw1]; simp
  clear hw1
  go_wp2_with fail
  refine (new_nv w0.heap.size w1 hlt1).mono ?_
  rintro e w2 ⟨rfl, hd, hb⟩
  have Y2 := Lib.hid (Sys.start W1.out hd (fun k e => Nat.le_of_eq e.symm) hb)
  clear hd hb hlt1
  have UP := Lib.hid (show ∀ wx T s u l, Sys w0.heap.size w0 wx w1.heap.size w0.heap.size T s u l → Below w.heap.size w wx from fun wx T s u l hs => B0.out.trans (hs.below.mono B0.out.size))
  have LO := Lib.hid (show w.heap.size ≤ w0.heap.size from B0.out.size)
  generalize hB : w0.heap.size = B at *
  generalize hg : w1.heap.size = g at *
  clear hB W1 hg
  go_wp2_with (refine wpList_store_part rfl 32 (.tmp 5) (.tmp 23) rfl w2.heap.size 0 32 zeros9 (Rt.cs ⟨0, 0, 0, 0, 0, 0, 0, 0, -1⟩) ?_ ?_ ?_ root_size ?_ ?_ ?_)
  any_goals first | rfl | exact At.new _ 32 rfl | exact rt_one _ | (show 0 + 9 ≤ 9; omega)
  intro w3 hat hb
  rw [part_nought] at hat
  have b3 : But (fun k => k = w2.heap.size) w2 w3 := ((But.refl _ _).alloc _).trans hb (fun _ h _ => h)
  have hof := Y2.out.off _ (Nat.le_refl _)
  have P3 := Lib.hid (show Play w.heap.size B w0 w3 g w2.heap.size (fun k => k = g) NS.new 0 (.slice none 0 0) [] 0 from
    ⟨Y2.out.but b3 (fun k hk e => hof.1 (e ▸ hk)) (fun e => hof.2 e.symm) (fun k e => e ▸ Y2.out.size), hat, ⟨hof.1, hof.2, Y2.out.size⟩, Rw.nil _ _, rfl, fun j hj => (by simp [Value.ownBlock] at hj), fun x hx => (by cases hx), LO.out, Nat.le_refl _, ⟨Int.le_refl _, Int.le_refl _⟩, Nat.le_refl _⟩)
  clear hat hb b3 hof
  generalize w2.heap.size = rb at *
  go_wp2_with fail
  go_loopg [6, 7, 8, 26] n (fun gg s6 s7 s8 s26 wr => ∃ (k : Nat) (T : Nat → Prop) (s : NS) (u : Int) (A8 : Option Addr) (c8 : Nat) (L : List Rc), k ≤ n ∧ n - k ≤ gg ∧ s26 = .int .i64 k ∧ s6 = .int .u64 ((s.last + 1 : Nat) : Int) ∧ s7 = .int .i64 u ∧ s8 = .slice A8 L.length c8 ∧ Play w.heap.size B w0 wr g rb T s u (.slice A8 L.length c8) L k)
  case atStart => exact ⟨0, _, NS.new, 0, none, 0, [], Nat.zero_le _, by omega, rfl, rfl, rfl, rfl, P3.out⟩
  case round =>
    obtain ⟨k, T, s, u, A8, c8, L, hk, hgg, rfl, rfl, rfl, rfl, hP⟩ := hrel
    have PP := Lib.hid hP
    by_cases hlt : k < n
    · obtain ⟨ba, off, rfl, hacts⟩ := H.out.2.2.2 (by omega)
      have hkl : k < M.length := by rw [H.out.1]; exact hlt
      have hact := (hacts k hkl).below (UP.out _ _ _ _ _ hP.sys)
      have hdl : 0 < M[k].n → ∀ a, M[k].A = some a → a.block < w.heap.size := fun h0 a ha => by
        have h1 := (hacts k hkl).has
        obtain ⟨b1, o1, e1⟩ := h1.some_ h0
        rw [e1] at h1 ha
        injection ha with ha
        subst ha
        exact h1.lt h0
      generalize M[k] = x at hact hdl
      have DL := Lib.hid hdl
      clear hdl
      have AC := Lib.hid hact
      clear hP hacts
      go_wp2_with (first
        | (refine wpList_load_part rfl 36 (.tmp 28) rfl ba (off + k * 15) x.cs _ ?_ ?_ Try.underlying36 rfl act_size ?_)
        | (refine wpList_store_part rfl 36 (.tmp 10) (.tmp 29) rfl wr.heap.size 0 36 zeros15 x.cs ?_ ?_ ?_ act_size ?_ ?_ ?_))
      any_goals first | rfl | exact At.new _ 36 rfl | exact ac_one _ | (show 0 + 15 ≤ 15; omega) | exact AC.out.cell
      intro w4 hat hb
      rw [part_act] at hat
      have b4 : But (fun k => k = wr.heap.size) wr w4 := ((But.refl _ _).alloc _).trans hb (fun _ h _ => h)
      have P4 := Lib.hid (PP.out.up (b4.below (fun k e => Nat.le_of_eq e.symm) (Nat.le_refl _)))
      have O4 := Lib.hid (show ¬ T wr.heap.size ∧ ¬ wr.heap.size = B ∧ B ≤ wr.heap.size ∧ ¬ wr.heap.size = rb ∧ (∀ j, (Value.slice A8 L.length c8).ownBlock = some j → ¬ j = wr.heap.size) from
        ⟨(PP.out.sys.off _ (Nat.le_refl _)).1, (PP.out.sys.off _ (Nat.le_refl _)).2, PP.out.sys.size, (by have := PP.out.root.lt; omega), fun j hj => by have := (PP.out.recs.own.lt j hj).2; omega⟩)
      have A4 := Lib.hid hat
      have D4 := Lib.hid (AC.out.has.below (b4.below (fun k e => Nat.le_of_eq e.symm) (Nat.le_refl _)))
      have hd := AC.out.d
      have hkd := AC.out.kind
      have hup := AC.out.upTo
      have e0 : w4.cell? ⟨wr.heap.size, 0, none⟩ = some (.int .u8 (x.d : Int)) := hat.cell 0
      have e1 : w4.cell? ⟨wr.heap.size, 1, none⟩ = some (.int .u8 (x.kind : Int)) := hat.cell 1
      have e2 : w4.cell? ⟨wr.heap.size, 2, none⟩ = some (.int .i64 x.lba) := hat.cell 2
      have e3 : w4.cell? ⟨wr.heap.size, 3, none⟩ = some (.slice x.A x.n x.c) := hat.cell 3
      have e4 : w4.cell? ⟨wr.heap.size, 4, none⟩ = some (.int .u64 x.dur) := hat.cell 4
      have e5 : w4.cell? ⟨wr.heap.size, 5, none⟩ = some (.int .u8 (x.upTo : Int)) := hat.cell 5
      clear hat hb b4 PP AC
      generalize wr.heap.size = ga at *
      by_cases hn40 : 40 < x.n
      · have hni : (40 : Int) < (x.n : Int) := by omega
        go_wp2
        go_ret
        exact ⟨rfl, UP.out _ _ _ _ _ P4.out.sys⟩
      have hni : ¬ (40 : Int) < (x.n : Int) := by omega
      go_upto_block 2 with (fail)
      obtain ⟨r, hr⟩ : ∃ r : Nat, (x.d : Int) % 6 = (r : Int) := ⟨x.d % 6, by omega⟩
      have hr5 : r ≤ 5 := by omega
      simp only [hr]
      clear hr
      go_cut [6, 7, 8, 11, 13, 14] (fun s6 s7 s8 _ _ _ wx => ∃ (T' : Nat → Prop) (s' : NS) (u' : Int) (A8' : Option Addr) (c8' : Nat) (L' : List Rc), s6 = .int .u64 ((s'.last + 1 : Nat) : Int) ∧ s7 = .int .i64 u' ∧ s8 = .slice A8' L'.length c8' ∧ Play w.heap.size B w0 wx g rb T' s' u' (.slice A8' L'.length c8') L' (k + 1))
      case first =>
        have hub := P4.out.ub
        by_cases h5 : r = 5
        · subst h5
          have c5 : ∀ j, j < x.root.cs.size → w4.cell? ⟨ga, 6 + j, none⟩ = x.root.cs[j]? := fun j hj => by
            rw [A4.out.cell]
            match j, hj with
            | 0, _ => rfl
            | 1, _ => rfl
            | 2, _ => rfl
            | 3, _ => rfl
            | 4, _ => rfl
            | 5, _ => rfl
            | 6, _ => rfl
            | 7, _ => rfl
            | 8, _ => rfl
          have C5 := Lib.hid c5
          clear c5
          go_wp2_with (refine wpList_load_part rfl 32 (.tmp 107) rfl ga 6 x.root.cs _ rfl C5.out Try.underlying32 rfl root_size ?_)
          refine (set_go u (-1) x.root P4.out.sys.nv P4.out.sys.pw (by omega) (by decide) (by decide)).mono ?_
          rintro e w5 ⟨rfl, hd5, hp5, hb5⟩
          have Y5 := Lib.hid (P4.out.sys.go hd5 hp5 (fun _ h => .inl h) hb5)
          rw [less_neg] at Y5
          have B5 := Lib.hid hb5
          have A5 := Lib.hid (A4.out.but hb5 (fun h => h.elim O4.out.1 O4.out.2.1))
          have R5 := Lib.hid (P4.out.side hb5).1
          have D5 := Lib.hid (show ∀ j, j < x.root.cs.size → w5.cell? ⟨ga, 6 + j, none⟩ = x.root.cs[j]? from fun j hj => (hb5.cell (p := ⟨ga, 6 + j, none⟩) A4.out.lt (fun h => h.elim O4.out.1 O4.out.2.1)).trans (C5.out j hj))
          clear hd5 hp5 hb5 e0 e1 e2 e3 e4 e5
          go_wp2_with (first
            | (refine wpList_load_part rfl 32 (.tmp 110) rfl ga 6 x.root.cs _ rfl D5.out Try.underlying32 rfl root_size ?_)
            | (refine wpList_store_part rfl 32 (.tmp 5) (.tmp 111) rfl rb 0 32 s.root.cs x.root.cs rfl rfl R5.out root_size (show 0 + 9 ≤ 9 by omega) (rt_one _) ?_; intro w6 hat6 hb6))
          rw [part_whole] at hat6
          have Q6 := Lib.hid (P4.out.set Y5.out B5.out hat6 hb6 (by omega))
          clear hat6 hb6
          go_wp2_with fail
          go_meet
          exact ⟨T, s.set x.root, u + 1, A8, c8, L, rfl, rfl, rfl, Q6.out⟩
        have h5b : ((r : Int) == 5) = false := by simp; omega
        by_cases h4 : r = 4
        · subst h4
          have hLL : L.length ≤ 60 := by
            have h3 : L.length = s.recs.length := by rw [← P4.out.abs, List.length_map]
            have h4 := P4.out.few
            omega
          clear h5 h5b hr5
          go_wp2_with fail
          refine (commit_go x.dur u (-1) x.upTo P4.out.sys.nv P4.out.sys.pw (by have := P4.out.few; omega) (by omega) (by decide) (by decide)).mono ?_
          rintro e w5 ⟨rfl, hd5, hp5, hb5⟩
          have Y5 := Lib.hid (P4.out.sys.go hd5 hp5 (fun _ h => .inl h) hb5)
          rw [less_neg] at Y5
          have B5 := Lib.hid hb5
          have hat5 := A4.out.but hb5 (fun h => h.elim O4.out.1 O4.out.2.1)
          obtain ⟨hr5, hv5⟩ := P4.out.side hb5
          have d4 : w5.cell? ⟨ga, 4, none⟩ = some (.int .u64 x.dur) := hat5.cell 4
          have c7 : w5.cell? ⟨rb, 7, none⟩ = some (.int .u64 s.root.dur) := hr5.cell 7
          have f7 := hr5.frozen 7
          have bo := But.own w5 rb 7 (.int .u64 x.dur)
          have R6 := Lib.hid (show At (w5.setCell ⟨rb, 7, none⟩ (.int .u64 x.dur)) rb (s.commit x.dur x.upTo).root.cs 32 from hr5.set 7 (.int .u64 x.dur))
          have A6 := Lib.hid (hat5.but bo O4.out.2.2.2.1)
          have V6 := Lib.hid (hv5.but bo (fun j hj => (P4.out.vo j hj).2.2.2) (fun y hy h0 a ha e => by have := P4.out.data y hy h0 a ha; have := P4.out.low; have := P4.out.rbo.2.2; omega))
          have B6 := Lib.hid bo
          clear hd5 hp5 hb5 hat5 hr5 hv5 e0 e1 e2 e3 e4 e5 bo
          go_wp2_with fail
          obtain ⟨w6, hw6⟩ : ∃ w6, w6 = w5.setCell ⟨rb, 7, none⟩ (.int .u64 x.dur) := ⟨_, rfl⟩
          rw [← hw6] at R6 A6 V6 B6
          rw [← hw6]
          clear hw6 d4 c7 f7
          go_loopg [11, 13, 86] L.length (fun gj s11 _ s86 wx => ∃ (j : Nat) (Al : Option Addr) (cl : Nat), j ≤ L.length ∧ L.length - j ≤ gj ∧ s86 = .int .i64 j ∧ s11 = .slice Al ((L.take j).filter (stays x.upTo)).length cl ∧ Rw wx w6.heap.size (.slice Al ((L.take j).filter (stays x.upTo)).length cl) ((L.take j).filter (stays x.upTo)) ∧ Below w6.heap.size w6 wx)
          case atStart => exact ⟨0, none, 0, Nat.zero_le _, by omega, rfl, rfl, Rw.nil _ _, Below.refl _ _⟩
          case round =>
            obtain ⟨j, Al, cl, hj, hgj, rfl, rfl, hL, hB⟩ := hrel
            have RL := Lib.hid hL
            have BL := Lib.hid hB
            by_cases hjl : j < L.length
            · obtain ⟨g8, cap8, tail8, e1, _, hat8, _⟩ := (V6.out.up hB).form (by omega)
              injection e1 with e1 _ e2
              subst e1 e2
              obtain ⟨q0, q1, q2, q3⟩ := cell4 (row_cells hat8 hjl)
              have hy := V6.out.has _ (List.getElem_mem hjl)
              have hyn := V6.out.len _ (List.getElem_mem hjl)
              have TK := Lib.hid (List.take_succ_eq_append_getElem hjl)
              generalize L[j] = y at *
              have hata := (A6.out.below hB A6.out.lt).alloc (.cells #[.int .u64 (y.seq : Int), .int .i64 y.kind, .int .i64 y.lba, .slice y.A y.n y.c] 40)
              have d5 : (wr.alloc (.cells #[.int .u64 (y.seq : Int), .int .i64 y.kind, .int .i64 y.lba, .slice y.A y.n y.c] 40)).cell? ⟨ga, 5, none⟩ = some (.int .u8 (x.upTo : Int)) := hata.cell 5
              have HY := Lib.hid hy
              clear hL hB hat8 hata hy
              by_cases hs : x.upTo < y.seq
              · have FT := Lib.hid (show (L.take (j + 1)).filter (stays x.upTo) = (L.take j).filter (stays x.upTo) ++ [y] by rw [TK.out, List.filter_append]; simp [stays_yes hs])
                have LF := Lib.hid (show ((L.take j).filter (stays x.upTo)).length ≤ 1000 by
                  have h1 := List.length_filter_le (stays x.upTo) (L.take j)
                  have h2 := List.length_take_le j L
                  have h3 : L.length = s.recs.length := by rw [← P4.out.abs, List.length_map]
                  have h4 := P4.out.few
                  omega)
                generalize hK : (L.take j).filter (stays x.upTo) = K at *
                clear hK
                have hsi : (x.upTo : Int) < (y.seq : Int) := by omega
                have BY := Lib.hid ((Below.refl wr.heap.size wr).alloc (Nat.le_refl _) (.cells #[.int .u64 (y.seq : Int), .int .i64 y.kind, .int .i64 y.lba, .slice y.A y.n y.c] 40))
                have BZ := Lib.hid (BY.out.alloc BY.out.size (.cells #[.int .u64 (y.seq : Int), .int .i64 y.kind, .int .i64 y.lba, .slice y.A y.n y.c] 40))
                go_wp2_with (at_builtin; refine wpList_append_rec rfl (.tmp 96) (.tmp 98) rfl w6.heap.size (.slice Al K.length cl) K.length K rfl (RL.out.up BZ.out).own ⟨wr.heap.size + 1, 0, none⟩ 1 1 [y] rfl (Src.one y (At.new _ 40 (by simp))) (by have := LF.out; omega) (by have := BL.out.size; have := BZ.out.size; omega) ?_; intro A9 c9 w9 hown9 hg9 hf9; have R9 := Lib.hid ((RL.out.up BZ.out).push hown9 hg9 hf9 (HY.out.below (BL.out.trans (BZ.out.mono BL.out.size))) hyn (fun h0 a ha e => by have h1 := (RL.out.own.lt _ e).1; have h2 := HY.out.low h0 a ha; omega)); have B9 := Lib.hid (((BL.out.trans (BZ.out.mono BL.out.size))).grown hg9 (by have := BL.out.size; have := BZ.out.size; omega) (fun i hi => (RL.out.own.lt i hi).1)); clear hown9 hg9 hf9)
                go_roundg (L.length - (j + 1))
                case measure => omega
                case rel =>
                  refine ⟨j + 1, A9, c9, by omega, Nat.le_refl _, by go_num, ?_, ?_, B9.out⟩
                  · rw [FT.out, List.length_append]
                    rfl
                  · rw [FT.out, List.length_append]
                    exact R9.out
              · have FT := Lib.hid (show (L.take (j + 1)).filter (stays x.upTo) = (L.take j).filter (stays x.upTo) by rw [TK.out, List.filter_append]; simp [stays_no hs])
                have hsi : ¬ (x.upTo : Int) < (y.seq : Int) := by omega
                generalize hK : (L.take j).filter (stays x.upTo) = K at *
                clear hK
                go_wp2_with fail
                go_roundg (L.length - (j + 1))
                case measure => omega
                case rel => exact ⟨j + 1, Al, cl, by omega, Nat.le_refl _, by go_num, by rw [FT.out], by rw [FT.out]; exact RL.out.up ((Below.refl _ _).alloc (Nat.le_refl _) _), BL.out.alloc BL.out.size _⟩
            · obtain rfl : j = L.length := by omega
              rw [List.take_of_length_le (Nat.le_refl _)] at RL
              rw [List.take_of_length_le (Nat.le_refl _)]
              clear hL hB
              have Q7 := Lib.hid (P4.out.commit Y5.out B5.out R6.out B6.out (RL.out.base (fun _ _ => Nat.zero_le _)) (fun i hi => (RL.out.own.lt i hi).1) BL.out)
              go_wp2_with fail
              go_meet
              exact ⟨T, s.commit x.dur x.upTo, u + 1, Al, cl, L.filter (stays x.upTo), rfl, rfl, rfl, Q7.out⟩
        have h4b : ((r : Int) == 4) = false := by simp; omega
        by_cases hf : s.root.n ≤ (s.recs.length : Int)
        · go_wp2_with fail
          refine (append_full (x.kind : Int) x.lba x.A x.n x.c P4.out.sys.nv hf).mono ?_
          rintro e w5 ⟨rfl, m5, hw5⟩
          have Q5 := Lib.hid (show Play w.heap.size B w0 w5 g rb T s u (.slice A8 L.length c8) L (k + 1) by rw [hw5]; exact (P4.out.drewN m5).idle)
          have c4 : w5.cell? ⟨rb, 4, none⟩ = some (.int .i64 s.root.n) := Q5.out.root.cell 4
          have hlen : s.recs.length = L.length := by rw [← P4.out.abs, List.length_map]
          rw [hlen] at hf
          clear hw5 e0 e1 e2 e3 e4 e5 hlen
          go_wp2_with fail
          go_meet
          exact ⟨T, s, u, A8, c8, L, rfl, rfl, rfl, Q5.out⟩
        · go_wp2_with fail
          refine (append_go (x.kind : Int) x.lba u (-1) x.A x.n x.c x.l P4.out.sys.nv P4.out.sys.pw (by omega) D4.out (by omega) (fun h0 a ha => by have h1 := DL.out h0 a ha; have h2 := P4.out.low; have h3 := P4.out.sys.own g P4.out.sys.nv.own; omega) (by have := P4.out.few; omega) (by have := P4.out.last; omega) (by omega) (by decide) (by decide)).mono ?_
          rintro e w5 ⟨T5, rfl, hd5, hp5, hT5, hb5⟩
          have Y5 := Lib.hid (P4.out.sys.go hd5 hp5 hT5 hb5)
          rw [less_neg] at Y5
          have B5 := Lib.hid hb5
          have T5' := Lib.hid hT5
          have hat5 := A4.out.but hb5 (fun h => h.elim O4.out.1 O4.out.2.1)
          obtain ⟨hr5, hv5⟩ := P4.out.side hb5
          have c4 : w5.cell? ⟨rb, 4, none⟩ = some (.int .i64 s.root.n) := hr5.cell 4
          have d1 : w5.cell? ⟨ga, 1, none⟩ = some (.int .u8 (x.kind : Int)) := hat5.cell 1
          have d2 : w5.cell? ⟨ga, 2, none⟩ = some (.int .i64 x.lba) := hat5.cell 2
          have d3 : w5.cell? ⟨ga, 3, none⟩ = some (.slice x.A x.n x.c) := hat5.cell 3
          have hlen : s.recs.length = L.length := by rw [← P4.out.abs, List.length_map]
          rw [hlen] at hf
          have FW := Lib.hid (show L.length ≤ 60 by rw [← hlen]; have := P4.out.few; omega)
          have LS := Lib.hid P4.out.last
          have hls : s.last ≤ 60 := by have := P4.out.last; omega
          have V5 := Lib.hid hv5
          have D5 := Lib.hid (D4.out.apart hb5 (fun h0 a ha e => by have h1 := DL.out h0 a ha; have h2 := P4.out.low; exact e.elim (fun e => by have := P4.out.sys.own _ e; omega) (fun e => by omega)))
          clear hd5 hp5 hT5 hb5 hat5 hr5 hv5 e0 e1 e2 e3 e4 e5 hlen
          go_wp2_with (at_builtin; refine wpList_append_rec rfl (.tmp 56) (.tmp 66) rfl 0 (.slice A8 L.length c8) L.length L rfl (V5.out.own.alloc _) ⟨w5.heap.size, 0, none⟩ 1 1 [⟨s.last + 1, (x.kind : Int), x.lba, x.A, x.n, x.c, x.l⟩] rfl (Src.one _ (At.new _ 40 rfl)) (by have := FW.out; omega) (Nat.zero_le _) ?_; intro A6 c6 w6 hown6 hg6 hf6; have Q6 := Lib.hid (P4.out.add Y5.out T5'.out B5.out ((Below.refl _ _).alloc (Nat.le_refl _) _) hown6 hg6 hf6 D5.out (by omega) DL.out); clear hown6 hg6 hf6)
          go_meet
          refine ⟨T5, s.add (x.kind : Int) x.lba x.l, u + 1, A6, c6, L ++ [⟨s.last + 1, (x.kind : Int), x.lba, x.A, x.n, x.c, x.l⟩], ?_, rfl, ?_, ?_⟩
          · show Value.int .u64 _ = Value.int .u64 ((s.last + 1 + 1 : Nat) : Int)
            congr 1
          · simp only [List.length_append, List.length_cons, List.length_nil]
          · simp only [List.length_append, List.length_cons, List.length_nil]
            exact Q6.out
      case rest =>
        obtain ⟨T9, s9, u9, A9, c9, L9, rfl, rfl, rfl, hP⟩ := hcut
        have hub9 := hP.ub
        have hlen : s9.recs.length = L9.length := by rw [← hP.abs, List.length_map]
        have HL := Lib.hid hlen
        have few9 := hP.few
        have P9 := Lib.hid hP
        have Q0 := Lib.hid (show Play w.heap.size B w0 wc.drew g rb T9 s9 u9 (.slice A9 L9.length c9) L9 (k + 1) from hP.drewN 1)
        clear hP hlen e0 e1 e2 e3 e4 e5 A4 D4 O4 P4
        go_wp2_with fail
        have S0 : (fun w' : World => At w' rb s9.root.cs 32) wc.drew := Q0.out.root
        have hneq := root_neq s9.root
        refine wp_region_early (fun w' : World => At w' rb s9.root.cs 32) (fun _ => true) (by kernel_rfl) ?_
        change wpEarly _ _ _ _ _ _ 24 (Array.replicate 24 false) _ wc.drew
        refine early_take (i := 0) 114 (.pointer (some ⟨g, 0, none⟩)) rfl rfl (by kernel_rfl) (by kernel_rfl) (by kernel_rfl) (by kernel_rfl) rfl (fun _ _ _ h => h) (fun w' hw' => by go_simp) S0 ?_
        simp only [Act.put, List.setIfInBounds_toArray, List.set_cons_zero, List.set_cons_succ]
        refine early_take (i := 2) 116 (.agg s9.root.cs) rfl rfl (by kernel_rfl) (by kernel_rfl) (by kernel_rfl) (by kernel_rfl) rfl (fun _ _ _ h => h) (fun w' hw' => exec_load_whole (x := .tmp 5) rfl rfl hw' Try.underlying32 root_size) S0 ?_
        simp only [Act.put, List.setIfInBounds_toArray, List.set_cons_zero, List.set_cons_succ]
        refine early_only (i := 1) (by kernel_rfl) rfl (fun K hK => ?_)
        simp only [opWp, List.getElem?_toArray, List.getElem?_cons_succ, List.getElem?_cons_zero]
        go_simp
        go_at_call 13
        refine (root_any Q0.out.sys.nv).mono ?_
        rintro e w5 ⟨rfl, hb5⟩
        have Q5 := Lib.hid (Q0.out.up hb5)
        have S5 : (fun w' : World => At w' rb s9.root.cs 32) w5 := Q5.out.root
        clear hb5
        refine hK _ _ (fun _ => S5) ?_
        refine early_take (i := 3) 117 (.bool false) rfl rfl (by kernel_rfl) (by kernel_rfl) (by kernel_rfl) (by kernel_rfl) rfl (fun _ _ _ h => h) (fun w' hw' => by go_simp) S5 ?_
        simp only [Act.put, List.setIfInBounds_toArray, List.set_cons_zero, List.set_cons_succ]
        refine early_take (i := 4) 118 (.bool false) rfl rfl (by kernel_rfl) (by kernel_rfl) (by kernel_rfl) (by kernel_rfl) rfl (fun _ _ _ h => h) (fun w' hw' => by go_simp) S5 ?_
        simp only [Act.put, List.setIfInBounds_toArray, List.set_cons_zero, List.set_cons_succ]
        refine early_take (i := 5) 119 (.pointer (some ⟨g, 0, none⟩)) rfl rfl (by kernel_rfl) (by kernel_rfl) (by kernel_rfl) (by kernel_rfl) rfl (fun _ _ _ h => h) (fun w' hw' => by go_simp) S5 ?_
        simp only [Act.put, List.setIfInBounds_toArray, List.set_cons_zero, List.set_cons_succ]
        refine early_take (i := 7) 121 (.slice A9 L9.length c9) rfl rfl (by kernel_rfl) (by kernel_rfl) (by kernel_rfl) (by kernel_rfl) rfl (fun _ _ _ h => h) (fun w' hw' => by go_simp) S5 ?_
        simp only [Act.put, List.setIfInBounds_toArray, List.set_cons_zero, List.set_cons_succ]
        refine early_take (i := 8) 122 (.int .i64 (L9.length : Int)) rfl rfl (by kernel_rfl) (by kernel_rfl) (by kernel_rfl) (by kernel_rfl) rfl (fun _ _ _ h => h) (fun w' hw' => by go_simp) S5 ?_
        simp only [Act.put, List.setIfInBounds_toArray, List.set_cons_zero, List.set_cons_succ]
        refine early_only (i := 6) (by kernel_rfl) rfl (fun K hK => ?_)
        simp only [opWp, List.getElem?_toArray, List.getElem?_cons_succ, List.getElem?_cons_zero]
        go_simp
        go_at_call 14
        refine (len_any Q5.out.sys.nv).mono ?_
        rintro e w6 ⟨rfl, rfl⟩
        rw [HL.out]
        refine hK _ _ (fun _ => S5) ?_
        refine early_take (i := 9) 123 (.bool false) rfl rfl (by kernel_rfl) (by kernel_rfl) (by kernel_rfl) (by kernel_rfl) rfl (fun _ _ _ h => h) (fun w' hw' => by go_simp) S5 ?_
        simp only [Act.put, List.setIfInBounds_toArray, List.set_cons_zero, List.set_cons_succ]
        refine early_take (i := 10) 124 (.bool false) rfl rfl (by kernel_rfl) (by kernel_rfl) (by kernel_rfl) (by kernel_rfl) rfl (fun _ _ _ h => h) (fun w' hw' => by go_simp) S5 ?_
        simp only [Act.put, List.setIfInBounds_toArray, List.set_cons_zero, List.set_cons_succ]
        refine early_take (i := 11) 125 (.bool false) rfl rfl (by kernel_rfl) (by kernel_rfl) (by kernel_rfl) (by kernel_rfl) rfl (fun _ _ _ h => h) (fun w' hw' => by go_simp) S5 ?_
        simp only [Act.put, List.setIfInBounds_toArray, List.set_cons_zero, List.set_cons_succ]
        refine early_take (i := 12) 126 (.pointer (some ⟨B, 0, none⟩)) rfl rfl (by kernel_rfl) (by kernel_rfl) (by kernel_rfl) (by kernel_rfl) rfl (fun _ _ _ h => h) (fun w' hw' => by go_simp) S5 ?_
        simp only [Act.put, List.setIfInBounds_toArray, List.set_cons_zero, List.set_cons_succ]
        refine early_take (i := 14) 128 (.int .i64 u9) rfl rfl (by kernel_rfl) (by kernel_rfl) (by kernel_rfl) (by kernel_rfl) rfl (fun _ _ _ h => h) (fun w' hw' => by go_simp) S5 ?_
        simp only [Act.put, List.setIfInBounds_toArray, List.set_cons_zero, List.set_cons_succ]
        refine early_only (i := 13) (by kernel_rfl) rfl (fun K hK => ?_)
        simp only [opWp, List.getElem?_toArray, List.getElem?_cons_succ, List.getElem?_cons_zero]
        go_simp
        go_at_call 15
        refine (used_any B u9 (-1) _ Q5.out.sys.pw).mono ?_
        rintro e w6 ⟨rfl, rfl⟩
        refine hK _ _ (fun _ => S5) ?_
        refine early_take (i := 15) 129 (.bool false) rfl rfl (by kernel_rfl) (by kernel_rfl) (by kernel_rfl) (by kernel_rfl) rfl (fun _ _ _ h => h) (fun w' hw' => by go_simp) S5 ?_
        simp only [Act.put, List.setIfInBounds_toArray, List.set_cons_zero, List.set_cons_succ]
        refine early_take (i := 16) 130 (.bool false) rfl rfl (by kernel_rfl) (by kernel_rfl) (by kernel_rfl) (by kernel_rfl) rfl (fun _ _ _ h => h) (fun w' hw' => by go_simp) S5 ?_
        simp only [Act.put, List.setIfInBounds_toArray, List.set_cons_zero, List.set_cons_succ]
        refine early_take (i := 17) 131 (.bool false) rfl rfl (by kernel_rfl) (by kernel_rfl) (by kernel_rfl) (by kernel_rfl) rfl (fun _ _ _ h => h) (fun w' hw' => by go_simp) S5 ?_
        simp only [Act.put, List.setIfInBounds_toArray, List.set_cons_zero, List.set_cons_succ]
        refine early_take (i := 18) 132 (.pointer (some ⟨g, 0, none⟩)) rfl rfl (by kernel_rfl) (by kernel_rfl) (by kernel_rfl) (by kernel_rfl) rfl (fun _ _ _ h => h) (fun w' hw' => by go_simp) S5 ?_
        simp only [Act.put, List.setIfInBounds_toArray, List.set_cons_zero, List.set_cons_succ]
        refine early_take (i := 20) 134 (.slice A9 L9.length c9) rfl rfl (by kernel_rfl) (by kernel_rfl) (by kernel_rfl) (by kernel_rfl) rfl (fun _ _ _ h => h) (fun w' hw' => by go_simp) S5 ?_
        simp only [Act.put, List.setIfInBounds_toArray, List.set_cons_zero, List.set_cons_succ]
        refine early_only (i := 19) (by kernel_rfl) rfl (fun K hK => ?_)
        simp only [opWp, List.getElem?_toArray, List.getElem?_cons_succ, List.getElem?_cons_zero]
        go_simp
        go_at_call 17
        refine (records_any Q5.out.sys.nv (by omega)).mono ?_
        rintro e w7 ⟨v7, rfl, ⟨L7, hr7, ha7, _, _⟩, hb7⟩
        have Q7 := Lib.hid (Q5.out.up hb7)
        have S7 : (fun w' : World => At w' rb s9.root.cs 32) w7 := Q7.out.root
        have R7 := Lib.hid hr7
        have AB7 := Lib.hid (ha7.trans Q7.out.abs.symm)
        have N7 := Lib.hid (show L7.length ≤ 1000 by have h1 := congrArg List.length ha7; rw [List.length_map] at h1; omega)
        clear hr7 ha7 hb7
        refine hK _ _ (fun _ => S7) ?_
        refine early_only (i := 21) (by kernel_rfl) rfl (fun K hK => ?_)
        simp only [opWp, List.getElem?_toArray, List.getElem?_cons_succ, List.getElem?_cons_zero]
        go_simp
        go_at_call 16
        refine (same_yes v7 _ _ _ L7 L9 w7 N7.out R7.out Q7.out.recs AB7.out).mono ?_
        rintro e w8 ⟨rfl, m8, hw8⟩
        have Q8 := Lib.hid (show Play w.heap.size B w0 w8 g rb T9 s9 u9 (.slice A9 L9.length c9) L9 (k + 1) by rw [hw8]; exact Q7.out.drewN m8)
        have S8 : (fun w' : World => At w' rb s9.root.cs 32) w8 := Q8.out.root
        clear hw8
        refine hK _ _ (fun _ => S8) ?_
        refine early_take (i := 22) 136 (.bool false) rfl rfl (by kernel_rfl) (by kernel_rfl) (by kernel_rfl) (by kernel_rfl) rfl (fun _ _ _ h => h) (fun w' hw' => by go_simp) S8 ?_
        simp only [Act.put, List.setIfInBounds_toArray, List.set_cons_zero, List.set_cons_succ]
        refine early_take (i := 23) 137 (.bool false) rfl rfl (by kernel_rfl) (by kernel_rfl) (by kernel_rfl) (by kernel_rfl) rfl (fun _ _ _ h => h) (fun w' hw' => by go_simp) S8 ?_
        simp only [Act.put, List.setIfInBounds_toArray, List.set_cons_zero, List.set_cons_succ]
        refine early_done (by kernel_rfl) ?_
        clear S0 S5 S7 S8 hneq
        go_wp2
        go_roundg (n - (k + 1))
        case measure => omega
        case rel => exact ⟨k + 1, T9, s9, u9, A9, c9, L9, by omega, Nat.le_refl _, by go_num, rfl, rfl, rfl, Q8.out⟩
    · clear hP
      go_wp2
      go_ret
      exact ⟨rfl, UP.out _ _ _ _ _ PP.out.sys⟩

end Go.Proofs.Ytolienlbdfbdeaa
