/-
  THE WALK OF NvRises.
-/
import Derived.Test.YtolienlbdfbdeaaMapU
import Derived.Test.YtolienlbdfbdeaaWhole
import Derived.Deep.LoopGhost
import Derived.Deep.CutRange
import Derived.Deep.CutBlock
import Derived.Deep.DeepCutAuto
namespace Go.Proofs.Ytolienlbdfbdeaa
open Go.RowKit
set_option linter.unusedVariables false
set_option maxRecDepth 100000

set_option maxHeartbeats 6400000 in
theorem nvRises_walk (A : Option Addr) (n c : Nat) (M : List Ac) (w : World) (h : Acts w A n c M) : Calls Try.prog 6 #[.slice A n c] w fun e w' => e = .returned (.bool true) ∧ Below w.heap.size w w' := by
  have H := Lib.hid h
  clear h
  have hmm := @run_makeMap Try.prog
  go_enter Try.func6, Try.ntmps6
  go_wp2_with fail
  refine (awake_any w).mono ?_
  rintro e w0 ⟨rfl, hb0⟩
  have B0 := Lib.hid hb0
  clear hb0
  by_cases hbig : 60 < n
  · have hbi : (60 : Int) < (n : Int) := by omega
    go_wp2
    go_ret
    exact ⟨rfl, B0.out⟩
  have hbi : ¬ (60 : Int) < (n : Int) := by omega
  go_wp2_with fail
  refine (new_any (-1) w0).mono ?_
  rintro e w1 ⟨rfl, hw1⟩
  have W1 := Lib.hid hw1
  have hlt1 : w0.heap.size < w1.heap.size := by rw [hw1]; simp
  clear hw1
  go_wp2_with fail
  refine (new_nv w0.heap.size w1 hlt1).mono ?_
  rintro e w2 ⟨rfl, hd, hb⟩
  have Y2 := Lib.hid (Sys.start W1.out hd (fun k e => Nat.le_of_eq e.symm) hb)
  clear hd hb hlt1
  have UP := Lib.hid (show ∀ wx T s u l, Sys w0.heap.size w0 wx w1.heap.size w0.heap.size T s u l → Below w.heap.size w wx from fun wx T s u l hs => B0.out.trans (hs.below.mono B0.out.size))
  generalize hB : w0.heap.size = B at *
  generalize hg : w1.heap.size = g at *
  clear hB W1 hg
  go_wp2_with fail
  refine (set_go 0 (-1) (rt 7 0) Y2.out.nv Y2.out.pw (by decide) (by decide) (by decide)).mono ?_
  rintro e w3 ⟨rfl, hd, hp, hb⟩
  have Y3 := Lib.hid (Y2.out.go hd hp (fun _ h => .inl h) hb)
  rw [less_neg] at Y3
  clear hd hp hb
  go_wp2_with fail
  have P3 := Lib.hid (show Rise B w0 (w3.alloc (.map #[] 0)) g (fun k => k = g) (NS.new.set (rt 7 0)) (0 + 1) w3.heap.size (fun _ => none) 0 0 from
    ⟨Y3.out.alloc _, ⟨rfl, by decide, List.Pairwise.nil, fun r hr => (by cases hr)⟩, Mu.made w3, ⟨(Y3.out.off _ (Nat.le_refl _)).1, (Y3.out.off _ (Nat.le_refl _)).2, Y3.out.size⟩, fun i v hi => (by cases hi), Nat.le_refl _, by decide, Nat.le_refl _⟩)
  clear hmm
  generalize w3.alloc (.map #[] 0) = w4 at *
  generalize w3.heap.size = sb at *
  go_loopg [7, 26] n (fun gg _ s26 wr => ∃ (k : Nat) (T : Nat → Prop) (s : NS) (u : Int) (f : Nat → Option Int) (m : Nat), k ≤ n ∧ n - k ≤ gg ∧ s26 = .int .i64 k ∧ Rise B w0 wr g T s u sb f m k)
  case atStart => exact ⟨0, _, _, _, _, 0, Nat.zero_le _, by omega, rfl, P3.out⟩
  case round =>
    obtain ⟨k, T, s, u, f, m, hk, hgg, rfl, hP⟩ := hrel
    have PP := Lib.hid hP
    by_cases hlt : k < n
    · obtain ⟨ba, off, rfl, hacts⟩ := H.out.2.2.2 (by omega)
      have hkl : k < M.length := by rw [H.out.1]; exact hlt
      have hact := (hacts k hkl).below (UP.out _ _ _ _ _ hP.sys)
      generalize M[k] = x at hact
      have AC := Lib.hid hact
      clear hP hacts
      go_wp2_with (first
        | (refine wpList_load_part rfl 36 (.tmp 28) rfl ba (off + k * 15) x.cs _ ?_ ?_ Try.underlying36 rfl act_size ?_)
        | (refine wpList_store_part rfl 36 (.tmp 6) (.tmp 29) rfl wr.heap.size 0 36 zeros15 x.cs ?_ ?_ ?_ act_size ?_ ?_ ?_))
      any_goals first | rfl | exact At.new _ 36 rfl | exact ac_one _ | (show 0 + 15 ≤ 15; omega) | exact AC.out.cell
      intro w5 hat hb
      rw [part_act] at hat
      have b5 : But (fun k => k = wr.heap.size) wr w5 := ((But.refl _ _).alloc _).trans hb (fun _ h _ => h)
      have P5 := Lib.hid (PP.out.up (b5.below (fun k e => Nat.le_of_eq e.symm) (Nat.le_refl _)))
      have hd := AC.out.d
      have hkd := AC.out.kind
      have hup := AC.out.upTo
      have e0 : w5.cell? ⟨wr.heap.size, 0, none⟩ = some (.int .u8 (x.d : Int)) := hat.cell 0
      have e1 : w5.cell? ⟨wr.heap.size, 1, none⟩ = some (.int .u8 (x.kind : Int)) := hat.cell 1
      have e2 : w5.cell? ⟨wr.heap.size, 2, none⟩ = some (.int .i64 x.lba) := hat.cell 2
      have e5 : w5.cell? ⟨wr.heap.size, 5, none⟩ = some (.int .u8 (x.upTo : Int)) := hat.cell 5
      clear hat hb b5 PP AC
      generalize wr.heap.size = ga at *
      obtain ⟨r, hr⟩ : ∃ r : Nat, (x.d : Int) % 6 = (r : Int) := ⟨x.d % 6, by omega⟩
      have hub := P5.out.ub
      have hls := P5.out.last
      have hmb := P5.out.mb
      have hln := P5.out.good.len
      have hrn := Lib.hid P5.out.good.root
      go_upto_if 33 with (fail)
      simp only [hr]
      clear hr
      go_cut [7] (fun _ wx => ∃ (T' : Nat → Prop) (s' : NS) (u' : Int), Rise B w0 wx g T' s' u' sb f m (k + 1))
      case first =>
        by_cases h4 : r = 4
        · subst h4
          go_wp2_with fail
          refine (commit_go 0 u (-1) x.upTo P5.out.sys.nv P5.out.sys.pw (by omega) (by omega) (by decide) (by decide)).mono ?_
          rintro e w6 ⟨rfl, hd6, hp6, hb6⟩
          rw [less_neg] at hp6
          have Q6 := Lib.hid (P5.out.go (P5.out.sys.go hd6 hp6 (fun _ h => .inl h) hb6) (fun _ h => .inl h) hb6 (P5.out.good.commit 0 x.upTo) (P5.out.seen.commit 0 x.upTo) (Nat.le_succ_of_le hls) (by omega))
          clear hd6 hp6 hb6
          go_wp2_with fail
          go_meet
          exact ⟨_, _, _, Q6.out⟩
        have h4b : ((r : Int) == 4) = false := by simp; omega
        by_cases hf : s.root.n ≤ (s.recs.length : Int)
        · go_wp2_with fail
          refine (append_full (x.kind : Int) x.lba none 0 0 P5.out.sys.nv hf).mono ?_
          rintro e w6 ⟨rfl, m6, hw6⟩
          have Q6 := Lib.hid (show Rise B w0 w6 g T s u sb f m (k + 1) by
            rw [hw6]
            have h1 := P5.out.drewN m6
            exact { h1 with last := Nat.le_succ_of_le hls, ub := (by omega), mb := (by omega) })
          clear hw6
          go_wp2_with fail
          go_meet
          exact ⟨_, _, _, Q6.out⟩
        · go_wp2_with fail
          refine (append_go (x.kind : Int) x.lba u (-1) none 0 0 [] P5.out.sys.nv P5.out.sys.pw (by omega) (Has.nil _ _) (by omega) (fun h => absurd h (by omega)) (by omega) (by omega) (by omega) (by decide) (by decide)).mono ?_
          rintro e w6 ⟨T6, rfl, hd6, hp6, hT6, hb6⟩
          rw [less_neg] at hp6
          have Q6 := Lib.hid (P5.out.go (P5.out.sys.go hd6 hp6 hT6 hb6) hT6 hb6 (P5.out.good.add (by have := hrn.out; omega) _ _ _) (P5.out.seen.add _ _ _) (Nat.succ_le_succ hls) (by omega))
          clear hd6 hp6 hT6 hb6
          go_wp2_with fail
          go_meet
          exact ⟨_, _, _, Q6.out⟩
      case rest =>
        obtain ⟨T7, s7, u7, hQ⟩ := hcut
        have Q7 := Lib.hid hQ
        have hl7 := hQ.good.len
        have hb7 := hQ.last
        clear hQ e0 e1 e2 e5 P5 hub hls hln hrn
        go_wp2_with fail
        refine (records_any Q7.out.sys.nv (by omega)).mono ?_
        rintro e w8 ⟨v8, rfl, hR8, hb8⟩
        obtain ⟨A8, c8, rfl⟩ := hR8.slice
        have Q8 := Lib.hid (Q7.out.up hb8)
        have R8 := Lib.hid hR8
        have SB := Lib.hid (show sb < wc.heap.size from Q7.out.mp.lt)
        clear hR8 hb8
        generalize wc.heap.size = b8 at *
        go_wp2_with fail
        go_loopg [7, 9, 10, 11, 49] s7.recs.length (fun gj s7' _ _ _ s49 wx => ∃ (j was m' : Nat) (f' : Nat → Option Int), j ≤ s7.recs.length ∧ s7.recs.length - j ≤ gj ∧ s49 = .int .i64 j ∧ s7' = .int .u64 (was : Int) ∧ (∀ r ∈ s7.recs.drop j, was < r.seq) ∧ Rise B w0 wx g T7 s7 u7 sb f' m' (k + 1) ∧ m' ≤ 7 * k + j ∧ Recs wx b8 (.slice A8 s7.recs.length c8) s7.recs)
        case atStart => exact ⟨0, 0, m, f, Nat.zero_le _, by omega, rfl, rfl, fun r hr => by have := (Q8.out.good.pos r (List.mem_of_mem_drop hr)).1; omega, Q8.out, by omega, R8.out⟩
        case round =>
          obtain ⟨j, was, m', f', hj, hgj, rfl, rfl, hwas, hQ9, hm9, hR9⟩ := hrel
          have Q9 := Lib.hid hQ9
          have R9 := Lib.hid hR9
          have WS := Lib.hid hwas
          by_cases hjl : j < s7.recs.length
          · obtain ⟨L9, hr9, ha9, _, _⟩ := hR9
            have hL9 : L9.length = s7.recs.length := by rw [← ha9, List.length_map]
            have hj9 : j < L9.length := by omega
            obtain ⟨g9, cap9, tail9, ee, _, hat9, _⟩ := hr9.form (by omega)
            injection ee with ee e3 ee2
            clear e3
            subst ee ee2
            obtain ⟨q0, q1, q2, q3⟩ := cell4 (row_cells hat9 hj9)
            have hab : L9[j].abs = s7.recs[j] := by
              have h1 := congrArg (fun l => l[j]?) ha9
              simp only [List.getElem?_map, List.getElem?_eq_getElem hj9, List.getElem?_eq_getElem hjl, Option.map_some] at h1
              injection h1
            generalize L9[j] = y at q0 q1 q2 q3 hab
            have hys : y.seq = s7.recs[j].seq := congrArg Rr.seq hab
            have hyl : y.lba = s7.recs[j].lba := congrArg Rr.lba hab
            have hmem : s7.recs[j] ∈ s7.recs := List.getElem_mem hjl
            have hpos := hQ9.good.pos _ hmem
            have hlt9 : was < y.seq := by
              rw [hys]
              exact hwas _ (by rw [List.drop_eq_getElem_cons hjl]; exact List.mem_cons_self)
            have hin : InU y.seq := by unfold InU; omega
            have hsee : (f' y.seq).isSome = true → (f' y.seq).getD 0 = y.lba := fun h => by
              obtain ⟨v, hv⟩ := Option.isSome_iff_exists.1 h
              rw [hv]
              have := (hQ9.seen y.seq v hv).2 _ hmem hys.symm
              rw [hyl]
              exact this.symm
            have NE := Lib.hid (hQ9.good.next hjl)
            have SU := Lib.hid (hQ9.seen.upd hQ9.good hmem)
            have HYS := Lib.hid hys
            have HYL := Lib.hid hyl
            clear hwas hQ9 hr9 ha9 hat9 hab hys hyl hmem hpos hL9 hj9
            have QA := Lib.hid (Q9.out.up ((Below.refl wr.heap.size wr).alloc (Nat.le_refl _) (.cells #[.int .u64 (y.seq : Int), .int .i64 y.kind, .int .i64 y.lba, .slice y.A y.n y.c] 40)))
            have RA := Lib.hid (R9.out.up ((Below.refl wr.heap.size wr).alloc (Nat.le_refl _) (.cells #[.int .u64 (y.seq : Int), .int .i64 y.kind, .int .i64 y.lba, .slice y.A y.n y.c] 40)))
            have hlook := QA.out.mp.look_ok hin
            obtain ⟨w9, hput, hM9, hB9⟩ := QA.out.mp.store (by omega) hin y.lba
            have MB := Lib.hid hm9
            have QB := Lib.hid (show Rise B w0 w9 g T7 s7 u7 sb (upd f' y.seq y.lba) (m' + 1) (k + 1) from
              ⟨QA.out.sys.but hB9 (fun i hi e => QA.out.sbo.1 (e ▸ hi)) (fun e => QA.out.sbo.2.1 e.symm) (fun i e => e ▸ QA.out.sbo.2.2), QA.out.good, hM9, QA.out.sbo, by rw [HYS.out, HYL.out]; exact SU.out, QA.out.last, QA.out.ub, by omega⟩)
            have RB := Lib.hid (RA.out.but hB9 (fun i e => by rw [e]; exact SB.out))
            have hle : ¬ (y.seq : Int) ≤ (was : Int) := by omega
            have hled : decide ((y.seq : Int) ≤ (was : Int)) = false := decide_eq_false hle
            generalize hok : (f' y.seq).isSome = ok at hlook hsee
            generalize (f' y.seq).getD 0 = lv at hlook hsee
            clear hok hM9 hB9 hm9
            cases ok
            · clear hsee
              go_wp2
              go_roundg (s7.recs.length - (j + 1))
              case measure => omega
              case rel => exact ⟨j + 1, y.seq, m' + 1, upd f' y.seq y.lba, by omega, Nat.le_refl _, by go_num, rfl, by rw [HYS.out]; exact NE.out, QB.out, by have := MB.out; omega, RB.out⟩
            · obtain rfl := hsee rfl
              clear hsee
              go_wp2
              go_roundg (s7.recs.length - (j + 1))
              case measure => omega
              case rel => exact ⟨j + 1, y.seq, m' + 1, upd f' y.seq y.lba, by omega, Nat.le_refl _, by go_num, rfl, by rw [HYS.out]; exact NE.out, QB.out, by have := MB.out; omega, RB.out⟩
          · clear hwas hQ9 hR9
            have h7 : ¬ (7 : Int) < (s7.recs.length : Int) := by omega
            go_wp2_with fail
            refine (len_any Q9.out.sys.nv).mono ?_
            rintro e wA ⟨rfl, rfl⟩
            go_wp2
            go_roundg (n - (k + 1))
            case measure => omega
            case rel => exact ⟨k + 1, T7, s7, u7, f', m', by omega, Nat.le_refl _, by go_num, Q9.out⟩
    · clear hP
      go_wp2
      go_ret
      exact ⟨rfl, UP.out _ _ _ _ _ PP.out.sys⟩

end Go.Proofs.Ytolienlbdfbdeaa
