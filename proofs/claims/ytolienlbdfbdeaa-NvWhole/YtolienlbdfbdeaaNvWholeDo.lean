/-
  THE WALK OF NvWhole's CLOSURE.
-/
import Derived.Test.YtolienlbdfbdeaaWhole
namespace Go.Proofs.Ytolienlbdfbdeaa
open Go.RowKit
set_option linter.unusedVariables false
set_option maxRecDepth 100000

def endOf (gone : Bool) : Ending := if gone then .panicked out else .returned (.tuple #[])

theorem ended_out {B : Nat} {w0 w w' : World} {g : Nat} {T : Nat → Prop} {s : NS} {u L : Int} {V : Vs} {A : Option Addr} {n c : Nat} {v : Value} (h : Wh B w0 w g T s u 0 V A n c) (hv : At w V.wv #[v] 33) (hx : At w V.rv s.root.cs 32) (hR : Recs w (V.rc + 1) v s.recs) (hu : u = 1 + L)
    (hf : s.recs.length ≤ 1000) (hb : Below w.heap.size w w') : Ended B w0 g L V A n c true w' :=
  ⟨T, s, u, 0, h.up hb, hf, fun _ => ⟨hu, v, hv.below hb hv.lt, hx.below hb hx.lt, hR.up hb⟩⟩
theorem drew_below (w : World) (m : Nat) : Below w.heap.size w (w.drewN m) := ⟨rfl, rfl, rfl, Nat.le_refl _, fun _ _ => rfl⟩
theorem less_pos {l : Int} (h : 0 < l) : less l = l - 1 := if_pos h

set_option maxHeartbeats 6400000 in
theorem whole_do (B : Nat) (w0 : World) (g : Nat) (V : Vs) (A : Option Addr) (n c : Nat) (M : List Ac) (L : Nat) (T0 : Nat → Prop) (s0 : NS) (wa : World) (hL : L ≤ 30) (hn : n ≤ 40) (hW : Wh B w0 wa g T0 s0 1 (L : Int) V A n c) (h0 : s0.last = 0 ∧ s0.recs = [])
    (hA : ∀ wx, Below B w0 wx → Acts wx A n c M) (hrc : V.rc < wa.heap.size) :
    Calls Try.prog 20 #[.pointer (some ⟨V.bl, 0, none⟩), .pointer (some ⟨V.dv, 0, none⟩), .pointer (some ⟨V.wv, 0, none⟩), .pointer (some ⟨V.rv, 0, none⟩)] wa fun e w' => ∃ gone, e = endOf gone ∧ Ended B w0 g (L : Int) V A n c gone w' := by
  have cb : wa.cell? ⟨V.bl, 0, none⟩ = some (.slice A n c) := hW.bl.cell 0
  have HW := Lib.hid hW
  have H0 := Lib.hid h0
  have HA := Lib.hid hA
  clear hW h0 hA
  go_enter Try.func20, Try.ntmps20
  go_wp2
  go_loopw [8] (fun i wr => ∃ (k : Nat) (T : Nat → Prop) (s : NS) (u l : Int), k ≤ n ∧ i = .int .i64 k ∧ Wh B w0 wr g T s u l V A n c ∧ u + l = 1 + L ∧ 0 ≤ l ∧ 1 ≤ u ∧ s.last ≤ k ∧ s.recs.length ≤ k ∧ wa.heap.size ≤ wr.heap.size) (fun i _ => n - (intOf i).toNat)
  case atStart => exact ⟨0, T0, s0, 1, L, Nat.zero_le _, rfl, HW.out, rfl, by omega, by omega, by rw [H0.out.1]; exact Nat.le_refl _, by rw [H0.out.2]; exact Nat.le_refl _, Nat.le_refl _⟩
  case round =>
    obtain ⟨k, T, s, u, l, hk, rfl, hP, hul, hl0, hu1, hlast, hfew, hsz⟩ := hrel
    have UL := Lib.hid hul
    have hu40 : u ≤ 31 := by omega
    have hl40 : l ≤ 31 := by omega
    clear hul
    have PP := Lib.hid hP
    by_cases hlt : k < n
    · obtain ⟨hml, _, _, hact⟩ := HA.out wr hP.sys.below
      obtain ⟨ba, off, rfl, hacts⟩ := hact (by omega)
      have hkl : k < M.length := by rw [hml]; exact hlt
      have hact := hacts k hkl
      generalize M[k] = x at hact
      have AC := Lib.hid hact
      clear hP hacts hml
      go_wp2_with (first
        | (refine wpList_load_part rfl 36 (.tmp 10) rfl ba (off + k * 15) x.cs _ ?_ ?_ Try.underlying36 rfl act_size ?_)
        | (refine wpList_store_part rfl 36 (.tmp 5) (.tmp 11) rfl wr.heap.size 0 36 zeros15 x.cs ?_ ?_ ?_ act_size ?_ ?_ ?_))
      any_goals first | rfl | exact At.new _ 36 rfl | exact ac_one _ | (show 0 + 15 ≤ 15; omega) | exact AC.out.cell
      intro w4 hat hb
      rw [part_act] at hat
      have b4 : But (fun k => k = wr.heap.size) wr w4 := ((But.refl _ _).alloc _).trans hb (fun _ h _ => h)
      have P4 := Lib.hid (PP.out.up (b4.below (fun k e => Nat.le_of_eq e.symm) (Nat.le_refl _)))
      have O4 := Lib.hid (show ¬ T wr.heap.size ∧ ¬ wr.heap.size = B ∧ (∀ j, V.is j → ¬ j = wr.heap.size) from
        ⟨(PP.out.sys.off _ (Nat.le_refl _)).1, (PP.out.sys.off _ (Nat.le_refl _)).2, fun j hj => by have := PP.out.lt j hj; omega⟩)
      have SZ := Lib.hid (show wa.heap.size ≤ w4.heap.size from Nat.le_trans hsz b4.size)
      have A4 := Lib.hid hat
      have hd := AC.out.d
      have hkd := AC.out.kind
      have hup := AC.out.upTo
      clear hat hb b4 PP AC
      generalize wr.heap.size = ga at *
      go_wp2_with fail
      have S0 : (fun w' : World => w'.cell? ⟨V.dv, 0, none⟩ = some (.pointer (some ⟨g, 0, none⟩))) w4.drew := P4.out.dv.cell 0
      have Q0 := Lib.hid (show Wh B w0 w4.drew g T s u l V (some ⟨ba, off, none⟩) n c from P4.out.drewN 1)
      have A0 := Lib.hid (show At w4.drew ga x.cs 36 from A4.out)
      refine wp_region_early (fun w' : World => w'.cell? ⟨V.dv, 0, none⟩ = some (.pointer (some ⟨g, 0, none⟩))) (fun j => decide (j < 4)) (by kernel_rfl) ?_
      change wpEarly _ _ _ _ _ _ 6 (Array.replicate 6 false) _ w4.drew
      refine early_take (i := 0) 12 (.pointer (some ⟨g, 0, none⟩)) rfl rfl (by kernel_rfl) (by kernel_rfl) (by kernel_rfl) (by kernel_rfl) rfl (fun _ _ _ h => h) (fun w' hw' => by go_simp) S0 ?_
      simp only [Act.put, List.setIfInBounds_toArray, List.set_cons_zero, List.set_cons_succ]
      refine early_take (i := 2) 14 (.pointer (some ⟨g, 0, none⟩)) rfl rfl (by kernel_rfl) (by kernel_rfl) (by kernel_rfl) (by kernel_rfl) rfl (fun _ _ _ h => h) (fun w' hw' => by go_simp) S0 ?_
      simp only [Act.put, List.setIfInBounds_toArray, List.set_cons_zero, List.set_cons_succ]
      refine early_only (i := 1) (by kernel_rfl) rfl (fun K hK => ?_)
      simp only [opWp, List.getElem?_toArray, List.getElem?_cons_succ, List.getElem?_cons_zero]
      go_simp
      go_at_call 17
      refine (records_any Q0.out.sys.nv (by omega)).mono ?_
      rintro e w5 ⟨v5, rfl, hR5, hb5⟩
      have Q5 := Lib.hid (Q0.out.up hb5)
      have A5 := Lib.hid (A0.out.below hb5 A0.out.lt)
      have S5 : (fun w' : World => w'.cell? ⟨V.dv, 0, none⟩ = some (.pointer (some ⟨g, 0, none⟩))) w5 := Q5.out.dv.cell 0
      obtain ⟨v5A, v5c, rfl⟩ := hR5.slice
      have R5 := Lib.hid (hR5.base (B' := V.rc + 1) (by show V.rc + 1 ≤ w4.heap.size; have := SZ.out; omega))
      have Z5 := Lib.hid (show w4.heap.size ≤ w5.heap.size from hb5.size)
      have R5b := Lib.hid (show Recs w5 w4.heap.size _ s.recs from hR5)
      clear hR5 hb5
      refine hK _ _ (fun _ => S5) ?_
      refine early_only (i := 3) (by kernel_rfl) rfl (fun K hK => ?_)
      simp only [opWp, List.getElem?_toArray, List.getElem?_cons_succ, List.getElem?_cons_zero]
      go_simp
      go_at_call 13
      refine (root_any Q5.out.sys.nv).mono ?_
      rintro e w6 ⟨rfl, hb6⟩
      have Q6 := Lib.hid (Q5.out.up hb6)
      have A6 := Lib.hid (A5.out.below hb6 A5.out.lt)
      have S6 : (fun w' : World => w'.cell? ⟨V.dv, 0, none⟩ = some (.pointer (some ⟨g, 0, none⟩))) w6 := Q6.out.dv.cell 0
      have R6 := Lib.hid (R5b.out.up hb6)
      clear hb6
      refine hK _ _ (fun _ => S6) ?_
      refine early_only (i := 4) (by kernel_rfl) rfl (fun K hK => ?_)
      simp only [opWp, List.getElem?_toArray, List.getElem?_cons_succ, List.getElem?_cons_zero]
      obtain ⟨vv, hvv⟩ := Q6.out.wv
      have cv : w6.cell? ⟨V.wv, 0, none⟩ = some vv := hvv.cell 0
      have fv := hvv.frozen 0
      go_simp
      obtain ⟨Q7, hw7⟩ := Q6.out.setW (.slice v5A s.recs.length v5c)
      have Q7 := Lib.hid Q7
      have W7 := Lib.hid hw7
      have LW := Lib.hid (show V.wv < w4.heap.size from P4.out.lt _ (.inr (.inr (.inl rfl))))
      have LR := Lib.hid (show V.rv < w4.heap.size from P4.out.lt _ (.inr (.inr (.inr (.inl rfl)))))
      have R7 := Lib.hid (R6.out.but (But.own w6 V.wv 0 (.slice v5A s.recs.length v5c)) (fun j e => by rw [e]; exact LW.out))
      have A7 := Lib.hid (A6.out.but (But.own w6 V.wv 0 (.slice v5A s.recs.length v5c)) (fun e => O4.out.2.2 V.wv (.inr (.inr (.inl rfl))) e.symm))
      clear hw7 hvv cv fv
      refine hK _ _ (fun h => absurd h (by decide)) ?_
      generalize w6.setCell ⟨V.wv, 0, none⟩ (.slice v5A s.recs.length v5c) = w7 at *
      refine early_only (i := 5) (by kernel_rfl) rfl (fun K hK => ?_)
      simp only [opWp, List.getElem?_toArray, List.getElem?_cons_succ, List.getElem?_cons_zero]
      obtain ⟨rr, hrr⟩ := Q7.out.rv
      refine wp_store_part 32 (.tmp 3) (.tmp 15) rfl V.rv 0 32 rr.cs s.root.cs rfl rfl hrr root_size (show 0 + 9 ≤ 9 by omega) (rt_one _) ?_
      intro w8 hat8 hb8
      rw [part_whole] at hat8
      obtain ⟨Q8, hw8⟩ := Q7.out.setR W7.out hat8 hb8
      have Q8 := Lib.hid Q8
      have W8 := Lib.hid hw8
      have X8 := Lib.hid hat8
      have R8 := Lib.hid ((R7.out.but hb8 (fun j e => by rw [e]; exact LR.out)).base (B' := V.rc + 1) (by have := SZ.out; omega))
      have hat := A7.out.but hb8 (fun e => O4.out.2.2 V.rv (.inr (.inr (.inr (.inl rfl)))) e.symm)
      have SZ8 := Lib.hid (show wa.heap.size ≤ w8.heap.size by have h1 := SZ.out; have h2 := A4.out.lt; have h3 := hat.lt; have h4 := hb8.size; have h5 := Q7.out.rc.lt; have h6 := R7.out; omega)
      have hd0 : w8.cell? ⟨ga, 0, none⟩ = some (.int .u8 (x.d : Int)) := hat.cell 0
      have hd1 : w8.cell? ⟨ga, 1, none⟩ = some (.int .u8 (x.kind : Int)) := hat.cell 1
      have hd2 : w8.cell? ⟨ga, 2, none⟩ = some (.int .i64 x.lba) := hat.cell 2
      have hd4 : w8.cell? ⟨ga, 4, none⟩ = some (.int .u64 x.dur) := hat.cell 4
      have hd5 : w8.cell? ⟨ga, 5, none⟩ = some (.int .u8 (x.upTo : Int)) := hat.cell 5
      have hcd : w8.cell? ⟨V.dv, 0, none⟩ = some (.pointer (some ⟨g, 0, none⟩)) := Q8.out.dv.cell 0
      clear hat8 hb8 hw8 hrr hat
      refine hK _ _ (fun h => absurd h (by decide)) ?_
      refine early_done (by kernel_rfl) ?_
      clear S0 S5 S6 hK
      obtain ⟨r, hr⟩ : ∃ r : Nat, (x.d : Int) % 6 = (r : Int) := ⟨x.d % 6, by omega⟩
      have hr5 : r ≤ 5 := by omega
      have hlz : l = 0 ∨ 0 < l := by omega
      by_cases h4 : r = 4
      · subst h4
        rcases hlz with rfl | hlp
        · have CC := Lib.hid (commit_out x.dur u x.upTo Q8.out.sys.nv Q8.out.sys.pw)
          go_wp2_with fail
          refine CC.out.mono ?_
          rintro e w9 ⟨rfl, o9, hw9⟩
          have EN := Lib.hid (ended_out (w' := w9) (L := (L : Int)) Q8.out W8.out X8.out R8.out (by have := UL.out; omega) (by omega) (by rw [hw9]; exact (Below.refl _ _).alloc (Nat.le_refl _) _))
          clear hw9
          unfold out
          go_wp2
          exact ⟨rfl, true, rfl, EN.out⟩
        · have CC := Lib.hid (commit_go x.dur u l x.upTo Q8.out.sys.nv Q8.out.sys.pw (by omega) (by omega) (by omega) (by omega))
          go_wp2_with fail
          refine CC.out.mono ?_
          rintro e w9 ⟨rfl, hdn, hpn, hbn⟩
          rw [less_pos hlp] at hpn
          have NX := Lib.hid (Q8.out.go (Q8.out.sys.go hdn hpn (fun _ h => .inl h) hbn) (fun _ h => .inl h) hbn)
          have SZ9 := Lib.hid (Nat.le_trans SZ8.out hbn.size)
          have FW := Lib.hid (show (s.commit x.dur x.upTo).recs.length ≤ k + 1 from Nat.le_trans (List.length_filter_le _ _) (by omega))
          clear hdn hpn hbn
          go_wp2
          go_roundw
          case rel => exact ⟨k + 1, T, s.commit x.dur x.upTo, u + 1, l - 1, by omega, by go_num, NX.out, by have := UL.out; omega, by omega, by omega, Nat.le_succ_of_le hlast, FW.out, SZ9.out⟩
          case measure => simp [intOf]; omega
      have h4b : ((r : Int) == 4) = false := by simp; omega
      by_cases h5 : r = 5
      · subst h5
        rcases hlz with rfl | hlp
        · have CC := Lib.hid (set_out u (rt 6 x.dur) Q8.out.sys.nv Q8.out.sys.pw)
          go_wp2_with fail
          refine CC.out.mono ?_
          rintro e w9 ⟨rfl, o9, hw9⟩
          have EN := Lib.hid (ended_out (w' := w9) (L := (L : Int)) Q8.out W8.out X8.out R8.out (by have := UL.out; omega) (by omega) (by rw [hw9]; exact (Below.refl _ _).alloc (Nat.le_refl _) _))
          clear hw9
          unfold out
          go_wp2
          exact ⟨rfl, true, rfl, EN.out⟩
        · have CC := Lib.hid (set_go u l (rt 6 x.dur) Q8.out.sys.nv Q8.out.sys.pw (by omega) (by omega) (by omega))
          go_wp2_with fail
          refine CC.out.mono ?_
          rintro e w9 ⟨rfl, hdn, hpn, hbn⟩
          rw [less_pos hlp] at hpn
          have NX := Lib.hid (Q8.out.go (Q8.out.sys.go hdn hpn (fun _ h => .inl h) hbn) (fun _ h => .inl h) hbn)
          have SZ9 := Lib.hid (Nat.le_trans SZ8.out hbn.size)
          clear hdn hpn hbn
          go_wp2
          go_roundw
          case rel => exact ⟨k + 1, T, s.set (rt 6 x.dur), u + 1, l - 1, by omega, by go_num, NX.out, by have := UL.out; omega, by omega, by omega, Nat.le_succ_of_le hlast, Nat.le_succ_of_le hfew, SZ9.out⟩
          case measure => simp [intOf]; omega
      have h5b : ((r : Int) == 5) = false := by simp; omega
      by_cases hf : s.root.n ≤ (s.recs.length : Int)
      · have CC := Lib.hid (append_full (x.kind : Int) x.lba none 0 0 Q8.out.sys.nv hf)
        go_wp2_with fail
        refine CC.out.mono ?_
        rintro e w9 ⟨rfl, m9, hw9⟩
        have NX := Lib.hid (show Wh B w0 w9 g T s u l V (some ⟨ba, off, none⟩) n c by rw [hw9]; exact Q8.out.drewN m9)
        have SZ9 := Lib.hid (show wa.heap.size ≤ w9.heap.size by rw [hw9]; exact SZ8.out)
        clear hw9
        go_wp2
        go_roundw
        case rel => exact ⟨k + 1, T, s, u, l, by omega, by go_num, NX.out, UL.out, by omega, by omega, Nat.le_succ_of_le hlast, Nat.le_succ_of_le hfew, SZ9.out⟩
        case measure => simp [intOf]; omega
      rcases hlz with rfl | hlp
      · have CC := Lib.hid (append_out (x.kind : Int) x.lba u none 0 0 Q8.out.sys.nv Q8.out.sys.pw hf)
        go_wp2_with fail
        refine CC.out.mono ?_
        rintro e w9 ⟨rfl, m9, hw9⟩
        have EN := Lib.hid (ended_out (w' := w9) (L := (L : Int)) Q8.out W8.out X8.out R8.out (by have := UL.out; omega) (by omega) (by rw [hw9]; exact drew_below _ _))
        clear hw9
        unfold out
        go_wp2
        exact ⟨rfl, true, rfl, EN.out⟩
      · have CC := Lib.hid (append_go (x.kind : Int) x.lba u l none 0 0 [] Q8.out.sys.nv Q8.out.sys.pw hf (Has.nil _ _) (by omega) (fun h => absurd h (by omega)) (by omega) (by omega) (by omega) (by omega) (by omega))
        go_wp2_with fail
        refine CC.out.mono ?_
        rintro e w9 ⟨T9, rfl, hdn, hpn, hTn, hbn⟩
        rw [less_pos hlp] at hpn
        have NX := Lib.hid (Q8.out.go (Q8.out.sys.go hdn hpn hTn hbn) hTn hbn)
        have SZ9 := Lib.hid (Nat.le_trans SZ8.out hbn.size)
        have FW := Lib.hid (show (s.add (x.kind : Int) x.lba []).recs.length ≤ k + 1 by show (s.recs ++ [_]).length ≤ k + 1; simp; exact hfew)
        clear hdn hpn hTn hbn
        go_wp2
        go_roundw
        case rel => exact ⟨k + 1, T9, s.add (x.kind : Int) x.lba [], u + 1, l - 1, by omega, by go_num, NX.out, by have := UL.out; omega, by omega, by omega, Nat.succ_le_succ hlast, FW.out, SZ9.out⟩
        case measure => simp [intOf]; omega
    · clear hP
      go_wp2
      go_end0
      exact ⟨false, rfl, T, s, u, l, PP.out, by omega, fun h => by cases h⟩

end Go.Proofs.Ytolienlbdfbdeaa
