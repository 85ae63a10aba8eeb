/-
  THE WALK OF NvWhole.
-/
import Derived.Test.YtolienlbdfbdeaaNvWholeDo
import Derived.IntWalk
namespace Go.Proofs.Ytolienlbdfbdeaa
open Go.RowKit
set_option linter.unusedVariables false
set_option maxRecDepth 100000

theorem Sys.limit {B : Nat} {w0 w w' : World} {g p : Nat} {T : Nat → Prop} {s : NS} {u l m : Int} (h : Sys B w0 w g p T s u l) (hp : Pw w' p u m) (hb : But (fun k => k = p) w w') : Sys B w0 w' g p T s u m :=
  h.go (h.nv.but hb (fun k hk e => h.nv.np (e ▸ hk))) hp (fun _ h => .inl h) (hb.mono (fun _ h _ => .inr h))

set_option maxHeartbeats 6400000 in
theorem nvWhole_walk (A : Option Addr) (n c : Nat) (M : List Ac) (x : Nat) (hx : x ≤ 255) (w : World) (h : Acts w A n c M) : Calls Try.prog 4 #[.slice A n c, .int .u8 (x : Int)] w fun e w' => e = .returned (.bool true) ∧ Below w.heap.size w w' := by
  have hmf : ∀ (fn : Fn) (first cap : Array Value) (w : World), (Instr.makeFunc fn first cap).run Try.prog w = .ok (.func fn first cap) w := fun _ _ _ _ => rfl
  have H := Lib.hid h
  clear h
  go_enter Try.func4, Try.ntmps4
  go_wp2_with fail
  refine (awake_any _).mono ?_
  rintro e w0 ⟨rfl, hb0⟩
  have B0 := Lib.hid (((Below.refl w.heap.size w).alloc (Nat.le_refl _) (.cells #[.slice A n c] 22)).trans (hb0.mono (by simp)))
  have V0 := Lib.hid ((At.new (w := w) #[.slice A n c] 22 rfl).below hb0 (by simp))
  have cv : w0.cell? ⟨w.heap.size, 0, none⟩ = some (.slice A n c) := V0.out.cell 0
  generalize hbl : w.heap.size = bl at *
  have EB := Lib.hid hbl
  clear hbl hb0
  by_cases hbig : 40 < n
  · have hbi : (40 : Int) < (n : Int) := by omega
    go_wp2
    go_ret
    exact ⟨rfl, by rw [EB.out]; exact B0.out⟩
  have hbi : ¬ (40 : Int) < (n : Int) := by omega
  obtain ⟨L, hL⟩ : ∃ L : Nat, L = x % 30 := ⟨_, rfl⟩
  have hL30 : L ≤ 30 := by omega
  have hLi : (x : Int) % 30 = (L : Int) := by omega
  have HLI := Lib.hid hLi
  have HT := Lib.hid (show (x : Int).tmod 30 = (L : Int) by rw [Int.tmod_eq_emod_of_nonneg (by omega)]; exact hLi)
  have HW1 := Lib.hid (show IntKind.i64.wrap (L : Int) = (L : Int) from IntWalk.i64_in _ (by omega))
  have HW2 := Lib.hid (show IntKind.i64.wrap (1 + (L : Int)) = 1 + (L : Int) from IntWalk.i64_in _ (by omega))
  clear hL hLi
  go_wp2_with fail
  refine (new_any (-1) w0).mono ?_
  rintro e w1 ⟨rfl, hw1⟩
  have W1 := Lib.hid hw1
  have hlt1 : w0.heap.size < w1.heap.size := by rw [hw1]; simp
  clear hw1
  go_wp2_with fail
  refine (new_nv w0.heap.size w1 hlt1).mono ?_
  rintro e w2 ⟨rfl, hd, hb⟩
  have Y2 := Lib.hid (Sys.start W1.out hd (fun k e => Nat.le_of_eq e.symm) hb)
  have hbl0 := V0.out.lt
  clear hd hb hlt1
  have UP := Lib.hid (show ∀ wx, Below w0.heap.size w0 wx → Below bl w wx from fun wx hs => B0.out.trans (hs.mono (Nat.le_of_lt hbl0)))
  generalize hB : w0.heap.size = B at *
  generalize hg : w1.heap.size = g at *
  clear hB W1 hg
  go_wp2_with fail
  obtain ⟨w3, hw3⟩ : ∃ w3, w3 = w2.alloc (.cells #[.pointer (some ⟨g, 0, none⟩)] 26) := ⟨_, rfl⟩
  have Y3 := Lib.hid (show Sys B w0 w3 g B (fun k => k = g) NS.new 0 (-1) by rw [hw3]; exact Y2.out.alloc _)
  have D3 := Lib.hid (show At w3 w2.heap.size #[.pointer (some ⟨g, 0, none⟩)] 26 by rw [hw3]; exact At.new _ _ rfl)
  have off3 := Lib.hid (Y2.out.off _ (Nat.le_refl _))
  have S3 := Lib.hid Y2.out.size
  rw [← hw3]
  clear hw3
  generalize hdv : w2.heap.size = dv at *
  clear hdv
  refine (set_go 0 (-1) (rt 6 0) Y3.out.nv Y3.out.pw (by decide) (by decide) (by decide)).mono ?_
  rintro e w4 ⟨rfl, hd, hp, hb⟩
  have Y4 := Lib.hid (Y3.out.go hd hp (fun _ h => .inl h) hb)
  rw [less_neg] at Y4
  have D4 := Lib.hid (D3.out.but hb (fun h => h.elim off3.out.1 off3.out.2))
  clear hd hp hb
  go_wp2_with fail
  refine (limit_any B (0 + 1) (-1) ((x : Int) % 30) w4 Y4.out.pw).mono ?_
  rintro e w5 ⟨rfl, hp, hb⟩
  rw [HLI.out] at hp
  have Y5 := Lib.hid (Y4.out.limit hp hb)
  have D5 := Lib.hid (D4.out.but hb off3.out.2)
  clear hp hb
  go_wp2_with fail
  obtain ⟨W, hW⟩ : ∃ W, W = (w5.alloc (.cells #[.slice none 0 0] 33)).alloc (.cells zeros9 32) := ⟨_, rfl⟩
  have hWs : W.heap.size = w5.heap.size + 2 := by rw [hW]; simp
  have VW := Lib.hid (show At W w5.heap.size #[.slice none 0 0] 33 by rw [hW]; exact (At.new _ _ rfl).alloc _)
  have RW := Lib.hid (show At W (w5.heap.size + 1) (Rt.cs ⟨0, 0, 0, 0, 0, 0, 0, 0, 0⟩) 32 by rw [hW]; exact At.new _ _ (by simp))
  have YW := Lib.hid (show Sys B w0 W g B (fun k => k = g) (NS.new.set (rt 6 0)) (0 + 1) (L : Int) by rw [hW]; exact (Y5.out.alloc _).alloc _)
  have DW := Lib.hid (show At W dv #[.pointer (some ⟨g, 0, none⟩)] 26 by rw [hW]; exact (D5.out.alloc _).alloc _)
  have O5 := Lib.hid (show ∀ j, w5.heap.size ≤ j → ¬ j = g ∧ ¬ j = B ∧ B ≤ j from fun j hj => ⟨(Y5.out.off j hj).1, (Y5.out.off j hj).2, Nat.le_trans Y5.out.size hj⟩)
  have LD := Lib.hid D5.out.lt
  have BLT := Lib.hid (show bl < B from hbl0)
  rw [show (w5.alloc (.cells #[.slice none 0 0] 33)).alloc (.cells #[.int .i64 0, .int .i64 0, .int .i64 0, .int .i64 0, .int .i64 0, .int .i64 0, .int .u64 0, .int .u64 0, .int .i64 0] 32) = W from hW.symm]
  clear hW
  generalize hwv : w5.heap.size = wv at *
  obtain ⟨rv, hrv⟩ : ∃ rv, rv = wv + 1 := ⟨_, rfl⟩
  rw [← hrv] at RW
  rw [← hrv]
  have HRV := Lib.hid hrv
  have HWS := Lib.hid hWs
  clear hwv hrv hWs
  have GLT := Lib.hid (show g < B ∨ B ≤ g from by omega)
  have WH := Lib.hid (show Wh B w0 (W.alloc (.cells #[.bool false] 4)) g (fun k => k = g) (NS.new.set (rt 6 0)) 1 (L : Int) ⟨bl, dv, wv, rv, W.heap.size⟩ A n c from
    ⟨YW.out.alloc _, (V0.out.below YW.out.below hbl0).alloc _, DW.out.alloc _, ⟨_, VW.out.alloc _⟩, ⟨_, RW.out.alloc _⟩, At.new _ _ rfl, by
      have hgB := YW.out.own g rfl
      rintro j (e | e | e | e | e) <;> rw [e]
      · exact ⟨by show ¬ bl = g; have := BLT.out; omega, by show ¬ bl = B; have := BLT.out; omega⟩
      · exact off3.out
      · exact ⟨(O5.out wv (Nat.le_refl _)).1, (O5.out wv (Nat.le_refl _)).2.1⟩
      · exact ⟨(O5.out rv (by have := HRV.out; omega)).1, (O5.out rv (by have := HRV.out; omega)).2.1⟩
      · exact ⟨(O5.out W.heap.size (by have := HWS.out; omega)).1, (O5.out W.heap.size (by have := HWS.out; omega)).2.1⟩,
      ⟨(O5.out wv (Nat.le_refl _)).2.2, (O5.out rv (by have := HRV.out; omega)).2.2⟩, by
      have h1 := BLT.out
      have h2 := LD.out
      have h3 := HRV.out
      have h4 := HWS.out
      have h5 := (O5.out wv (Nat.le_refl _)).2.2
      exact ⟨by show bl ≠ wv; omega, by show bl ≠ rv; omega, by show dv ≠ wv; omega, by show dv ≠ rv; omega, by show W.heap.size ≠ wv; omega, by show W.heap.size ≠ rv; omega, by show wv ≠ rv; omega⟩⟩)
  have KK : Calls Try.prog 20 #[.pointer (some ⟨bl, 0, none⟩), .pointer (some ⟨dv, 0, none⟩), .pointer (some ⟨wv, 0, none⟩), .pointer (some ⟨rv, 0, none⟩)] (W.alloc (.cells #[.bool false] 4)) fun e w' => ∃ gone, e = (if gone then .panicked out else .returned (.tuple #[])) ∧ Ended B w0 g (L : Int) ⟨bl, dv, wv, rv, W.heap.size⟩ A n c gone w' ∧ At w' W.heap.size #[.bool false] 4 := by
    refine (whole_do B w0 g ⟨bl, dv, wv, rv, W.heap.size⟩ A n c M L _ _ _ hL30 (by omega) WH.out ⟨rfl, rfl⟩ (fun wx hwx => H.out.below (by rw [EB.out]; exact UP.out wx hwx)) (by simp)).mono ?_
    rintro e w' ⟨gone, rfl, hE⟩
    refine ⟨gone, rfl, hE, ?_⟩
    obtain ⟨_, _, _, _, hw, _⟩ := hE
    exact hw.rc
  refine (run_some 20 _ W (fun w => by kernel_rfl) (fun gone w' => Ended B w0 g (L : Int) ⟨bl, dv, wv, rv, W.heap.size⟩ A n c gone w') KK).mono ?_
  rintro e w6 ⟨gone, w7, rfl, ⟨T, s, u, l, hw7, hfew, hgo⟩, hb6⟩
  have Y6 := Lib.hid (hw7.sys.but hb6 (fun j hj e => (hw7.off W.heap.size (.inr (.inr (.inr (.inr rfl))))).1 (e ▸ hj)) (fun e => (hw7.off W.heap.size (.inr (.inr (.inr (.inr rfl))))).2 e.symm) (fun j e => by rw [e]; exact (O5.out W.heap.size (by have := HWS.out; omega)).2.2))
  have DV6 := Lib.hid (hw7.dv.but hb6 (by show ¬ dv = W.heap.size; have := LD.out; have := HWS.out; omega))
  clear KK
  cases gone
  · clear hgo hw7 hb6
    go_wp2
    go_quiet (fail)
    have YQ := Lib.hid (Y6.out.drewN nq)
    go_wp2
    go_ret
    exact ⟨rfl, by rw [EB.out]; exact UP.out _ YQ.out.below⟩
  · obtain ⟨hu, v7, hv7, hr7, hR7⟩ := hgo rfl
    obtain ⟨A7, c7, rfl⟩ := hR7.slice
    have V6 := Lib.hid (hv7.but hb6 (by show ¬ wv = W.heap.size; have := HWS.out; omega))
    have R6 := Lib.hid (hr7.but hb6 (by show ¬ rv = W.heap.size; have := HWS.out; have := HRV.out; omega))
    have C6 := Lib.hid (hR7.but hb6 (fun j e => by rw [e]; exact Nat.lt_succ_self _))
    have HU := Lib.hid hu
    clear hgo hw7 hb6 hv7 hr7 hR7 hu
    go_wp2_with fail
    have S0 : (fun w' : World => At w' dv #[.pointer (some ⟨g, 0, none⟩)] 26 ∧ At w' wv #[.slice A7 s.recs.length c7] 33 ∧ At w' rv s.root.cs 32) w6.drew := ⟨DV6.out, V6.out, R6.out⟩
    have Q0 := Lib.hid (show Sys B w0 w6.drew g B T s u l from Y6.out.drewN 1)
    have heql := root_eql s.root
    refine wp_region_early (fun w' : World => At w' dv #[.pointer (some ⟨g, 0, none⟩)] 26 ∧ At w' wv #[.slice A7 s.recs.length c7] 33 ∧ At w' rv s.root.cs 32) (fun _ => true) (by kernel_rfl) ?_
    change wpEarly _ _ _ _ _ _ 24 (Array.replicate 24 false) _ w6.drew
    refine early_take (i := 0) 29 (.bool true) rfl rfl (by kernel_rfl) (by kernel_rfl) (by kernel_rfl) (by kernel_rfl) rfl (fun _ _ _ h => h) (fun w' hw' => by go_simp) S0 ?_
    simp only [Act.put, List.setIfInBounds_toArray, List.set_cons_zero, List.set_cons_succ]
    refine early_take (i := 1) 30 (.bool false) rfl rfl (by kernel_rfl) (by kernel_rfl) (by kernel_rfl) (by kernel_rfl) rfl (fun _ _ _ h => h) (fun w' hw' => by go_simp) S0 ?_
    simp only [Act.put, List.setIfInBounds_toArray, List.set_cons_zero, List.set_cons_succ]
    refine early_take (i := 2) 31 (.bool false) rfl rfl (by kernel_rfl) (by kernel_rfl) (by kernel_rfl) (by kernel_rfl) rfl (fun _ _ _ h => h) (fun w' hw' => by go_simp) S0 ?_
    simp only [Act.put, List.setIfInBounds_toArray, List.set_cons_zero, List.set_cons_succ]
    refine early_take (i := 3) 32 (.pointer (some ⟨g, 0, none⟩)) rfl rfl (by kernel_rfl) (by kernel_rfl) (by kernel_rfl) (by kernel_rfl) rfl (fun _ _ _ h => h) (fun w' hw' => by obtain ⟨h1, h2, h3⟩ := hw'; have h0 := h1.cell 0; simp at h0; go_simp) S0 ?_
    simp only [Act.put, List.setIfInBounds_toArray, List.set_cons_zero, List.set_cons_succ]
    refine early_take (i := 5) 34 (.slice A7 s.recs.length c7) rfl rfl (by kernel_rfl) (by kernel_rfl) (by kernel_rfl) (by kernel_rfl) rfl (fun _ _ _ h => h) (fun w' hw' => by obtain ⟨h1, h2, h3⟩ := hw'; have h0 := h2.cell 0; simp at h0; go_simp) S0 ?_
    simp only [Act.put, List.setIfInBounds_toArray, List.set_cons_zero, List.set_cons_succ]
    refine early_only (i := 4) (by kernel_rfl) rfl (fun K hK => ?_)
    simp only [opWp, List.getElem?_toArray, List.getElem?_cons_succ, List.getElem?_cons_zero]
    go_simp
    go_at_call 17
    refine (records_any Q0.out.nv hfew).mono ?_
    rintro e w8 ⟨v8, rfl, ⟨L8, hr8, ha8, _, _⟩, hb8⟩
    have Q8 := Lib.hid (Q0.out.up hb8)
    have S8 : (fun w' : World => At w' dv #[.pointer (some ⟨g, 0, none⟩)] 26 ∧ At w' wv #[.slice A7 s.recs.length c7] 33 ∧ At w' rv s.root.cs 32) w8 := ⟨S0.1.below hb8 S0.1.lt, S0.2.1.below hb8 S0.2.1.lt, S0.2.2.below hb8 S0.2.2.lt⟩
    have RR8 := Lib.hid hr8
    obtain ⟨L7, hrr7, hab7, _, _⟩ := C6.out
    have RR7 := Lib.hid (Rw.up (w := w6.drew) (hrr7.drewN 1) hb8)
    have AB := Lib.hid (ha8.trans hab7.symm)
    have N8 := Lib.hid (show L8.length ≤ 1000 by have h1 := congrArg List.length ha8; rw [List.length_map] at h1; omega)
    clear hr8 ha8 hb8 hrr7 hab7
    refine hK _ _ (fun _ => S8) ?_
    refine early_only (i := 6) (by kernel_rfl) rfl (fun K hK => ?_)
    simp only [opWp, List.getElem?_toArray, List.getElem?_cons_succ, List.getElem?_cons_zero]
    go_simp
    go_at_call 16
    refine (same_yes v8 _ _ _ L8 L7 w8 N8.out RR8.out RR7.out AB.out).mono ?_
    rintro e w9 ⟨rfl, m9, hw9⟩
    have Q9 := Lib.hid (show Sys B w0 w9 g B T s u l by rw [hw9]; exact Q8.out.drewN m9)
    have S9 : (fun w' : World => At w' dv #[.pointer (some ⟨g, 0, none⟩)] 26 ∧ At w' wv #[.slice A7 s.recs.length c7] 33 ∧ At w' rv s.root.cs 32) w9 := by rw [hw9]; exact S8
    clear hw9
    refine hK _ _ (fun _ => S9) ?_
    refine early_take (i := 7) 36 (.bool true) rfl rfl (by kernel_rfl) (by kernel_rfl) (by kernel_rfl) (by kernel_rfl) rfl (fun _ _ _ h => h) (fun w' hw' => by go_simp) S9 ?_
    simp only [Act.put, List.setIfInBounds_toArray, List.set_cons_zero, List.set_cons_succ]
    refine early_take (i := 8) 37 (.pointer (some ⟨g, 0, none⟩)) rfl rfl (by kernel_rfl) (by kernel_rfl) (by kernel_rfl) (by kernel_rfl) rfl (fun _ _ _ h => h) (fun w' hw' => by obtain ⟨h1, h2, h3⟩ := hw'; have h0 := h1.cell 0; simp at h0; go_simp) S9 ?_
    simp only [Act.put, List.setIfInBounds_toArray, List.set_cons_zero, List.set_cons_succ]
    refine early_take (i := 10) 39 (.agg s.root.cs) rfl rfl (by kernel_rfl) (by kernel_rfl) (by kernel_rfl) (by kernel_rfl) rfl (fun _ _ _ h => h) (fun w' hw' => exec_load_whole (x := .tmp 8) rfl rfl hw'.2.2 Try.underlying32 root_size) S9 ?_
    simp only [Act.put, List.setIfInBounds_toArray, List.set_cons_zero, List.set_cons_succ]
    refine early_only (i := 9) (by kernel_rfl) rfl (fun K hK => ?_)
    simp only [opWp, List.getElem?_toArray, List.getElem?_cons_succ, List.getElem?_cons_zero]
    go_simp
    go_at_call 13
    refine (root_any Q9.out.nv).mono ?_
    rintro e wA ⟨rfl, hbA⟩
    have QA := Lib.hid (Q9.out.up hbA)
    have SA : (fun w' : World => At w' dv #[.pointer (some ⟨g, 0, none⟩)] 26 ∧ At w' wv #[.slice A7 s.recs.length c7] 33 ∧ At w' rv s.root.cs 32) wA := ⟨S9.1.below hbA S9.1.lt, S9.2.1.below hbA S9.2.1.lt, S9.2.2.below hbA S9.2.2.lt⟩
    clear hbA
    refine hK _ _ (fun _ => SA) ?_
    refine early_take (i := 11) 40 (.bool true) rfl rfl (by kernel_rfl) (by kernel_rfl) (by kernel_rfl) (by kernel_rfl) rfl (fun _ _ _ h => h) (fun w' hw' => by go_simp) SA ?_
    simp only [Act.put, List.setIfInBounds_toArray, List.set_cons_zero, List.set_cons_succ]
    refine early_take (i := 12) 41 (.bool true) rfl rfl (by kernel_rfl) (by kernel_rfl) (by kernel_rfl) (by kernel_rfl) rfl (fun _ _ _ h => h) (fun w' hw' => by go_simp) SA ?_
    simp only [Act.put, List.setIfInBounds_toArray, List.set_cons_zero, List.set_cons_succ]
    refine early_take (i := 13) 42 (.bool true) rfl rfl (by kernel_rfl) (by kernel_rfl) (by kernel_rfl) (by kernel_rfl) rfl (fun _ _ _ h => h) (fun w' hw' => by go_simp) SA ?_
    simp only [Act.put, List.setIfInBounds_toArray, List.set_cons_zero, List.set_cons_succ]
    refine early_take (i := 14) 43 (.pointer (some ⟨B, 0, none⟩)) rfl rfl (by kernel_rfl) (by kernel_rfl) (by kernel_rfl) (by kernel_rfl) rfl (fun _ _ _ h => h) (fun w' hw' => by go_simp) SA ?_
    simp only [Act.put, List.setIfInBounds_toArray, List.set_cons_zero, List.set_cons_succ]
    refine early_take (i := 16) 45 (.int .u8 (x : Int)) rfl rfl (by kernel_rfl) (by kernel_rfl) (by kernel_rfl) (by kernel_rfl) rfl (fun _ _ _ h => h) (fun w' hw' => by go_simp) SA ?_
    simp only [Act.put, List.setIfInBounds_toArray, List.set_cons_zero, List.set_cons_succ]
    refine early_take (i := 17) 46 (.int .u8 (L : Int)) rfl rfl (by kernel_rfl) (by kernel_rfl) (by kernel_rfl) (by kernel_rfl) rfl (fun _ _ _ h => h) (fun w' hw' => by go_simp; exact HT.out) SA ?_
    simp only [Act.put, List.setIfInBounds_toArray, List.set_cons_zero, List.set_cons_succ]
    refine early_take (i := 18) 47 (.int .i64 (L : Int)) rfl rfl (by kernel_rfl) (by kernel_rfl) (by kernel_rfl) (by kernel_rfl) rfl (fun _ _ _ h => h) (fun w' hw' => by go_simp; exact HW1.out) SA ?_
    simp only [Act.put, List.setIfInBounds_toArray, List.set_cons_zero, List.set_cons_succ]
    refine early_take (i := 19) 48 (.int .i64 (1 + (L : Int))) rfl rfl (by kernel_rfl) (by kernel_rfl) (by kernel_rfl) (by kernel_rfl) rfl (fun _ _ _ h => h) (fun w' hw' => by go_simp; exact HW2.out) SA ?_
    simp only [Act.put, List.setIfInBounds_toArray, List.set_cons_zero, List.set_cons_succ]
    refine early_only (i := 15) (by kernel_rfl) rfl (fun K hK => ?_)
    simp only [opWp, List.getElem?_toArray, List.getElem?_cons_succ, List.getElem?_cons_zero]
    go_simp
    go_at_call 15
    refine (used_any B u l _ QA.out.pw).mono ?_
    rintro e wB ⟨rfl, rfl⟩
    rw [HU.out]
    refine hK _ _ (fun _ => SA) ?_
    refine early_take (i := 20) 49 (.bool true) rfl rfl (by kernel_rfl) (by kernel_rfl) (by kernel_rfl) (by kernel_rfl) rfl (fun _ _ _ h => h) (fun w' hw' => by go_simp) SA ?_
    simp only [Act.put, List.setIfInBounds_toArray, List.set_cons_zero, List.set_cons_succ]
    refine early_take (i := 21) 50 (.bool true) rfl rfl (by kernel_rfl) (by kernel_rfl) (by kernel_rfl) (by kernel_rfl) rfl (fun _ _ _ h => h) (fun w' hw' => by go_simp) SA ?_
    simp only [Act.put, List.setIfInBounds_toArray, List.set_cons_zero, List.set_cons_succ]
    refine early_take (i := 22) 51 (.bool true) rfl rfl (by kernel_rfl) (by kernel_rfl) (by kernel_rfl) (by kernel_rfl) rfl (fun _ _ _ h => h) (fun w' hw' => by go_simp) SA ?_
    simp only [Act.put, List.setIfInBounds_toArray, List.set_cons_zero, List.set_cons_succ]
    refine early_take (i := 23) 4 (.bool true) rfl rfl (by kernel_rfl) (by kernel_rfl) (by kernel_rfl) (by kernel_rfl) rfl (fun _ _ _ h => h) (fun w' hw' => by go_simp) SA ?_
    simp only [Act.put, List.setIfInBounds_toArray, List.set_cons_zero, List.set_cons_succ]
    refine early_done (by kernel_rfl) ?_
    clear S0 S8 S9 SA heql
    go_wp2
    go_ret
    exact ⟨rfl, by rw [EB.out]; exact UP.out _ QA.out.below⟩

theorem nvWhole_all (A : Option Addr) (n c : Nat) (M : List Ac) (x : Int) (hx : (Lit.int .u8 x).wf = true) (w : World) (h : Acts w A n c M) : Calls Try.prog 4 #[.slice A n c, .int .u8 x] w fun e w' => e = .returned (.bool true) ∧ Below w.heap.size w w' := by
  have hb : 0 ≤ x ∧ x ≤ 255 := by simpa [Lit.wf, IntKind.min, IntKind.max, IntKind.signed, IntKind.bits] using hx
  obtain ⟨y, rfl⟩ : ∃ y : Nat, x = (y : Int) := ⟨x.toNat, by omega⟩
  exact nvWhole_walk A n c M y (by omega) w h

end Go.Proofs.Ytolienlbdfbdeaa
