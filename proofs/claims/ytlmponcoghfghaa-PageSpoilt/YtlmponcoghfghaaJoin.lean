/-
  THE WALK OF page.join: the bytes of any image whose numbers fit into theirs.
-/
import Derived.Test.YtlmponcoghfghaaMake
namespace Go.Proofs.Ytlmponcoghfghaa
open Go.RowKit
set_option linter.unusedVariables false
set_option maxRecDepth 100000


/-- The image at block B, a writer that holds L behind it. -/
structure Enc (w0 w : World) (B : Nat) (cs : Array Value) (v : Value) (L : List (BitVec 8)) : Prop where
  box : At w B cs 37
  wr : Wr w (B + 1) v L
  own : ∀ j, v.ownBlock = some j → B + 1 < j
  bel : Below B w0 w
theorem Enc.start (w : World) (cs : Array Value) : Enc w ((w.alloc (.cells cs 37)).alloc (.cells #[.slice none 0 0] 66)) w.heap.size cs (.slice none 0 0) [] :=
  ⟨(At.new _ _ rfl).alloc _, ⟨At.new _ _ (by simp), World.ownsRow_nil _ _ _ _, by simp [Value.ownBlock]⟩, fun j h => by simp [Value.ownBlock] at h, ((Below.refl _ _).alloc (Nat.le_refl _) _).alloc (by simp) _⟩
theorem Enc.put {w0 w w' : World} {B : Nat} {cs : Array Value} {v : Value} {L M : List (BitVec 8)} (h : Enc w0 w B cs v L) (hW : Wrote w (B + 1) v M w') (hB : w0.heap.size = B) : ∃ v', (∀ k, v'.ownBlock = some k → v.ownBlock = some k ∨ w.heap.size ≤ k) ∧ Enc w0 w' B cs v' M := by
  obtain ⟨v', h1, h2, h3⟩ := hW
  have hs := h.wr.lt
  have out : ¬ foot (B + 1) v B := by
    rintro (e | e)
    · omega
    · have := h.own _ e; omega
  refine ⟨v', h3, h.box.but h2 out, h1, fun j hj => ?_, ?_⟩
  · rcases h3 j hj with e | e
    · exact h.own j e
    · omega
  · refine h.bel.trans (h2.below ?_ (by have := h.bel.size; omega))
    rintro j (e | e)
    · omega
    · have := h.own j e; omega
theorem Enc.keep {w0 w w' : World} {B g : Nat} {cs : Array Value} {v : Value} {L M : List (BitVec 8)} {xs : Array Value} {t : TypeId} (h : Enc w0 w B cs v L) (hW : Wrote w (B + 1) v M w') (hg : At w g xs t) (h1 : g ≠ B + 1) (h2 : v.ownBlock ≠ some g) : At w' g xs t := by
  obtain ⟨v', _, hb, _⟩ := hW
  refine hg.but hb ?_
  rintro (e | e)
  · exact h1 e
  · exact h2 e
theorem Enc.up {w0 w w' : World} {B : Nat} {cs : Array Value} {v : Value} {L : List (BitVec 8)} (h : Enc w0 w B cs v L) (hb : But (fun _ => False) w w') : Enc w0 w' B cs v L :=
  ⟨h.box.but hb (fun h => h), h.wr.but hb (fun h => h) (fun _ _ h => h), h.own, h.bel.trans (hb.below (fun _ h => h.elim) (by have := h.box.lt; omega))⟩
theorem wrap64 {N : Nat} (h : N < 18446744073709551616) : IntKind.u64.wrap (N : Int) = (N : Int) := by
  simp [IntKind.wrap, IntKind.signed, IntKind.bits]
  omega

set_option maxHeartbeats 2000000 in
theorem join_any (q s i : Nat) (A : Option Addr) (n c : Nat) (B : Option Addr) (m d : Nat) (gs : List Sg) (mp : List Nat) (size M : Nat) (w : World) (hf : (Im.mk q s i gs mp).fits) (hn : n ≤ 1000) (hm : m ≤ 20000) (hz : size ≤ 1000000) (hM : M = max (12 + 9 * n + 4 * m) size) (h : Img w A n B m ⟨q, s, i, gs, mp⟩) :
    Calls Try.prog 24 #[.agg (ics q s i A n c B m d), .int .i64 (size : Int)] w (Cloned w M (pad (Im.mk q s i gs mp).body M)) := by
  have E := Lib.hid (Enc.start w (ics q s i A n c B m d))
  have HG := Lib.hid h.gs
  have HP := Lib.hid h.mp
  have LG := Lib.hid h.lg
  have LP := Lib.hid h.lm
  have hq : q < 18446744073709551616 := hf.q
  have hs : s < 65536 := hf.s
  have hi : i < 65536 := hf.i
  have FG := Lib.hid hf.gs
  have FP := Lib.hid hf.mp
  have HM := Lib.hid hM
  clear h hf hM
  go_enter Try.func24, Try.ntmps24
  go_wp2_with fail
  have E := Lib.hid (E.out.up (But.drew (But.refl _ _)))
  have S0 := Lib.hid E.out.box
  refine wp_region_early (fun w' : World => At w' w.heap.size (ics q s i A n c B m d) 37) (fun _ => true) (by kernel_rfl) ?_
  change wpEarly _ _ _ _ _ _ 12 (Array.replicate 12 false) _ ((w.alloc (.cells (ics q s i A n c B m d) 37)).alloc (.cells #[.slice none 0 0] 66)).drew
  generalize ((w.alloc (.cells (ics q s i A n c B m d) 37)).alloc (.cells #[.slice none 0 0] 66)).drew = wa at *
  refine early_take (i := 0) 10 (.pointer (some ⟨w.heap.size, 0, none⟩)) rfl rfl (by kernel_rfl) (by kernel_rfl) (by kernel_rfl) (by kernel_rfl) rfl (fun _ _ _ h => h) (fun w' hw' => by go_simp) S0.out ?_
  simp only [Act.put, List.setIfInBounds_toArray, List.set_cons_zero, List.set_cons_succ]
  refine early_take (i := 1) 11 (.int .u64 (q : Int)) rfl rfl (by kernel_rfl) (by kernel_rfl) (by kernel_rfl) (by kernel_rfl) rfl (fun _ _ _ h => h) (fun w' hw' => by have hc0 := hw'.cell 0; go_simp) S0.out ?_
  simp only [Act.put, List.setIfInBounds_toArray, List.set_cons_zero, List.set_cons_succ]
  refine early_take (i := 3) 13 (.pointer (some ⟨w.heap.size, 1, none⟩)) rfl rfl (by kernel_rfl) (by kernel_rfl) (by kernel_rfl) (by kernel_rfl) rfl (fun _ _ _ h => h) (fun w' hw' => by go_simp) S0.out ?_
  simp only [Act.put, List.setIfInBounds_toArray, List.set_cons_zero, List.set_cons_succ]
  refine early_take (i := 4) 14 (.int .i64 ((s : Int) - 1)) rfl rfl (by kernel_rfl) (by kernel_rfl) (by kernel_rfl) (by kernel_rfl) rfl (fun _ _ _ h => h) (fun w' hw' => by have hc0 := hw'.cell 1; go_simp) S0.out ?_
  simp only [Act.put, List.setIfInBounds_toArray, List.set_cons_zero, List.set_cons_succ]
  refine early_take (i := 5) 15 (.int .i64 (s : Int)) rfl rfl (by kernel_rfl) (by kernel_rfl) (by kernel_rfl) (by kernel_rfl) rfl (fun _ _ _ h => h) (fun w' hw' => by go_simp; exact wrap_of (by omega) (by omega)) S0.out ?_
  simp only [Act.put, List.setIfInBounds_toArray, List.set_cons_zero, List.set_cons_succ]
  refine early_take (i := 6) 16 (.int .u64 (s : Int)) rfl rfl (by kernel_rfl) (by kernel_rfl) (by kernel_rfl) (by kernel_rfl) rfl (fun _ _ _ h => h) (fun w' hw' => by go_simp; exact wrap64 (by omega)) S0.out ?_
  simp only [Act.put, List.setIfInBounds_toArray, List.set_cons_zero, List.set_cons_succ]
  refine early_take (i := 8) 18 (.pointer (some ⟨w.heap.size, 2, none⟩)) rfl rfl (by kernel_rfl) (by kernel_rfl) (by kernel_rfl) (by kernel_rfl) rfl (fun _ _ _ h => h) (fun w' hw' => by go_simp) S0.out ?_
  simp only [Act.put, List.setIfInBounds_toArray, List.set_cons_zero, List.set_cons_succ]
  refine early_take (i := 9) 19 (.int .i64 (i : Int)) rfl rfl (by kernel_rfl) (by kernel_rfl) (by kernel_rfl) (by kernel_rfl) rfl (fun _ _ _ h => h) (fun w' hw' => by have hc0 := hw'.cell 2; go_simp) S0.out ?_
  simp only [Act.put, List.setIfInBounds_toArray, List.set_cons_zero, List.set_cons_succ]
  refine early_take (i := 10) 20 (.int .u64 (i : Int)) rfl rfl (by kernel_rfl) (by kernel_rfl) (by kernel_rfl) (by kernel_rfl) rfl (fun _ _ _ h => h) (fun w' hw' => by go_simp; exact wrap64 (by omega)) S0.out ?_
  simp only [Act.put, List.setIfInBounds_toArray, List.set_cons_zero, List.set_cons_succ]
  refine early_only (i := 2) (by kernel_rfl) rfl (fun K hK => ?_)
  simp only [opWp, List.getElem?_toArray, List.getElem?_cons_succ, List.getElem?_cons_zero]
  go_simp
  go_at_call 27
  refine (put_some (w.heap.size + 1) _ (([] : List (BitVec 8))) 8 q _ (by omega) (by omega) (by omega) (by simp) E.out.wr).mono ?_
  rintro e wz ⟨rfl, hW⟩
  obtain ⟨vz, _, hE⟩ := E.out.put hW rfl
  have E := Lib.hid hE
  clear hW hE
  refine hK _ _ (fun _ => E.out.box) ?_
  clear hK
  refine early_only (i := 7) (by kernel_rfl) rfl (fun K hK => ?_)
  simp only [opWp, List.getElem?_toArray, List.getElem?_cons_succ, List.getElem?_cons_zero]
  go_simp
  go_at_call 27
  refine (put_some (w.heap.size + 1) _ (([] : List (BitVec 8)) ++ low q 8) 2 s _ (by omega) (by omega) (by omega) (by simp [low_len]) E.out.wr).mono ?_
  rintro e wz ⟨rfl, hW⟩
  obtain ⟨vz, _, hE⟩ := E.out.put hW rfl
  have E := Lib.hid hE
  clear hW hE
  refine hK _ _ (fun _ => E.out.box) ?_
  clear hK
  refine early_only (i := 11) (by kernel_rfl) rfl (fun K hK => ?_)
  simp only [opWp, List.getElem?_toArray, List.getElem?_cons_succ, List.getElem?_cons_zero]
  go_simp
  go_at_call 27
  refine (put_some (w.heap.size + 1) _ (([] : List (BitVec 8)) ++ low q 8 ++ low s 2) 2 i _ (by omega) (by omega) (by omega) (by simp [low_len]) E.out.wr).mono ?_
  rintro e wz ⟨rfl, hW⟩
  obtain ⟨vz, _, hE⟩ := E.out.put hW rfl
  have E := Lib.hid hE
  clear hW hE
  refine hK _ _ (fun _ => E.out.box) ?_
  clear hK
  have E := Lib.hid (show Enc w wz w.heap.size (ics q s i A n c B m d) vz (front q s i) from E.out)
  refine early_done (by kernel_rfl) ?_
  clear S0
  have c3 := E.out.box.cell 3
  go_wp2
  clear c3
  go_loopw [25] (fun i0 wr => ∃ (k : Nat) (v : Value), k ≤ n ∧ i0 = .int .i64 k ∧ Enc w wr w.heap.size (ics q s i A n c B m d) v (front q s i ++ sgsB (gs.take k))) (fun i0 _ => n - (intOf i0).toNat)
  case atStart => exact ⟨0, _, Nat.zero_le _, rfl, by simpa [sgsB] using E.out⟩
  case round =>
    clear E
    obtain ⟨k, v, hk, rfl, hE⟩ := hrel
    have E := Lib.hid hE
    have HH := Lib.hid (HG.out.below hE.bel)
    clear hE
    by_cases hlt : k < n
    · obtain ⟨b, off, rfl⟩ := HG.out.some_ (by omega)
      have hkl : k < gs.length := by rw [show gs.length = n from LG.out]; exact hlt
      obtain ⟨hc, hc'⟩ := HH.out.cell k hlt
      obtain ⟨hx1, hx2⟩ := FG.out gs[k] (List.getElem_mem hkl)
      have EN := Lib.hid (sgsB_next (front q s i) gs k hkl)
      have LN := Lib.hid (show (front q s i ++ sgsB (gs.take k)).length = 12 + 9 * k by rw [List.length_append, front_len, sgsB_len, List.length_take, Nat.min_eq_left (by omega)])
      generalize front q s i ++ sgsB (gs.take k) = F at *
      obtain ⟨⟨X, Y⟩, hx⟩ : ∃ x, gs[k] = x := ⟨_, rfl⟩
      simp only [hx] at hc hc' hx1 hx2 EN
      clear hx
      have hsz : w.heap.size + 1 < wr.heap.size := E.out.wr.lt
      have HS := Lib.hid hsz
      have OWN := Lib.hid (show v.ownBlock ≠ some wr.heap.size from fun e => by have := (E.out.wr.own.lt _ e).2; omega)
      clear hsz
      go_wp2_with fail
      have E := Lib.hid (E.out.up (((But.refl _ _).alloc (.cells #[.int .i64 (X : Int), .int .u64 (Y : Int)] 58)).drew))
      have EB := Lib.hid (show At (wr.alloc (.cells #[.int .i64 (X : Int), .int .u64 (Y : Int)] 58)).drew wr.heap.size #[.int .i64 (X : Int), .int .u64 (Y : Int)] 58 from At.new _ _ rfl)
      refine wp_region_early (fun w' : World => At w' wr.heap.size #[.int .i64 (X : Int), .int .u64 (Y : Int)] 58) (fun _ => true) (by kernel_rfl) ?_
      change wpEarly _ _ _ _ _ _ 7 (Array.replicate 7 false) _ (wr.alloc (.cells #[.int .i64 (X : Int), .int .u64 (Y : Int)] 58)).drew
      generalize (wr.alloc (.cells #[.int .i64 (X : Int), .int .u64 (Y : Int)] 58)).drew = wa at *
      generalize hg : wr.heap.size = g at *
      clear hg
      have GL := Lib.hid EB.out.lt
      refine early_take (i := 0) 29 (.pointer (some ⟨g, 0, none⟩)) rfl rfl (by kernel_rfl) (by kernel_rfl) (by kernel_rfl) (by kernel_rfl) rfl (fun _ _ _ h => h) (fun w' hw' => by go_simp) EB.out ?_
      simp only [Act.put, List.setIfInBounds_toArray, List.set_cons_zero, List.set_cons_succ]
      refine early_take (i := 1) 30 (.int .i64 (X : Int)) rfl rfl (by kernel_rfl) (by kernel_rfl) (by kernel_rfl) (by kernel_rfl) rfl (fun _ _ _ h => h) (fun w' hw' => by have hc0 := hw'.cell 0; go_simp) EB.out ?_
      simp only [Act.put, List.setIfInBounds_toArray, List.set_cons_zero, List.set_cons_succ]
      refine early_take (i := 2) 31 (.int .u64 (X : Int)) rfl rfl (by kernel_rfl) (by kernel_rfl) (by kernel_rfl) (by kernel_rfl) rfl (fun _ _ _ h => h) (fun w' hw' => by go_simp; exact wrap64 (by omega)) EB.out ?_
      simp only [Act.put, List.setIfInBounds_toArray, List.set_cons_zero, List.set_cons_succ]
      refine early_take (i := 4) 33 (.pointer (some ⟨g, 1, none⟩)) rfl rfl (by kernel_rfl) (by kernel_rfl) (by kernel_rfl) (by kernel_rfl) rfl (fun _ _ _ h => h) (fun w' hw' => by go_simp) EB.out ?_
      simp only [Act.put, List.setIfInBounds_toArray, List.set_cons_zero, List.set_cons_succ]
      refine early_take (i := 5) 34 (.int .u64 (Y : Int)) rfl rfl (by kernel_rfl) (by kernel_rfl) (by kernel_rfl) (by kernel_rfl) rfl (fun _ _ _ h => h) (fun w' hw' => by have hc0 := hw'.cell 1; go_simp) EB.out ?_
      simp only [Act.put, List.setIfInBounds_toArray, List.set_cons_zero, List.set_cons_succ]
      refine early_only (i := 3) (by kernel_rfl) rfl (fun K hK => ?_)
      simp only [opWp, List.getElem?_toArray, List.getElem?_cons_succ, List.getElem?_cons_zero]
      go_simp
      go_at_call 27
      refine (put_some (w.heap.size + 1) v F 1 X _ (by omega) (by omega) (by omega) (by rw [LN.out]; omega) E.out.wr).mono ?_
      rintro e w4 ⟨rfl, hW⟩
      have EB := Lib.hid (E.out.keep hW EB.out (by have := HS.out; omega) OWN.out)
      obtain ⟨v4, hf4, hE4⟩ := E.out.put hW rfl
      have OWN := Lib.hid (show v4.ownBlock ≠ some g from fun e => (hf4 _ e).elim OWN.out (fun h => by have := GL.out; omega))
      have E := Lib.hid hE4
      clear hW hf4 hE4
      refine hK _ _ (fun _ => EB.out) ?_
      refine early_only (i := 6) (by kernel_rfl) rfl (fun K hK => ?_)
      simp only [opWp, List.getElem?_toArray, List.getElem?_cons_succ, List.getElem?_cons_zero]
      go_simp
      go_at_call 27
      refine (put_some (w.heap.size + 1) v4 (F ++ low X 1) 8 Y _ (by omega) (by omega) hx2 (by rw [List.length_append, LN.out, low_len]; omega) E.out.wr).mono ?_
      rintro e w5 ⟨rfl, hW⟩
      have EB := Lib.hid (E.out.keep hW EB.out (by have := HS.out; omega) OWN.out)
      obtain ⟨v5, _, hE5⟩ := E.out.put hW rfl
      have E := Lib.hid hE5
      clear hW hE5
      refine hK _ _ (fun _ => EB.out) ?_
      refine early_done (by kernel_rfl) ?_
      go_wp2_with fail
      have E2 := E.out
      rw [← EN.out] at E2
      exact ⟨⟨k + 1, _, by omega, by go_num, E2⟩, by simp [intOf]; omega⟩
    · obtain rfl : k = n := by omega
      have ELL : gs.take k = gs := List.take_of_length_le (by rw [show gs.length = k from LG.out]; omega)
      rw [ELL] at E
      clear ELL HH HG
      have LN0 := Lib.hid (show (front q s i ++ sgsB gs).length = 12 + 9 * k by rw [List.length_append, front_len, sgsB_len, show gs.length = k from LG.out])
      have HT := Lib.hid (show (Im.mk q s i gs mp).body = front q s i ++ sgsB gs ++ mpB mp from rfl)
      generalize front q s i ++ sgsB gs = F0 at *
      have c4 := E.out.box.cell 4
      go_wp2
      clear c4
      go_loopw [40] (fun i0 wr => ∃ (j : Nat) (v : Value), j ≤ m ∧ i0 = .int .i64 j ∧ Enc w wr w.heap.size (ics q s i A k c B m d) v (F0 ++ mpB (mp.take j))) (fun i0 _ => m - (intOf i0).toNat)
      case atStart => exact ⟨0, _, Nat.zero_le _, rfl, by simpa [mpB] using E.out⟩
      case round =>
        clear E hlt
        obtain ⟨j, v, hj, rfl, hE⟩ := hrel
        have E := Lib.hid hE
        have HH := Lib.hid (HP.out.below hE.bel)
        clear hE
        by_cases hlt : j < m
        · obtain ⟨b, off, rfl⟩ := HP.out.some_ (by omega)
          have hkl : j < mp.length := by rw [show mp.length = m from LP.out]; exact hlt
          have hc : wr.cell? ⟨b, off + j, none⟩ = some (.int .i64 ((mp[j] : Int) - 1)) := by rw [HH.out.cell j hlt]; exact congrArg some (ints_get mp j hkl)
          have hx := FP.out mp[j] (List.getElem_mem hkl)
          have EN := Lib.hid (mpB_next F0 mp j hkl)
          have LN := Lib.hid (show (F0 ++ mpB (mp.take j)).length = 12 + 9 * k + 4 * j by rw [List.length_append, LN0.out, mpB_len, List.length_take, Nat.min_eq_left (by omega)])
          generalize F0 ++ mpB (mp.take j) = F at *
          generalize mp[j] = X at *
          go_wp2_with fail
          refine (put_some (w.heap.size + 1) v F 4 X _ (by omega) (by omega) (by omega) (by rw [LN.out]; omega) E.out.wr).mono ?_
          rintro e w5 ⟨rfl, hW⟩
          obtain ⟨v5, _, hE5⟩ := E.out.put hW rfl
          have E := Lib.hid hE5
          clear hW hE5
          go_wp2_with fail
          have E2 := E.out
          rw [← EN.out] at E2
          exact ⟨⟨j + 1, _, by omega, by go_num, E2⟩, by simp [intOf]; omega⟩
        · obtain rfl : j = m := by omega
          have ELL : mp.take j = mp := List.take_of_length_le (by rw [show mp.length = j from LP.out]; omega)
          rw [ELL] at E
          clear ELL
          have LN := Lib.hid (show (F0 ++ mpB mp).length = 12 + 9 * k + 4 * j by rw [List.length_append, LN0.out, mpB_len, show mp.length = j from LP.out])
          have HT := Lib.hid (show (Im.mk q s i gs mp).body = F0 ++ mpB mp from HT.out)
          generalize F0 ++ mpB mp = F at *
          go_wp2_with fail
          refine (bytes_any (w.heap.size + 1) v F size size M _ (by rw [LN.out]; omega) (by omega) (by rw [LN.out]; have := HM.out; omega) E.out.wr).mono ?_
          rintro e w9 ⟨v9, rfl, hf9⟩
          have R := Lib.hid (show Cloned w M (pad F M) (.returned v9) w9 from ⟨_, rfl, own_base hf9.1 (fun j hj => Nat.le_trans E.out.bel.size (hf9.1.lt j hj).1), E.out.bel.trans (hf9.2.mono E.out.bel.size)⟩)
          clear hf9
          go_wp2
          go_ret
          rw [HT.out]
          exact R.out
end Go.Proofs.Ytlmponcoghfghaa
