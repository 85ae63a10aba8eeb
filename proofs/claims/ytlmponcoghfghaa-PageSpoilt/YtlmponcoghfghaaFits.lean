/-
  THE WALK OF page.fits: is there such an image of the shape?
-/
import Derived.Test.YtlmponcoghfghaaEncode
import Derived.Deep.CutRange
import Derived.Deep.CutBlock
import Derived.Deep.DeepCutAuto
namespace Go.Proofs.Ytlmponcoghfghaa
open Go.RowKit
set_option linter.unusedVariables false
set_option maxRecDepth 100000


theorem segp_yes (x : Sg) (hx : 2 < x.st) (hb : x.st < 256) (w : World) : Calls Try.prog 55 #[.agg #[.int .i64 (x.st : Int), .int .u64 (x.bo : Int)]] w fun e w' => e = .returned (.bool true) ∧ Below w.heap.size w w' := by
  have hd : decide ((2 : Int) < (x.st : Int)) = true := decide_eq_true (by omega)
  go_enter Try.func55, Try.ntmps55
  go_wp2
  go_ret
  exact ⟨by simp_all, BB1 _ _⟩
theorem segp_no (x : Sg) (hx : x.st ≤ 2) (w : World) : Calls Try.prog 55 #[.agg #[.int .i64 (x.st : Int), .int .u64 (x.bo : Int)]] w fun e w' => e = .returned (.bool false) ∧ Below w.heap.size w w' := by
  have hd : decide ((2 : Int) < (x.st : Int)) = false := decide_eq_false (by omega)
  go_enter Try.func55, Try.ntmps55
  go_wp2
  go_ret
  exact ⟨by simp_all, BB1 _ _⟩
theorem intp_yes (p T : Nat) (hx : ¬ p ≤ T) (bx : Nat) (hp : p < 4294967296) (hT : T < 4294967296) (w : World) (h : At w bx #[.int .i64 (T : Int)] 3) : Calls Try.prog 57 #[.int .i64 ((p : Int) - 1), .pointer (some ⟨bx, 0, none⟩)] w fun e w' => e = .returned (.bool true) ∧ w = w' := by
  have hc := h.cell 0
  have hd : decide ((T : Int) ≤ (p : Int) - 1) = true := decide_eq_true (by omega)
  clear h
  go_enter Try.func57, Try.ntmps57
  go_wp2
  go_ret
  exact ⟨by simp_all, rfl⟩
theorem intp_no (p T : Nat) (hx : p ≤ T) (bx : Nat) (hp : p < 4294967296) (hT : T < 4294967296) (w : World) (h : At w bx #[.int .i64 (T : Int)] 3) : Calls Try.prog 57 #[.int .i64 ((p : Int) - 1), .pointer (some ⟨bx, 0, none⟩)] w fun e w' => e = .returned (.bool false) ∧ w = w' := by
  have hc := h.cell 0
  have hd : decide ((T : Int) ≤ (p : Int) - 1) = false := decide_eq_false (by omega)
  clear h
  go_enter Try.func57, Try.ntmps57
  go_wp2
  go_ret
  exact ⟨by simp_all, rfl⟩
def Low (L : List Sg) : Prop := ∀ y ∈ L, y.st ≤ 2
def Under (T : Nat) (L : List Nat) : Prop := ∀ p ∈ L, p ≤ T
theorem low_next {L : List Sg} {k : Nat} (h : k < L.length) (h1 : Low (L.take k)) (h2 : L[k].st ≤ 2) : Low (L.take (k + 1)) := by
  intro y hy
  rw [List.take_succ_eq_append_getElem h] at hy
  rcases List.mem_append.1 hy with hy | hy
  · exact h1 y hy
  · simp at hy; subst hy; exact h2
theorem under_next {T : Nat} {L : List Nat} {k : Nat} (h : k < L.length) (h1 : Under T (L.take k)) (h2 : L[k] ≤ T) : Under T (L.take (k + 1)) := by
  intro y hy
  rw [List.take_succ_eq_append_getElem h] at hy
  rcases List.mem_append.1 hy with hy | hy
  · exact h1 y hy
  · simp at hy; subst hy; exact h2
set_option maxHeartbeats 400000 in
theorem indexS_any (A : Option Addr) (n c : Nat) (L : List Sg) (w : World) (hn : n ≤ 1000000) (hf : ∀ x ∈ L, x.fits) (h : Sgs w A n L) :
    Calls Try.prog 63 #[.slice A n c, .func (.func 55) #[] #[]] w fun e w' => ∃ i : Int, e = .returned (.int .i64 i) ∧ ((i = -1 ∧ Low L) ∨ (0 ≤ i ∧ i ≤ 1000000 ∧ ¬ Low L)) ∧ Below w.heap.size w w' := by
  have H := Lib.hid h
  have HF := Lib.hid hf
  clear h hf
  go_enter Try.func63, Try.ntmps63
  go_wp2
  go_loopw [8] (fun i wr => ∃ k : Nat, k ≤ n ∧ i = .int .i64 k ∧ Low (L.take k) ∧ Below w.heap.size w wr) (fun i _ => n - (intOf i).toNat)
  case atStart => exact ⟨0, Nat.zero_le _, rfl, fun x hx => (by simp at hx), Below.refl _ _⟩
  case round =>
    obtain ⟨k, hk, rfl, hall, hbw⟩ := hrel
    have AL := Lib.hid hall
    have BW := Lib.hid hbw
    have HL := Lib.hid H.out.1
    have HH := Lib.hid (H.out.below hbw)
    clear hall hbw
    by_cases hlt : k < n
    · obtain ⟨b, off, rfl⟩ := H.out.some_ (by omega)
      have hkl : k < L.length := by rw [HL.out]; exact hlt
      obtain ⟨hc, hc'⟩ := HH.out.cell k hlt
      have hx := HF.out L[k] (List.getElem_mem hkl)
      obtain ⟨x, hxx⟩ : ∃ x, L[k] = x := ⟨_, rfl⟩
      rw [hxx] at hc hc' hx
      have HX := Lib.hid hxx
      have HB := Lib.hid hx.1
      clear hxx hx
      by_cases hs : x.st ≤ 2
      · have HS := Lib.hid hs
        clear hs
        go_wp2_with fail
        refine (segp_no x HS.out _).mono ?_
        rintro e w2 ⟨rfl, hb2⟩
        have BW := Lib.hid (BW.out.trans (hb2.mono BW.out.size))
        clear hb2
        go_wp2_with fail
        exact ⟨⟨k + 1, by omega, by go_num, low_next hkl AL.out (by rw [HX.out]; exact HS.out), BW.out⟩, by simp [intOf]; omega⟩
      · have HS := Lib.hid hs
        clear hs
        go_wp2_with fail
        refine (segp_yes x (by have := HS.out; omega) HB.out _).mono ?_
        rintro e w2 ⟨rfl, hb2⟩
        have BW := Lib.hid (BW.out.trans (hb2.mono BW.out.size))
        clear hb2
        go_wp2
        go_ret
        exact ⟨_, rfl, .inr ⟨by omega, by omega, fun ha => HS.out (ha x (HX.out ▸ List.getElem_mem hkl))⟩, BW.out⟩
    · obtain rfl : k = n := by omega
      go_wp2
      go_ret
      exact ⟨_, rfl, .inl ⟨rfl, fun x hx => AL.out x (by rw [List.take_of_length_le (by rw [HL.out]; omega)]; exact hx)⟩, BW.out⟩
set_option maxHeartbeats 400000 in
theorem indexI_any (A : Option Addr) (n c : Nat) (L : List Nat) (T bx : Nat) (w : World) (hn : n ≤ 1000000) (hT : T < 4294967296) (hf : ∀ p ∈ L, p < 4294967296) (hbx : At w bx #[.int .i64 (T : Int)] 3) (h : Row w A n (ints L)) :
    Calls Try.prog 64 #[.slice A n c, .func (.func 57) #[] #[.pointer (some ⟨bx, 0, none⟩)]] w fun e w' => ∃ i : Int, e = .returned (.int .i64 i) ∧ ((i = -1 ∧ Under T L) ∨ (0 ≤ i ∧ i ≤ 1000000 ∧ ¬ Under T L)) ∧ w = w' := by
  have H := Lib.hid h
  have HF := Lib.hid hf
  have BX := Lib.hid hbx
  have HL := Lib.hid (show L.length = n by have := h.1; rw [ints_len] at this; exact this)
  clear h hf hbx
  go_enter Try.func64, Try.ntmps64
  go_wp2
  go_loop [8] (fun i => ∃ k : Nat, k ≤ n ∧ i = .int .i64 k ∧ Under T (L.take k)) (fun i => n - (intOf i).toNat)
  case atStart => exact ⟨0, Nat.zero_le _, rfl, fun x hx => (by simp at hx)⟩
  case round =>
    obtain ⟨k, hk, rfl, hall⟩ := hrel
    have AL := Lib.hid hall
    clear hall
    by_cases hlt : k < n
    · obtain ⟨b, off, rfl⟩ := H.out.some_ (by omega)
      have hkl : k < L.length := by rw [HL.out]; exact hlt
      have hc : w.cell? ⟨b, off + k, none⟩ = some (.int .i64 ((L[k] : Int) - 1)) := by rw [H.out.cell k hlt]; exact congrArg some (ints_get L k hkl)
      have hx := HF.out L[k] (List.getElem_mem hkl)
      obtain ⟨x, hxx⟩ : ∃ x, L[k] = x := ⟨_, rfl⟩
      rw [hxx] at hc hx
      have HX := Lib.hid hxx
      have HB := Lib.hid hx
      clear hxx hx
      by_cases hs : x ≤ T
      · have HS := Lib.hid hs
        clear hs
        go_wp2_with fail
        refine (intp_no x T HS.out bx HB.out hT _ BX.out).mono ?_
        rintro e w2 ⟨rfl, rfl⟩
        go_wp2
        go_round
        case rel => exact ⟨k + 1, by omega, by go_num, under_next hkl AL.out (by rw [HX.out]; exact HS.out)⟩
        case measure => simp [intOf]; omega
      · have HS := Lib.hid hs
        clear hs
        go_wp2_with fail
        refine (intp_yes x T HS.out bx HB.out hT _ BX.out).mono ?_
        rintro e w2 ⟨rfl, rfl⟩
        go_wp2
        go_ret
        exact ⟨_, rfl, .inr ⟨by omega, by omega, fun ha => HS.out (ha x (HX.out ▸ List.getElem_mem hkl))⟩, rfl⟩
    · obtain rfl : k = n := by omega
      go_wp2
      go_ret
      exact ⟨_, rfl, .inl ⟨rfl, fun x hx => AL.out x (by rw [List.take_of_length_le (by rw [HL.out]; omega)]; exact hx)⟩, rfl⟩
theorem containsS_yes (A : Option Addr) (n c : Nat) (L : List Sg) (w : World) (hn : n ≤ 1000000) (hf : ∀ x ∈ L, x.fits) (h : Sgs w A n L) (hz : ¬ Low L) :
    Calls Try.prog 54 #[.slice A n c, .func (.func 55) #[] #[]] w fun e w' => e = .returned (.bool true) ∧ Below w.heap.size w w' := by
  have HZ := Lib.hid hz
  clear hz
  go_enter Try.func54, Try.ntmps54
  go_wp2_with fail
  refine (indexS_any A n c L w hn hf h).mono ?_
  rintro e w2 ⟨i, rfl, hi, hb⟩
  have BB := Lib.hid hb
  clear hb
  have hi0 : 0 ≤ i := by
    rcases hi with ⟨_, h0⟩ | h0
    · exact (HZ.out h0).elim
    · exact h0.1
  have hd : decide (0 ≤ i) = true := decide_eq_true hi0
  clear h hi
  go_wp2
  go_ret
  exact ⟨by simp_all, BB.out⟩
theorem containsS_no (A : Option Addr) (n c : Nat) (L : List Sg) (w : World) (hn : n ≤ 1000000) (hf : ∀ x ∈ L, x.fits) (h : Sgs w A n L) (hz : Low L) :
    Calls Try.prog 54 #[.slice A n c, .func (.func 55) #[] #[]] w fun e w' => e = .returned (.bool false) ∧ Below w.heap.size w w' := by
  have HZ := Lib.hid hz
  clear hz
  go_enter Try.func54, Try.ntmps54
  go_wp2_with fail
  refine (indexS_any A n c L w hn hf h).mono ?_
  rintro e w2 ⟨i, rfl, hi, hb⟩
  have BB := Lib.hid hb
  clear hb
  obtain rfl : i = -1 := by
    rcases hi with h0 | h0
    · exact h0.1
    · exact (h0.2.2 HZ.out).elim
  clear h hi
  go_wp2
  go_ret
  exact ⟨rfl, BB.out⟩
theorem containsI_yes (A : Option Addr) (n c : Nat) (L : List Nat) (T bx : Nat) (w : World) (hn : n ≤ 1000000) (hT : T < 4294967296) (hf : ∀ p ∈ L, p < 4294967296) (hbx : At w bx #[.int .i64 (T : Int)] 3) (h : Row w A n (ints L)) (hz : ¬ Under T L) :
    Calls Try.prog 56 #[.slice A n c, .func (.func 57) #[] #[.pointer (some ⟨bx, 0, none⟩)]] w fun e w' => e = .returned (.bool true) ∧ w = w' := by
  have HZ := Lib.hid hz
  clear hz
  go_enter Try.func56, Try.ntmps56
  go_wp2_with fail
  refine (indexI_any A n c L T bx w hn hT hf hbx h).mono ?_
  rintro e w2 ⟨i, rfl, hi, hb⟩
  subst hb
  have hi0 : 0 ≤ i := by
    rcases hi with ⟨_, h0⟩ | h0
    · exact (HZ.out h0).elim
    · exact h0.1
  have hd : decide (0 ≤ i) = true := decide_eq_true hi0
  clear h hi
  go_wp2
  go_ret
  exact ⟨by simp_all, rfl⟩
theorem containsI_no (A : Option Addr) (n c : Nat) (L : List Nat) (T bx : Nat) (w : World) (hn : n ≤ 1000000) (hT : T < 4294967296) (hf : ∀ p ∈ L, p < 4294967296) (hbx : At w bx #[.int .i64 (T : Int)] 3) (h : Row w A n (ints L)) (hz : Under T L) :
    Calls Try.prog 56 #[.slice A n c, .func (.func 57) #[] #[.pointer (some ⟨bx, 0, none⟩)]] w fun e w' => e = .returned (.bool false) ∧ w = w' := by
  have HZ := Lib.hid hz
  clear hz
  go_enter Try.func56, Try.ntmps56
  go_wp2_with fail
  refine (indexI_any A n c L T bx w hn hT hf hbx h).mono ?_
  rintro e w2 ⟨i, rfl, hi, hb⟩
  subst hb
  obtain rfl : i = -1 := by
    rcases hi with h0 | h0
    · exact h0.1
    · exact (h0.2.2 HZ.out).elim
  clear h hi
  go_wp2
  go_ret
  exact ⟨rfl, rfl⟩

/-- Image and shape in their boxes, a box that holds T. -/
structure Fx (w0 w : World) (ic sc : Array Value) (T bx : Nat) : Prop where
  im : At w w0.heap.size ic 37
  sh : At w (w0.heap.size + 1) sc 32
  bx : At w bx #[.int .i64 (T : Int)] 3
  bel : Below w0.heap.size w0 w
theorem Fx.up {w0 w w' : World} {ic sc : Array Value} {T bx : Nat} (h : Fx w0 w ic sc T bx) (hb : Below w.heap.size w w') : Fx w0 w' ic sc T bx :=
  ⟨h.im.below hb h.im.lt, h.sh.below hb h.sh.lt, h.bx.below hb h.bx.lt, h.bel.trans (hb.mono h.bel.size)⟩
theorem fine_iff (x : Im) (m g s : Nat) : x.fine m g s ↔ ((x.s ≤ g ∧ x.i < s) ∧ Low x.gs ∧ Under (g * s * (m - 2)) x.mp) := Iff.rfl
def Said (b : Bool) (w : World) (e : Ending) (w' : World) : Prop := e = .returned (.bool b) ∧ Below w.heap.size w w'
set_option maxHeartbeats 1000000 in
theorem fits_of (m b g s n l : Nat) (q sg ix : Nat) (A : Option Addr) (na c : Nat) (B : Option Addr) (nb d : Nat) (gs : List Sg) (mp : List Nat) (o : Bool) (w : World) (hB : Bnd m b g s l) (hna : na ≤ 1000) (hnb : nb ≤ 20000) (hf : (Im.mk q sg ix gs mp).fits) (h : Img w A na B nb ⟨q, sg, ix, gs, mp⟩)
    (ho : o = true ↔ (Im.mk q sg ix gs mp).fine m g s) : Calls Try.prog 35 #[.agg (ics q sg ix A na c B nb d), .agg #[.int .i64 (m : Int), .int .i64 (b : Int), .int .i64 (g : Int), .int .i64 (s : Int), .int .i64 (n : Int), .int .i64 (l : Int)]] w (Said o w) := by
  have BN := Lib.hid hB
  have HG := Lib.hid h.gs
  have HP := Lib.hid h.mp
  have FG := Lib.hid hf.gs
  have FP := Lib.hid hf.mp
  have hsg : sg < 65536 := hf.s
  have hix : ix < 65536 := hf.i
  have HO := Lib.hid ((fine_iff _ m g s).symm.trans ho.symm)
  obtain ⟨T, hT⟩ : ∃ T, T = g * s * (m - 2) := ⟨_, rfl⟩
  have hTb : T ≤ 14336 := by rw [hT]; exact prod_le hB
  have hTi : ((g * s : Nat) : Int) * ((m - 2 : Nat) : Int) = (T : Int) := by rw [hT, Int.natCast_mul (g * s) (m - 2)]
  have hKS : g * s ≤ 1024 := Nat.le_trans (Nat.mul_le_mul (show g ≤ 64 from hB.g.2) (show s ≤ 16 from hB.s.2)) (by decide)
  have hM2 : m - 2 ≤ 14 := by have := hB.m; omega
  have hg := hB.g; have hs := hB.s
  obtain ⟨KS, hks⟩ : ∃ y, y = g * s := ⟨_, rfl⟩
  obtain ⟨M2, hm2⟩ : ∃ y, y = m - 2 := ⟨_, rfl⟩
  rw [← hT] at HO
  rw [← hks, ← hm2] at hTi
  rw [← hks] at hKS
  rw [← hm2] at hM2
  have KK := Lib.hid hks
  have MM := Lib.hid hm2
  clear h hf ho hT hB hks hm2
  go_enter Try.func35, Try.ntmps35
  go_upto_region 1 with (fail)
  go_cut [5] (fun s5 wc => ∃ bx : Nat, s5 = .pointer (some ⟨bx, 0, none⟩) ∧ Fx w wc (ics q sg ix A na c B nb d) #[.int .i64 (m : Int), .int .i64 (b : Int), .int .i64 (g : Int), .int .i64 (s : Int), .int .i64 (n : Int), .int .i64 (l : Int)] T bx)
  case first =>
    refine wp_region_early (fun w' : World => At w' w.heap.size (ics q sg ix A na c B nb d) 37 ∧ At w' (w.heap.size + 1) #[.int .i64 (m : Int), .int .i64 (b : Int), .int .i64 (g : Int), .int .i64 (s : Int), .int .i64 (n : Int), .int .i64 (l : Int)] 32) (fun _ => true) (by kernel_rfl) ?_
    change wpEarly _ _ _ _ _ _ 7 (Array.replicate 7 false) _ ((w.alloc (.cells (ics q sg ix A na c B nb d) 37)).alloc (.cells #[.int .i64 (m : Int), .int .i64 (b : Int), .int .i64 (g : Int), .int .i64 (s : Int), .int .i64 (n : Int), .int .i64 (l : Int)] 32)).drew
    have S0 := Lib.hid (show At ((w.alloc (.cells (ics q sg ix A na c B nb d) 37)).alloc (.cells #[.int .i64 (m : Int), .int .i64 (b : Int), .int .i64 (g : Int), .int .i64 (s : Int), .int .i64 (n : Int), .int .i64 (l : Int)] 32)).drew w.heap.size (ics q sg ix A na c B nb d) 37 ∧ At ((w.alloc (.cells (ics q sg ix A na c B nb d) 37)).alloc (.cells #[.int .i64 (m : Int), .int .i64 (b : Int), .int .i64 (g : Int), .int .i64 (s : Int), .int .i64 (n : Int), .int .i64 (l : Int)] 32)).drew (w.heap.size + 1) #[.int .i64 (m : Int), .int .i64 (b : Int), .int .i64 (g : Int), .int .i64 (s : Int), .int .i64 (n : Int), .int .i64 (l : Int)] 32 from ⟨(At.new _ _ rfl).alloc _, At.new _ _ (by simp)⟩)
    have BW := Lib.hid (show Below w.heap.size w ((w.alloc (.cells (ics q sg ix A na c B nb d) 37)).alloc (.cells #[.int .i64 (m : Int), .int .i64 (b : Int), .int .i64 (g : Int), .int .i64 (s : Int), .int .i64 (n : Int), .int .i64 (l : Int)] 32)).drew from below_drew (BB2 _ _ _))
    generalize ((w.alloc (.cells (ics q sg ix A na c B nb d) 37)).alloc (.cells #[.int .i64 (m : Int), .int .i64 (b : Int), .int .i64 (g : Int), .int .i64 (s : Int), .int .i64 (n : Int), .int .i64 (l : Int)] 32)).drew = wa at *
    refine early_take (i := 0) 6 (.agg #[.int .i64 (m : Int), .int .i64 (b : Int), .int .i64 (g : Int), .int .i64 (s : Int), .int .i64 (n : Int), .int .i64 (l : Int)]) rfl rfl (by kernel_rfl) (by kernel_rfl) (by kernel_rfl) (by kernel_rfl) rfl (fun _ _ _ h => h) (fun w' hw' => exec_load_whole rfl rfl hw'.2 Try.underlying32 info32) S0.out ?_
    simp only [Act.put, List.setIfInBounds_toArray, List.set_cons_zero, List.set_cons_succ]
    refine early_take (i := 2) 8 (.agg #[.int .i64 (m : Int), .int .i64 (b : Int), .int .i64 (g : Int), .int .i64 (s : Int), .int .i64 (n : Int), .int .i64 (l : Int)]) rfl rfl (by kernel_rfl) (by kernel_rfl) (by kernel_rfl) (by kernel_rfl) rfl (fun _ _ _ h => h) (fun w' hw' => exec_load_whole rfl rfl hw'.2 Try.underlying32 info32) S0.out ?_
    simp only [Act.put, List.setIfInBounds_toArray, List.set_cons_zero, List.set_cons_succ]
    refine early_two (i := 1) (j := 5) (by kernel_rfl) ⟨rfl, fun K hK => ?_⟩ ⟨rfl, fun K hK => ?_⟩
    · simp only [opWp, List.getElem?_toArray, List.getElem?_cons_succ, List.getElem?_cons_zero]
      go_simp
      go_at_call 21
      refine (all_nat BN.out _).mono ?_
      rintro e wb ⟨rfl, hb⟩
      rw [← KK.out]
      have BW := Lib.hid (BW.out.trans (hb.mono BW.out.size))
      have S0 := Lib.hid (And.intro (S0.out.1.below hb S0.out.1.lt) (S0.out.2.below hb S0.out.2.lt))
      clear hb
      refine hK _ _ (fun _ => S0.out) ?_
      clear hK
      refine early_two (i := 3) (j := 5) (by kernel_rfl) ⟨rfl, fun K hK => ?_⟩ ⟨rfl, fun K hK => ?_⟩
      · simp only [opWp, List.getElem?_toArray, List.getElem?_cons_succ, List.getElem?_cons_zero]
        go_simp
        go_at_call 22
        refine (slots_nat BN.out _).mono ?_
        rintro e wd ⟨rfl, hb⟩
        rw [← MM.out]
        have BW := Lib.hid (BW.out.trans (hb.mono BW.out.size))
        have S0 := Lib.hid (And.intro (S0.out.1.below hb S0.out.1.lt) (S0.out.2.below hb S0.out.2.lt))
        clear hb
        refine hK _ _ (fun _ => S0.out) ?_
        clear hK
        refine early_take (i := 4) 10 (.int .i64 (T : Int)) rfl rfl (by kernel_rfl) (by kernel_rfl) (by kernel_rfl) (by kernel_rfl) rfl (fun _ _ _ h => h) (fun w' hw' => by go_simp; exact wrap_of (by omega) (by omega)) S0.out ?_
        simp only [Act.put, List.setIfInBounds_toArray, List.set_cons_zero, List.set_cons_succ]
        refine early_only (i := 5) (by kernel_rfl) rfl (fun K hK => ?_)
        simp only [opWp, List.getElem?_toArray, List.getElem?_cons_succ, List.getElem?_cons_zero]
        go_simp
        have BX := Lib.hid (At.new (w := wd) (g := wd.heap.size) #[.int .i64 0] 3 rfl)
        have BXL := Lib.hid (show w.heap.size + 1 < wd.heap.size from S0.out.2.lt)
        have S0 := Lib.hid (And.intro (S0.out.1.alloc (.cells #[.int .i64 0] 3)) (S0.out.2.alloc (.cells #[.int .i64 0] 3)))
        have BW := Lib.hid (BW.out.alloc BW.out.size (.cells #[.int .i64 0] 3))
        refine hK _ _ (fun _ => S0.out) ?_
        clear hK
        generalize wd.alloc (.cells #[.int .i64 0] 3) = we at *
        generalize wd.heap.size = bx at *
        refine early_only (i := 6) (by kernel_rfl) rfl (fun K hK => ?_)
        simp only [opWp, List.getElem?_toArray, List.getElem?_cons_succ, List.getElem?_cons_zero]
        go_simp
        have c0 := BX.out.cell 0
        have f0 := BX.out.frozen 0
        go_simp
        refine hK _ _ (fun _ => ⟨S0.out.1.other (by show ¬ bx = w.heap.size; have := BXL.out; omega) _, S0.out.2.other (by show ¬ bx = w.heap.size + 1; have := BXL.out; omega) _⟩) ?_
        refine early_done (by kernel_rfl) ?_
        go_wp2_with fail
        go_meet
        exact ⟨bx, rfl, S0.out.1.other (by show ¬ bx = w.heap.size; have := BXL.out; omega) _, S0.out.2.other (by show ¬ bx = w.heap.size + 1; have := BXL.out; omega) _, BX.out.set 0 _, BW.out.setCell (by show w.heap.size ≤ bx; have := BXL.out; omega) _⟩
      · simp only [opWp, List.getElem?_toArray, List.getElem?_cons_succ, List.getElem?_cons_zero]
        go_simp
        have BX := Lib.hid (At.new (w := wb) (g := wb.heap.size) #[.int .i64 0] 3 rfl)
        have BXL := Lib.hid (show w.heap.size + 1 < wb.heap.size from S0.out.2.lt)
        have S0 := Lib.hid (And.intro (S0.out.1.alloc (.cells #[.int .i64 0] 3)) (S0.out.2.alloc (.cells #[.int .i64 0] 3)))
        have BW := Lib.hid (BW.out.alloc BW.out.size (.cells #[.int .i64 0] 3))
        refine hK _ _ (fun _ => S0.out) ?_
        clear hK
        generalize wb.alloc (.cells #[.int .i64 0] 3) = wd at *
        generalize wb.heap.size = bx at *
        refine early_only (i := 3) (by kernel_rfl) rfl (fun K hK => ?_)
        simp only [opWp, List.getElem?_toArray, List.getElem?_cons_succ, List.getElem?_cons_zero]
        go_simp
        go_at_call 22
        refine (slots_nat BN.out _).mono ?_
        rintro e we ⟨rfl, hb⟩
        rw [← MM.out]
        have BW := Lib.hid (BW.out.trans (hb.mono BW.out.size))
        have S0 := Lib.hid (And.intro (S0.out.1.below hb S0.out.1.lt) (S0.out.2.below hb S0.out.2.lt))
        have BX := Lib.hid (BX.out.below hb BX.out.lt)
        clear hb
        refine hK _ _ (fun _ => S0.out) ?_
        clear hK
        refine early_take (i := 4) 10 (.int .i64 (T : Int)) rfl rfl (by kernel_rfl) (by kernel_rfl) (by kernel_rfl) (by kernel_rfl) rfl (fun _ _ _ h => h) (fun w' hw' => by go_simp; exact wrap_of (by omega) (by omega)) S0.out ?_
        simp only [Act.put, List.setIfInBounds_toArray, List.set_cons_zero, List.set_cons_succ]
        refine early_only (i := 6) (by kernel_rfl) rfl (fun K hK => ?_)
        simp only [opWp, List.getElem?_toArray, List.getElem?_cons_succ, List.getElem?_cons_zero]
        go_simp
        have c0 := BX.out.cell 0
        have f0 := BX.out.frozen 0
        go_simp
        refine hK _ _ (fun _ => ⟨S0.out.1.other (by show ¬ bx = w.heap.size; have := BXL.out; omega) _, S0.out.2.other (by show ¬ bx = w.heap.size + 1; have := BXL.out; omega) _⟩) ?_
        refine early_done (by kernel_rfl) ?_
        go_wp2_with fail
        go_meet
        exact ⟨bx, rfl, S0.out.1.other (by show ¬ bx = w.heap.size; have := BXL.out; omega) _, S0.out.2.other (by show ¬ bx = w.heap.size + 1; have := BXL.out; omega) _, BX.out.set 0 _, BW.out.setCell (by show w.heap.size ≤ bx; have := BXL.out; omega) _⟩
    · simp only [opWp, List.getElem?_toArray, List.getElem?_cons_succ, List.getElem?_cons_zero]
      go_simp
      have BX := Lib.hid (At.new (w := wa) (g := wa.heap.size) #[.int .i64 0] 3 rfl)
      have BXL := Lib.hid (show w.heap.size + 1 < wa.heap.size from S0.out.2.lt)
      have S0 := Lib.hid (And.intro (S0.out.1.alloc (.cells #[.int .i64 0] 3)) (S0.out.2.alloc (.cells #[.int .i64 0] 3)))
      have BW := Lib.hid (BW.out.alloc BW.out.size (.cells #[.int .i64 0] 3))
      refine hK _ _ (fun _ => S0.out) ?_
      clear hK
      generalize wa.alloc (.cells #[.int .i64 0] 3) = wb at *
      generalize wa.heap.size = bx at *
      refine early_only (i := 1) (by kernel_rfl) rfl (fun K hK => ?_)
      simp only [opWp, List.getElem?_toArray, List.getElem?_cons_succ, List.getElem?_cons_zero]
      go_simp
      go_at_call 21
      refine (all_nat BN.out _).mono ?_
      rintro e wd ⟨rfl, hb⟩
      rw [← KK.out]
      have BW := Lib.hid (BW.out.trans (hb.mono BW.out.size))
      have S0 := Lib.hid (And.intro (S0.out.1.below hb S0.out.1.lt) (S0.out.2.below hb S0.out.2.lt))
      have BX := Lib.hid (BX.out.below hb BX.out.lt)
      clear hb
      refine hK _ _ (fun _ => S0.out) ?_
      clear hK
      refine early_only (i := 3) (by kernel_rfl) rfl (fun K hK => ?_)
      simp only [opWp, List.getElem?_toArray, List.getElem?_cons_succ, List.getElem?_cons_zero]
      go_simp
      go_at_call 22
      refine (slots_nat BN.out _).mono ?_
      rintro e we ⟨rfl, hb⟩
      rw [← MM.out]
      have BW := Lib.hid (BW.out.trans (hb.mono BW.out.size))
      have S0 := Lib.hid (And.intro (S0.out.1.below hb S0.out.1.lt) (S0.out.2.below hb S0.out.2.lt))
      have BX := Lib.hid (BX.out.below hb BX.out.lt)
      clear hb
      refine hK _ _ (fun _ => S0.out) ?_
      clear hK
      refine early_take (i := 4) 10 (.int .i64 (T : Int)) rfl rfl (by kernel_rfl) (by kernel_rfl) (by kernel_rfl) (by kernel_rfl) rfl (fun _ _ _ h => h) (fun w' hw' => by go_simp; exact wrap_of (by omega) (by omega)) S0.out ?_
      simp only [Act.put, List.setIfInBounds_toArray, List.set_cons_zero, List.set_cons_succ]
      refine early_only (i := 6) (by kernel_rfl) rfl (fun K hK => ?_)
      simp only [opWp, List.getElem?_toArray, List.getElem?_cons_succ, List.getElem?_cons_zero]
      go_simp
      have c0 := BX.out.cell 0
      have f0 := BX.out.frozen 0
      go_simp
      refine hK _ _ (fun _ => ⟨S0.out.1.other (by show ¬ bx = w.heap.size; have := BXL.out; omega) _, S0.out.2.other (by show ¬ bx = w.heap.size + 1; have := BXL.out; omega) _⟩) ?_
      refine early_done (by kernel_rfl) ?_
      go_wp2_with fail
      go_meet
      exact ⟨bx, rfl, S0.out.1.other (by show ¬ bx = w.heap.size; have := BXL.out; omega) _, S0.out.2.other (by show ¬ bx = w.heap.size + 1; have := BXL.out; omega) _, BX.out.set 0 _, BW.out.setCell (by show w.heap.size ≤ bx; have := BXL.out; omega) _⟩
  case rest =>
    obtain ⟨bx, rfl, hX⟩ := hcut
    have FX := Lib.hid hX
    have j1 := hX.im.cell 1; have j2 := hX.im.cell 2; have j3 := hX.im.cell 3; have j4 := hX.im.cell 4
    have k2 := hX.sh.cell 2; have k3 := hX.sh.cell 3
    have HG := Lib.hid (HG.out.below hX.bel)
    have HP := Lib.hid (HP.out.below hX.bel)
    clear hX
    by_cases h1 : sg ≤ g
    · have q1 : decide ((sg : Int) - 1 < (g : Int)) = true := decide_eq_true (by omega)
      by_cases h2 : ix < s
      · have q2 : decide ((ix : Int) < (s : Int)) = true := decide_eq_true (by omega)
        by_cases h3 : Low gs
        · have H3 := Lib.hid h3
          clear h3
          go_wp2_with fail
          clear j1 j2 j3 j4 k2 k3
          refine (containsS_no A na c gs _ (by omega) FG.out HG.out H3.out).mono ?_
          rintro e w2 ⟨rfl, hb2⟩
          have FX := Lib.hid (FX.out.up hb2)
          have HP := Lib.hid (HP.out.below hb2)
          clear hb2
          have j4 := FX.out.im.cell 4
          by_cases h4 : Under T mp
          · have H4 := Lib.hid h4
            clear h4
            go_wp2_with fail
            refine (containsI_no B nb d mp T bx _ (by omega) (by omega) FP.out FX.out.bx HP.out H4.out).mono ?_
            rintro e w3 ⟨rfl, rfl⟩
            go_wp2
            go_ret
            have : o = true := HO.out.1 ⟨⟨h1, h2⟩, H3.out, H4.out⟩
            subst this
            exact ⟨rfl, FX.out.bel⟩
          · have H4 := Lib.hid h4
            clear h4
            go_wp2_with fail
            refine (containsI_yes B nb d mp T bx _ (by omega) (by omega) FP.out FX.out.bx HP.out H4.out).mono ?_
            rintro e w3 ⟨rfl, rfl⟩
            go_wp2
            go_ret
            have : o = false := Bool.eq_false_iff.2 (fun e => H4.out (HO.out.2 e).2.2)
            subst this
            exact ⟨rfl, FX.out.bel⟩
        · have H3 := Lib.hid h3
          clear h3
          go_wp2_with fail
          refine (containsS_yes A na c gs _ (by omega) FG.out HG.out H3.out).mono ?_
          rintro e w2 ⟨rfl, hb2⟩
          have FX := Lib.hid (FX.out.up hb2)
          clear hb2
          go_wp2
          go_ret
          have : o = false := Bool.eq_false_iff.2 (fun e => H3.out (HO.out.2 e).2.1)
          subst this
          exact ⟨rfl, FX.out.bel⟩
      · have q2 : decide ((ix : Int) < (s : Int)) = false := decide_eq_false (by omega)
        go_wp2
        go_ret
        have : o = false := Bool.eq_false_iff.2 (fun e => h2 (HO.out.2 e).1.2)
        subst this
        exact ⟨by simp_all, FX.out.bel⟩
    · have q1 : decide ((sg : Int) - 1 < (g : Int)) = false := decide_eq_false (by omega)
      go_wp2
      go_ret
      have : o = false := Bool.eq_false_iff.2 (fun e => h1 (HO.out.2 e).1.1)
      subst this
      exact ⟨by simp_all, FX.out.bel⟩
end Go.Proofs.Ytlmponcoghfghaa
