/-
  THE WALK OF DiskGoes.
-/
import Derived.Test.YtlcnpjkifokhdaaAwake
import Derived.Test.YtlcnpjkifokhdaaRun
namespace Go.Proofs.Ytlcnpjkifokhdaa
open Go.RowKit Go.Maps Go.Shelf
set_option linter.unusedVariables false
set_option maxRecDepth 100000

/-- The sectors below k. -/
def upTo (k : Nat) : List Int := (List.range k).map (fun i : Nat => (i : Int))
theorem upTo_len (k : Nat) : (upTo k).length = k := by simp [upTo]
theorem mem_upTo (k : Nat) (x : Int) : x ∈ upTo k ↔ 0 ≤ x ∧ x < (k : Int) := by
  unfold upTo
  rw [List.mem_map]
  constructor
  · rintro ⟨i, hi, rfl⟩
    rw [List.mem_range] at hi
    omega
  · rintro ⟨h1, h2⟩
    exact ⟨x.toNat, by rw [List.mem_range]; omega, by omega⟩
theorem upTo_pw (k : Nat) : (upTo k).Pairwise (fun x y => x < y) := by
  unfold upTo
  refine List.pairwise_map.2 (List.pairwise_lt_range.imp (fun h => by omega))
theorem upTo_write {s : DS} {k : Nat} (h : Waits s (upTo k)) (b : Bytes) : Waits (s.write k b) (upTo (k + 1)) := by
  refine ⟨upTo_pw _, fun x => ?_⟩
  rw [mem_upTo]
  have h1 := (h.2 x)
  rw [mem_upTo] at h1
  show _ ↔ (if x = (k : Int) then some b else s.wait x).isSome = true
  by_cases e : x = (k : Int)
  · simp [e]
    omega
  · rw [if_neg e, ← h1]
    omega

def ended (gone : Bool) : Ending := if gone then .panicked out else .returned (.tuple #[])

/-- Behind k writes. -/
def Gk (B : Nat) (w0 wa : World) (g p : Nat) (T0 : Nat → Prop) (L k : Nat) (wr : World) : Prop :=
  ∃ T s, Sys B w0 wr g p T s k ((L : Int) - k) ∧ Waits s (upTo k) ∧ s.sectors = 6 ∧ s.size = 1 ∧ s.dead = false ∧ s.failAt < 0 ∧ (∀ i, 0 ≤ s.writes i ∧ s.writes i ≤ k) ∧ (∀ j, T j → T0 j ∨ wa.heap.size ≤ j) ∧ But (fun j => T0 j ∨ j = p) wa wr

theorem Gk.alloc {B : Nat} {w0 wa : World} {g p : Nat} {T0 : Nat → Prop} {L k : Nat} {wr : World} (h : Gk B w0 wa g p T0 L k wr) (o : Obj) : Gk B w0 wa g p T0 L k (wr.alloc o) := by
  obtain ⟨T, s, h1, h2, h3, h4, h5, h6, h7, h8, h9⟩ := h
  exact ⟨T, s, h1.alloc o, h2, h3, h4, h5, h6, h7, h8, h9.alloc o⟩

set_option maxHeartbeats 1600000 in
theorem goes_do (bl dv : Nat) (A : Option Addr) (n c : Nat) (l : Bytes) (B : Nat) (w0 : World) (g p : Nat) (T0 : Nat → Prop) (L : Nat) (wa : World) (Y : Sys B w0 wa g p T0 (blank 6 1) 0 (L : Int)) (hbl : At wa bl #[.slice A n c] 28) (hbl' : ¬ T0 bl ∧ ¬ bl = p)
    (hdv : At wa dv #[.pointer (some ⟨g, 0, none⟩)] 26) (hdv' : ¬ T0 dv ∧ ¬ dv = p) (hl : Has wa A n l) (hA : 0 < n → ∀ x, A = some x → ¬ T0 x.block ∧ ¬ x.block = p) (hn : n ≤ 6) (hL : L ≤ 7) :
    Calls Try.prog 26 #[.pointer (some ⟨bl, 0, none⟩), .pointer (some ⟨dv, 0, none⟩)] wa fun e w' => ∃ gone, e = ended gone ∧ gone = decide (min n L < n) ∧ Gk B w0 wa g p T0 L (min n L) w' := by
  have cb : wa.cell? ⟨bl, 0, none⟩ = some (.slice A n c) := hbl.cell 0
  have HV := Lib.hid hdv
  have HV' := Lib.hid hdv'
  have HL := Lib.hid hl
  have HA := Lib.hid hA
  have HY := Lib.hid Y
  clear hbl hbl' hdv hdv' hl hA Y
  go_enter Try.func26, Try.ntmps26
  go_wp2
  go_loopw [6] (fun i wr => ∃ k : Nat, k ≤ n ∧ k ≤ L ∧ i = .int .i64 k ∧ Gk B w0 wa g p T0 L k wr) (fun i _ => n - (intOf i).toNat)
  case atStart => exact ⟨0, Nat.zero_le _, Nat.zero_le _, rfl, T0, _, by simpa using HY.out, ⟨upTo_pw 0, fun x => by rw [mem_upTo]; simp [blank]⟩, rfl, rfl, rfl, (by show (-1 : Int) < 0; decide), fun i => ⟨Int.le_refl _, Int.le_refl _⟩, fun _ h => .inl h, But.refl _ _⟩
  case round =>
    obtain ⟨k, hk, hkL, rfl, hG⟩ := hrel
    have G1 := Lib.hid hG
    by_cases hlt : k < n
    · obtain ⟨b0, o0, rfl⟩ := HL.out.some_ (by omega)
      have hkl : k < l.length := by rw [HL.out.1]; exact hlt
      obtain ⟨T, s, h1, h2, h3, h4, h5, h6, h7, h8, h9⟩ := hG
      have hL1 : Has wr (some ⟨b0, o0, none⟩) n l := HL.out.but h9 (fun x hx h => h.elim (HA.out (by omega) x hx).1 (HA.out (by omega) x hx).2)
      have hce : wr.cell? ⟨b0, o0 + k, none⟩ = some (.int .u8 (l[k].toNat : Int)) := hL1.cell k hlt
      have hdv1 : At wr dv #[.pointer (some ⟨g, 0, none⟩)] 26 := HV.out.but h9 (fun h => h.elim HV'.out.1 HV'.out.2)
      have hcd : wr.cell? ⟨dv, 0, none⟩ = some (.pointer (some ⟨g, 0, none⟩)) := hdv1.cell 0
      generalize hX : (l[k].toNat : Int) = X at hce
      have HX := Lib.hid hX
      clear hX
      have hasK : s.has k := ⟨by omega, by rw [h3]; omega⟩
      have hone : Has (wr.alloc (.cells #[.int .u8 X] 5)) (some ⟨wr.heap.size, 0, none⟩) s.size [l[k]] := by
        rw [h4]
        exact one_has wr _ rfl l[k] X HX.out.symm
      have hoff : ∀ x, some (⟨wr.heap.size, 0, none⟩ : Addr) = some x → ¬ x.block = g ∧ ¬ x.block = p := fun x hx => by
        injection hx with hx
        subst hx
        exact (h1.off _ (Nat.le_refl _)).2
      by_cases hout : k = L
      · subst hout
        have h0 : (k : Int) - k = 0 := by omega
        rw [h0] at h1
        have hcall := write_out (k : Int) k (some ⟨wr.heap.size, 0, none⟩) 1 hasK (h1.alloc (.cells #[.int .u8 X] 5)).dk (h1.alloc (.cells #[.int .u8 X] 5)).pw
        rw [h4] at hcall
        have CC := Lib.hid hcall
        clear hcall hone hoff h1 h2 h3 h4 h5 h6 h7 h8 h9 hL1 hdv1
        go_wp2_with fail
        refine CC.out.mono ?_
        rintro e w' ⟨rfl, rfl⟩
        unfold out
        go_wp2
        have hmin : min n k = k := by omega
        refine ⟨rfl, true, rfl, ?_, ?_⟩
        · rw [hmin, decide_eq_true hlt]
        · rw [hmin]
          exact G1.out.alloc _
      · have hcall := write_live (k : Int) k ((L : Int) - k) (some ⟨wr.heap.size, 0, none⟩) 1 [l[k]] hasK h5 h6 (h1.alloc (.cells #[.int .u8 X] 5)).dk (h1.alloc (.cells #[.int .u8 X] 5)).pw hone hoff (by omega) (by omega) (by omega) (by have := h7 k; omega)
        rw [h4] at hcall
        have CC := Lib.hid hcall
        have S1 := Lib.hid h1
        have S2 := Lib.hid (And.intro h2 (And.intro h3 (And.intro h4 (And.intro h5 (And.intro h6 (And.intro h7 (And.intro h8 h9)))))))
        clear hcall hone hoff h1 h2 h3 h4 h5 h6 h7 h8 h9 hL1 hdv1
        go_wp2_with fail
        refine CC.out.mono ?_
        rintro e w' ⟨T', rfl, hd, hp, hT, hb⟩
        obtain ⟨h2, h3, h4, h5, h6, h7, h8, h9⟩ := S2.out
        have hls : less ((L : Int) - k) = (L : Int) - ((k + 1 : Nat) : Int) := by unfold less; rw [if_pos (by omega)]; omega
        have hG2 : Gk B w0 wa g p T0 L (k + 1) w' := by
          refine ⟨T', _, ?_, upTo_write h2 [l[k]], h3, h4, h5, h6, ?_, ?_, ?_⟩
          · have := (S1.out.alloc (.cells #[.int .u8 X] 5)).go hd hp hT hb
            rw [hls] at this
            exact_mod_cast this
          · intro i
            have := h7 i
            simp only [DS.write]
            split <;> omega
          · intro j hj
            rcases hT j hj with h | h
            · exact h8 j h
            · have := h9.size
              simp at h
              exact .inr (by omega)
          · refine (h9.alloc _).trans hb ?_
            rintro j (h | h) hj
            · rcases h8 j h with h' | h'
              · exact .inl h'
              · omega
            · exact .inr h
        have G2 := Lib.hid hG2
        clear hG2 hd hp hT hb h2 h3 h4 h5 h6 h7 h8 h9 hls
        go_wp2
        go_roundw
        case rel => exact ⟨k + 1, by omega, by omega, by go_num, G2.out⟩
        case measure => simp [intOf]; omega
    · have e0 : k = n := by omega
      subst e0
      clear hG
      go_wp2
      go_end0
      have hmin : min k L = k := by omega
      refine ⟨false, rfl, ?_, ?_⟩
      · rw [hmin, decide_eq_false (by omega)]
      · rw [hmin]
        exact G1.out

theorem run_min2 {P : Program} (w : World) (ts : Array TypeId) (t : TypeId) (x y X : Int) (h : X = min x y) : (Builtin.min_ ts t #[.int .i64 x, .int .i64 y]).run P w = .ok (.int .i64 X) w := by
  have e : X = if y < x then y else x := by split <;> omega
  rw [e]
  simp [Builtin.min_, Builtin.min2]

set_option maxHeartbeats 1600000 in
theorem diskGoes_walk (x : Nat) (hx : x ≤ 255) (A : Option Addr) (n c : Nat) (l : Bytes) (w : World) (h : Has w A n l) : Calls Try.prog 5 #[.int .u8 (x : Int), .slice A n c] w fun e w' => e = .returned (.bool true) ∧ Below w.heap.size w w' := by
  have hrow : 0 < n → ∀ y, A = some y → y.block < w.heap.size := by
    intro hn y hy
    obtain ⟨b, o, e, hb, _⟩ := h.2 hn
    rw [hy] at e
    injection e with e
    subst e
    exact hb
  have H := Lib.hid h
  have HR := Lib.hid hrow
  clear h hrow
  go_enter Try.func5, Try.ntmps5
  go_wp2_with fail
  refine (awake_any _).mono ?_
  rintro e w0 ⟨rfl, hb0⟩
  have B0 := Lib.hid (((Below.refl w.heap.size w).alloc (Nat.le_refl _) (.cells #[.slice A n c] 28)).trans (hb0.mono (by simp)))
  have V0 := Lib.hid ((At.new (w := w) #[.slice A n c] 28 rfl).below hb0 (by simp))
  have cv : w0.cell? ⟨w.heap.size, 0, none⟩ = some (.slice A n c) := V0.out.cell 0
  generalize hbl : w.heap.size = bl at *
  have EB := Lib.hid hbl
  clear hbl hb0
  by_cases hbig : 6 < n
  · have hbi : (6 : Int) < (n : Int) := by omega
    go_wp2
    go_ret
    exact ⟨rfl, by rw [EB.out]; exact B0.out⟩
  · have hbi : ¬ (6 : Int) < (n : Int) := by omega
    obtain ⟨L, hL⟩ : ∃ L : Nat, L = x % 8 := ⟨_, rfl⟩
    have hLi : (x : Int) % 8 = (L : Int) := by omega
    have HLI := Lib.hid hLi
    have HL := Lib.hid hL
    clear hLi hL
    go_wp2_with fail
    refine (new_any _ w0).mono ?_
    rintro e w1 ⟨rfl, hw1⟩
    rw [HLI.out] at hw1
    have W1 := Lib.hid hw1
    have hlt1 : w0.heap.size < w1.heap.size := by rw [hw1]; simp
    clear hw1
    go_wp2_with fail
    refine (new_disk w0.heap.size 6 1 6 1 w1 hlt1 (by decide) (by decide) (by decide)).mono ?_
    rintro e w2 ⟨g, T, rfl, hd, hT, hb⟩
    have Y2 := Lib.hid (Sys.start W1.out hd hT hb)
    have hbl0 := V0.out.lt
    clear hd hT hb hlt1
    generalize hB : w0.heap.size = B at *
    have HB := Lib.hid hB
    clear hB W1
    go_wp2_with fail
    obtain ⟨W, hW⟩ : ∃ W, W = w2.alloc (.cells #[.pointer (some ⟨g, 0, none⟩)] 26) := ⟨_, rfl⟩
    have Y3 := Lib.hid (show Sys B w0 W g B T (blank 6 1) 0 (L : Int) by subst hW; exact Y2.out.alloc _)
    have D3 := Lib.hid (show At W w2.heap.size #[.pointer (some ⟨g, 0, none⟩)] 26 by subst hW; exact At.new _ _ rfl)
    have off3 := Lib.hid (Y2.out.off _ (Nat.le_refl _))
    rw [← hW]
    clear hW
    generalize hdv : w2.heap.size = dv at *
    clear hdv
    have V3 := Lib.hid (V0.out.below Y3.out.below hbl0)
    have hHW : Has W A n l := H.out.below (by rw [EB.out]; exact B0.out.trans (Y3.out.below.mono (Nat.le_of_lt hbl0)))
    have HW := Lib.hid hHW
    clear hHW
    have K : Calls Try.prog 26 #[.pointer (some ⟨bl, 0, none⟩), .pointer (some ⟨dv, 0, none⟩)] (W.alloc (.cells #[.bool false] 4)) fun e w' => ∃ gone, e = (if gone then .panicked out else .returned (.tuple #[])) ∧ (gone = decide (min n L < n) ∧ Gk B w0 (W.alloc (.cells #[.bool false] 4)) g B T L (min n L) w') ∧ At w' W.heap.size #[.bool false] 4 := by
      refine (goes_do bl dv A n c l B w0 g B T L _ (Y3.out.alloc _) (V3.out.alloc _) ⟨fun h => by have := Y3.out.own bl h; omega, by omega⟩ (D3.out.alloc _) ⟨off3.out.1, off3.out.2.2⟩ (HW.out.below ((Below.refl _ _).alloc (Nat.le_refl _) _)) (fun h0 y hy => ⟨fun h => by have := Y3.out.own _ h; have := HR.out h0 y hy; omega, by have := HR.out h0 y hy; omega⟩) (by omega) (by have := HL.out; omega)).mono ?_
      rintro e w' ⟨gone, rfl, h1, h2⟩
      refine ⟨gone, rfl, ⟨h1, h2⟩, ?_⟩
      obtain ⟨T4, s4, _, _, _, _, _, _, _, _, h9⟩ := h2
      have hoff := Y3.out.off _ (Nat.le_refl _)
      exact (At.new (w := W) #[.bool false] 4 rfl).but h9 (fun h => h.elim hoff.1 hoff.2.2)
    refine (run_some 26 _ W (fun w => by kernel_rfl) (fun gone w' => gone = decide (min n L < n) ∧ Gk B w0 (W.alloc (.cells #[.bool false] 4)) g B T L (min n L) w') K).mono ?_
    rintro e w5 ⟨gone, w4, rfl, ⟨hgone, T4, s4, h1, h2, h3, h4, h5, h6, h7, h8, h9⟩, hb5⟩
    have hoff := Y3.out.off _ (Nat.le_refl _)
    have hsz : (W.alloc (.cells #[.bool false] 4)).heap.size = W.heap.size + 1 := by simp
    obtain ⟨M, hM⟩ : ∃ M, M = min n L := ⟨_, rfl⟩
    rw [← hM] at h1 h2 h7 hgone
    have Y5 : Sys B w0 w5 g B T4 s4 (M : Nat) ((L : Int) - (M : Nat)) := h1.but hb5 (fun j hj e => by
      rcases h8 j hj with h | h
      · exact hoff.1 (e ▸ h)
      · omega) (fun e => hoff.2.2 e.symm) (fun j e => by rw [e]; exact Y3.out.size)
    have c5 : w5.cell? ⟨bl, 0, none⟩ = some (.slice A n c) := (((V3.out.alloc _).but h9 (fun h => h.elim (fun h => by have := Y3.out.own bl h; omega) (by omega))).but hb5 (by have := V3.out.lt; omega)).cell 0
    have d5 : w5.cell? ⟨dv, 0, none⟩ = some (.pointer (some ⟨g, 0, none⟩)) := (((D3.out.alloc _).but h9 (fun h => h.elim off3.out.1 off3.out.2.2)).but hb5 (by have := D3.out.lt; omega)).cell 0
    have hmin := fun (w : World) => run_min2 (P := Try.prog) w #[3, 3] 3 (n : Int) ((x : Int) % 8) (M : Int) (by have := HLI.out; omega)
    have SY := Lib.hid Y5
    have SW := Lib.hid h2
    have HM := Lib.hid hM
    clear h1 h2 h3 h4 h5 h6 h7 h8 h9 hb5 Y5 K hoff hsz hM
    have hB5 : ∀ w6, Below w5.heap.size w5 w6 → Below bl w w6 := fun w6 h6 => (B0.out.trans (SY.out.below.mono (Nat.le_of_lt hbl0))).trans (h6.mono (by have := SY.out.size; omega))
    have HB5 := Lib.hid hB5
    clear hB5
    by_cases hMn : M < n
    · obtain rfl : gone = true := by rw [hgone, decide_eq_true hMn]
      have hMi : (M : Int) < (n : Int) := by omega
      clear hgone
      go_wp2_with fail
      refine (waiting_any SY.out.dk).mono ?_
      rintro e w6 ⟨v, ss, rfl, hW, hrow, hb6⟩
      obtain rfl := waits_one hW SW.out
      obtain ⟨A6, c6, rfl⟩ : ∃ A6 c6, v = .slice A6 M c6 := by
        have hl := upTo_len M
        rcases hrow.2 with ⟨rfl, e⟩ | ⟨g, cap, cur, rfl, _⟩
        · exact ⟨none, 0, by rw [← e, hl]⟩
        · exact ⟨_, cap, by rw [hl]⟩
      have B6 := Lib.hid (HB5.out w6 hb6)
      clear hW hrow hb6
      go_wp2
      go_ret
      exact ⟨rfl, by rw [EB.out]; exact B6.out⟩
    · obtain rfl : gone = false := by rw [hgone, decide_eq_false hMn]
      have hMi : ¬ (M : Int) < (n : Int) := by omega
      clear hgone
      go_wp2_with fail
      refine (waiting_any SY.out.dk).mono ?_
      rintro e w6 ⟨v, ss, rfl, hW, hrow, hb6⟩
      obtain rfl := waits_one hW SW.out
      obtain ⟨A6, c6, rfl⟩ : ∃ A6 c6, v = .slice A6 M c6 := by
        have hl := upTo_len M
        rcases hrow.2 with ⟨rfl, e⟩ | ⟨g, cap, cur, rfl, _⟩
        · exact ⟨none, 0, by rw [← e, hl]⟩
        · exact ⟨_, cap, by rw [hl]⟩
      have B6 := Lib.hid (HB5.out w6 hb6)
      clear hW hrow hb6
      go_wp2
      go_ret
      exact ⟨rfl, by rw [EB.out]; exact B6.out⟩

theorem byte_nat {a : Int} (h : (Lit.int .u8 a).wf = true) : ∃ n : Nat, a = (n : Int) ∧ n ≤ 255 := by
  have hb : 0 ≤ a ∧ a ≤ 255 := by simpa [Lit.wf, IntKind.min, IntKind.max, IntKind.signed, IntKind.bits] using h
  exact ⟨a.toNat, by omega, by omega⟩
theorem diskGoes_all (x : Int) (hx : (Lit.int .u8 x).wf = true) (A : Option Addr) (n c : Nat) (l : Bytes) (w : World) (h : Has w A n l) : Calls Try.prog 5 #[.int .u8 x, .slice A n c] w fun e w' => e = .returned (.bool true) ∧ Below w.heap.size w w' := by
  obtain ⟨x, rfl, hx'⟩ := byte_nat hx
  exact diskGoes_walk x hx' A n c l w h

end Go.Proofs.Ytlcnpjkifokhdaa
