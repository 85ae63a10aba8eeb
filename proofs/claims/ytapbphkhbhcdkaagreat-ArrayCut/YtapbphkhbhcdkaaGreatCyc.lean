/-
  THE WALK OF Cycle.
-/
import Derived.Test.YtapbphkhbhcdkaaGreatWtg
import Derived.Test.YtapbphkhbhcdkaaGreatDisk4
namespace Go.Proofs.YtapbphkhbhcdkaaGreat
open Go.RowKit Go.Maps Go.Shelf
set_option linter.unusedVariables false
set_option maxRecDepth 100000

section
variable {w w' : World} {g p : Nat} {T : Nat → Prop} {s : DS}
/-- Of the sectors ss the first k: does i stay? -/
def kept (keep : Nat) (ss : List Int) (i : Int) : Nat → Bool
  | 0 => false
  | k + 1 => kept keep ss i k || (decide (ss.getD k 0 = i) && keep.testBit (k % 64))
/-- What is durable when the first k of the waiting sectors ss were settled. -/
def mix {α : Type} (keep : Nat) (ss : List Int) (k : Nat) (on wait : Int → Option α) : Int → Option α := fun i => if kept keep ss i k then wait i else on i
def DS.cycle (s : DS) (keep : Nat) (ss : List Int) : DS := { s with on := mix keep ss ss.length s.on s.wait, wait := fun _ => none }

theorem mix_zero {α : Type} (keep : Nat) (ss : List Int) (on wait : Int → Option α) : mix keep ss 0 on wait = on := rfl
theorem mix_stay {α : Type} {keep : Nat} {ss : List Int} {k : Nat} (on wait : Int → Option α) (h : keep.testBit (k % 64) = false) : mix keep ss (k + 1) on wait = mix keep ss k on wait := by
  funext i
  simp [mix, kept, h]
theorem mix_upd {keep : Nat} {ss : List Int} {k : Nat} {x : Int} {v : Value} (on wait : Int → Option Value) (h : keep.testBit (k % 64) = true) (hx : ss.getD k 0 = x) (hv : wait x = some v) : mix keep ss (k + 1) on wait = upd (mix keep ss k on wait) x v := by
  funext i
  have e0 : kept keep ss i (k + 1) = (kept keep ss i k || (decide (x = i) && true)) := by rw [← hx, ← h]; rfl
  unfold upd mix
  rw [e0]
  by_cases e : i = x
  · subst e
    simp [hv]
  · have : ¬ x = i := fun h => e h.symm
    simp [this, e]
theorem bit_test (keep j : Nat) (h : keep < 18446744073709551616) : (bits BinOp.and IntKind.u64 ((keep : Int) / 2 ^ j) 1 == 1) = keep.testBit j := by
  have h0 : keep / 2 ^ j ≤ keep := Nat.div_le_self _ _
  have e : (keep : Int) / 2 ^ j = ((keep / 2 ^ j : Nat) : Int) := by
    rw [Int.natCast_ediv, Int.natCast_pow]
    rfl
  rw [e, show (1 : Int) = ((1 : Nat) : Int) from rfl, bits_and_u64_nat _ 1 (by omega) (by omega), Nat.testBit_eq_decide_div_mod_eq, Nat.and_one_is_mod]
  generalize keep / 2 ^ j % 2 = m
  by_cases hm : m = 1
  · simp [hm]
  · simp [hm]
    omega
theorem Sect.mix {w : World} {T Z : Nat → Prop} {size : Nat} {f h : Int → Option Value} {c d : Int → Option Bytes} (keep : Nat) (ss : List Int) (k : Nat) (hf : Sect w T Z size f c) (hh : Sect w T Z size h d) : Sect w T Z size (mix keep ss k f h) (mix keep ss k c d) := by
  intro i
  unfold YtapbphkhbhcdkaaGreat.mix
  cases kept keep ss i k
  · simpa using hf i
  · simpa using hh i
theorem Under.mix {f h : Int → Option Value} {S : Nat} (keep : Nat) (ss : List Int) (k : Nat) (hf : Under f S) (hh : Under h S) : Under (mix keep ss k f h) S := by
  intro i hi
  unfold YtapbphkhbhcdkaaGreat.mix at hi
  cases hc : kept keep ss i k
  · rw [hc] at hi; exact hf i hi
  · rw [hc] at hi; exact hh i hi

theorem waits_len (h : Dk w g p T s) {ss : List Int} (hW : Waits s ss) : ss.length ≤ s.sectors ∧ ∀ x ∈ ss, s.has x := by
  obtain ⟨bd, bw, bn, fd, fw, fn, h⟩ := h
  have hin : ∀ x ∈ ss, s.has x := fun x hx => h.underWait x (by
    have h1 := (hW.2 x).1 hx
    rw [← sect_some h.rowsWait x] at h1
    intro e
    rw [e] at h1
    cases h1)
  refine ⟨nodup_le _ _ (hW.1.imp (fun h => by omega)) hin, hin⟩
theorem row_cell {w : World} {base n c : Nat} {A : Option Addr} {ss : List Int} (h : w.ownsRow base 3 1 (.slice A n c) n (ss.map encZ)) (hn : ss.length = n) {k : Nat} (hk : k < n) :
    ∃ gr o0, A = some ⟨gr, o0, none⟩ ∧ base ≤ gr ∧ gr < w.heap.size ∧ w.cell? ⟨gr, o0 + k, none⟩ = some (.int .i64 (ss.getD k 0)) := by
  rcases h.2 with ⟨e, h0⟩ | ⟨g, cap, cur, e, hg, _⟩
  · omega
  · injection e with e1 e2 e3
    subst e1 e3
    refine ⟨g, 0, rfl, hg, (h.lt g rfl).2, ?_⟩
    have := h.cellAt (g := g) (cap := c) k (by omega)
    rw [Nat.zero_add, this, List.getElem?_map, List.getElem?_eq_getElem (by omega)]
    simp only [Option.map_some, List.getD_eq_getElem?_getD, List.getElem?_eq_getElem (show k < ss.length by omega), Option.getD_some]

/-- In the loop: the map of what is durable as it stands. -/
def Cyc (w wr : World) (bd bw : Nat) (fd fw : Int → Option Value) (keep : Nat) (ss : List Int) (k : Nat) : Prop := Mp wr bd (YtapbphkhbhcdkaaGreat.mix keep ss k fd fw) ∧ But (fun j => j = bd) w wr

set_option maxHeartbeats 1600000 in
theorem cycle_any (keep : Nat) (hk : keep < 18446744073709551616) (h : Dk w g p T s) : Calls Tryz.prog 14 #[.pointer (some ⟨g, 0, none⟩), .int .u64 (keep : Int)] w fun e w' => ∃ ss, e = .returned (.tuple #[]) ∧ Waits s ss ∧ Dk w' g p T (s.cycle keep ss) ∧ But T w w' := by
  have HD := Lib.hid h
  obtain ⟨bd, bw, bn, fd, fw, fn, hL⟩ := h
  have HL := Lib.hid hL
  clear hL
  go_enter Tryz.func14, Tryz.ntmps14
  go_wp2_with fail
  refine (waiting_any HD.out).mono ?_
  rintro e w1 ⟨v, ss, rfl, hW, hrow, hb⟩
  have L1 := Lib.hid (HL.out.but (S := fun _ => False) (But.of_below hb) (fun _ _ h => h))
  have WW := Lib.hid hW
  have RW := Lib.hid hrow
  have B1 := Lib.hid hb
  obtain ⟨A, cap, rfl⟩ : ∃ A cap, v = .slice A ss.length cap := by
    rcases hrow.2 with ⟨rfl, e⟩ | ⟨g, cap, cur, rfl, _⟩
    · exact ⟨none, 0, by rw [e]⟩
    · exact ⟨_, cap, rfl⟩
  clear hW hrow hb
  generalize hn : ss.length = n
  have HN := Lib.hid hn
  clear hn
  go_wp2
  have hn9 : n ≤ 1000000000 := by
    have h1 := (waits_len HD.out WW.out).1
    rw [HN.out] at h1
    have := HL.out.small.1
    omega
  go_loopw [9] (fun i wr => ∃ k : Nat, k ≤ n ∧ i = .int .i64 k ∧ Cyc w1 wr bd bw fd fw keep ss k) (fun i _ => n - (intOf i).toNat)
  case atStart => exact ⟨0, Nat.zero_le _, rfl, L1.out.on, But.refl _ _⟩
  case round =>
    obtain ⟨k, hk', rfl, hC⟩ := hrel
    have HC := Lib.hid hC
    clear hC
    have hap := L1.out.apart
    have HAP := Lib.hid hap
    have c3 : wr.cell? ⟨g, 3, none⟩ = some (.map (some bd)) := (L1.out.at_.but HC.out.2 hap.2.2.2.1).cell 3
    have c4 : wr.cell? ⟨g, 4, none⟩ = some (.map (some bw)) := (L1.out.at_.but HC.out.2 hap.2.2.2.1).cell 4
    have mw : Mp wr bw fw := L1.out.wait.but HC.out.2 (fun e => hap.1 e.symm)
    have MW := Lib.hid mw
    clear hap mw
    by_cases hlt : k < n
    · have hR := RW.out
      rw [HN.out] at hR
      obtain ⟨b0, o0, rfl, hbase, hlt0, hcell⟩ := row_cell hR HN.out hlt
      have hne : ¬ b0 = bd := by
        have := HL.out.lt _ HL.out.own.2.1
        omega
      have hce : wr.cell? ⟨b0, o0 + k, none⟩ = some (.int .i64 (ss.getD k 0)) := (HC.out.2.cell (p := ⟨b0, o0 + k, none⟩) hlt0 hne).trans hcell
      have hmem : ss.getD k 0 ∈ ss := by
        rw [List.getD_eq_getElem?_getD, List.getElem?_eq_getElem (by rw [HN.out]; exact hlt)]
        exact List.getElem_mem _
      generalize hx : ss.getD k 0 = x at hce hmem
      have hwx := (WW.out.2 x).1 hmem
      rw [← sect_some HL.out.rowsWait x] at hwx
      obtain ⟨vx, hvx⟩ := Option.isSome_iff_exists.1 hwx
      have hx64 : In64 x := in64_of HD.out ((waits_len HD.out WW.out).2 x hmem)
      have HX := Lib.hid hx
      have HV := Lib.hid hvx
      have HX64 := Lib.hid hx64
      have hbt := bit_test keep (k % 64) hk
      have e1 : wrap64 ((k : Int) + 1) = (k : Int) + 1 := by unfold wrap64; omega
      clear hR hcell hmem hwx hx hvx hx64 hne hbase hlt0
      cases ht : keep.testBit (k % 64)
      · rw [ht] at hbt
        have HT := Lib.hid ht
        clear ht
        go_wp2
        go_roundw
        case rel =>
          refine ⟨k + 1, by omega, by go_num, ?_, HC.out.2⟩
          rw [mix_stay fd fw HT.out]
          exact HC.out.1
        case measure => simp [intOf]; omega
      · rw [ht] at hbt
        have HT := Lib.hid ht
        clear ht
        have hlk := (MW.out.but (S := fun _ => False) (But.refl _ _).drew (fun h => h)).look (w := wr.drew) Tryz.underlying87 (zero28 _) HX64.out (u := vx) (by rw [HV.out]; rfl)
        obtain ⟨w2, hr2, hm2, hb2⟩ := (HC.out.1.but (S := fun _ => False) (But.refl _ _).drew (fun h => h)).store (w := wr.drew) Tryz.underlying87 (S := s.sectors) (HL.out.underOn.mix keep ss k HL.out.underWait) (by have := HL.out.small; unfold maxLen; omega) HX64.out vx
        have M2 := Lib.hid hm2
        have B2 := Lib.hid hb2
        clear hm2 hb2
        go_wp2
        go_region
        go_wp2
        go_roundw
        case rel =>
          refine ⟨k + 1, by omega, by go_num, ?_, HC.out.2.drew.trans B2.out (fun _ h _ => h)⟩
          rw [mix_upd fd fw HT.out HX.out HV.out]
          exact M2.out
        case measure => simp [intOf]; omega
    · have e0 : k = n := by omega
      subst e0
      obtain ⟨w3, hr3, hm3, hb3⟩ := MW.out.clear Tryz.underlying87
      have M3 := Lib.hid hm3
      have B3 := Lib.hid hb3
      clear hm3 hb3
      go_wp2
      go_end0
      have hlies := L1.out.turn HC.out.1 HC.out.2 M3.out B3.out (L1.out.rowsOn.mix keep ss k L1.out.rowsWait) (L1.out.underOn.mix keep ss k L1.out.underWait)
      have ho := L1.out.own
      have hcyc : s.cycle keep ss = { s with on := mix keep ss k s.on s.wait, wait := fun _ => none } := by
        unfold DS.cycle
        rw [HN.out]
      refine ⟨ss, rfl, WW.out, ?_, ?_⟩
      · rw [hcyc]
        exact ⟨_, _, _, _, _, _, hlies⟩
      · refine ((But.of_below (S := T) B1.out).trans HC.out.2 ?_).trans B3.out ?_
        · rintro i rfl _; exact ho.2.1
        · rintro i rfl _; exact ho.2.2.1
end

end Go.Proofs.YtapbphkhbhcdkaaGreat
