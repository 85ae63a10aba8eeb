/-
  THE WALK OF THE LAW'S holds.
-/
import Derived.Test.YtapbphkhbhcdkaaGreatLawPut
namespace Go.Proofs.YtapbphkhbhcdkaaGreat
open Go.RowKit Go.Maps
set_option linter.unusedVariables false
set_option maxRecDepth 100000

/-- What is kept while chunks are read, whether the array may be broken or not. -/
structure ReadInv (broken : Bool) (Q : AS → Hv → Prop) : Prop where
  right : ∀ s H, Q s H → s.broken = false → Inv s H
  read : ∀ s s' H, Q s H → Rel (fun _ => Aged) 12 s s' → Q s' H
  gone : ∀ s s' H, Q s H → Gone 12 s s' → broken = true ∧ Q s' H
theorem zero5 (w : World) : (zeroValue 5).run Tryz.prog w = .ok (.int .u8 0) w := by kernel_rfl

section
variable {B : Nat} {w0 w w' : World} {R q cap : Nat} {P : Pl} {O : Nat → Prop} {s : AS} {hb : Nat} {H : Hv}
/-- What the law's holds comes to. -/
def HoldsDone (Q : AS → Hv → Prop) (B : Nat) (w0 w : World) (R q cap : Nat) (P : Pl) (O : Nat → Prop) (s : AS) (hb : Nat) (H : Hv) (c : Int) (w' : World) : Prop :=
  ∃ s', Lw B w0 w' R q cap P O s' hb H ∧ Same s s' ∧ Q s' H ∧ s'.u ≤ s.u + c ∧ But O w w'
theorem Sys.shape (h : Sys B w0 w R q cap P O s) : w.cell? ⟨R, 0, none⟩ = some (.int .i64 (s.M : Int)) ∧ w.cell? ⟨R, 1, none⟩ = some (.int .i64 s.b) ∧ w.cell? ⟨R, 2, none⟩ = some (.int .i64 s.g) ∧ w.cell? ⟨R, 3, none⟩ = some (.int .i64 s.s) ∧ w.cell? ⟨R, 4, none⟩ = some (.int .i64 s.n) ∧ w.cell? ⟨R, 5, none⟩ = some (.int .i64 s.l) :=
  ⟨h.rg.rig.cell 0, h.rg.rig.cell 1, h.rg.rig.cell 2, h.rg.rig.cell 3, h.rg.rig.cell 4, h.rg.rig.cell 5⟩

set_option maxHeartbeats 3200000 in
theorem holds_any (broken : Bool) (Q : AS → Hv → Prop) (hQ : ReadInv broken Q) (h : Lw B w0 w R q cap P O s hb H) (hq : Q s H) (hu : s.u ≤ 600000) :
    Calls Tryz.prog 15 #[ptr R, .map (some hb), .bool broken] w fun e w' => e = .returned (.bool true) ∧ HoldsDone Q B w0 w R q cap P O s hb H 1000 w' := by
  have LW := Lib.hid h
  have HQ := Lib.hid hq
  have RI := Lib.hid hQ
  have HN := Lib.hid h.sys.rg.arr.wf.n
  obtain ⟨c0, c1, c2, c3, c4, c5⟩ := h.sys.shape
  clear h hq hQ
  go_enter Tryz.func15, Tryz.ntmps15
  go_wp2_with fail
  refine (all_call LW.out.sys.rg.arr.wf w).mono ?_
  rintro e w1 ⟨rfl, hbl⟩
  have L1 := Lib.hid (LW.out.up hbl)
  have B1 := Lib.hid (But.of_below (S := O) hbl)
  clear hbl c0 c1 c2 c3 c4 c5
  go_wp2_with fail
  obtain ⟨N, hN⟩ : ∃ N : Nat, s.N = (N : Int) := ⟨s.N.toNat, by have := HN.out; omega⟩
  have EN := Lib.hid hN
  have n18 : N ≤ 18 := by have := HN.out; omega
  rw [hN]
  clear hN
  go_loopw [19] (fun i wr => ∃ j : Nat, j ≤ N ∧ i = .int .i64 (j : Int) ∧ HoldsDone Q B w0 w R q cap P O s hb H (48 * (j : Int)) wr) (fun i _ => N - (RowKit.intOf i).toNat)
  case atStart => exact ⟨0, Nat.zero_le _, rfl, s, L1.out, Same.refl s, HQ.out, by omega, B1.out⟩
  case round =>
    obtain ⟨j, hj, rfl, s1, k1, k2, k3, k4, k5⟩ := hrel
    have L2 := Lib.hid k1
    have S2 := Lib.hid k2
    have Q2 := Lib.hid k3
    have U2 := Lib.hid k4
    have B2 := Lib.hid k5
    clear k1 k2 k3 k4 k5 L1 B1
    by_cases hlt : j < N
    · have i64 : In64 (j : Int) := by unfold In64; omega
      cases hf : H (j : Int) with
      | none =>
        have hl := L2.out.map.look_ok Tryz.underlying35 (zero5 wr) i64 (u := .int .u8 0) (by unfold Hv.vals; rw [hf]; rfl) (ok := false) (by unfold Hv.vals; rw [hf]; rfl)
        clear i64 hf
        go_wp2
        go_roundw
        case rel => exact ⟨j + 1, by omega, by go_num, s1, L2.out, S2.out, Q2.out, by have := U2.out; omega, B2.out⟩
        case measure => simp [RowKit.intOf]; omega
      | some f =>
        have hl := L2.out.map.look_ok Tryz.underlying35 (zero5 wr) i64 (u := .int .u8 (f.toNat : Int)) (by unfold Hv.vals; rw [hf]; rfl) (ok := true) (by unfold Hv.vals; rw [hf]; rfl)
        have HF := Lib.hid hf
        obtain ⟨c0, c1, c2, c3, c4, c5⟩ := L2.out.sys.shape
        have nb1 : (s1.b.toNat : Int) = s1.b := by have := L2.out.sys.rg.arr.wf.small.hb; omega
        have NB := Lib.hid nb1
        have b48 := Lib.hid L2.out.sys.rg.arr.wf.small.hb
        have hMs := L2.out.sys.rg.arr.many
        clear i64 hf nb1
        go_wp2_with fail
        refine (Chunks_any s1.M s1.b s1.g s1.s s1.n s1.l s1.b.toNat NB.out.symm (by have := b48.out; omega) (by omega) f _ rfl wr).mono ?_
        rintro e w4 ⟨v, L, rfl, hcl, hll, hlm, hln, hbl⟩
        have L4 := Lib.hid (L2.out.up hbl)
        have B4 := Lib.hid (B2.out.trans (But.of_below (S := fun _ => False) hbl) (fun _ h _ => h.elim))
        obtain ⟨WB, hWB⟩ : ∃ WB, WB = wr.heap.size := ⟨_, rfl⟩
        rw [← hWB] at hcl
        have CL := Lib.hid hcl
        have LL := Lib.hid hll
        have LM := Lib.hid hlm
        have LN := Lib.hid hln
        have NO := Lib.hid (show ∀ k, WB ≤ k → ¬ O k from fun k hk => (L2.out.sys.new k (by omega)).1)
        obtain ⟨A5, c5', rfl, _⟩ := hcl.ln (by omega)
        have l4 : L.length ≤ 4 := by omega
        clear hcl hll hlm hln hbl hl hWB c0 c1 c2 c3 c4 c5
        go_wp2_with fail
        go_loopw [37] (fun i wx => ∃ k : Nat, k ≤ L.length ∧ i = .int .i64 (k : Int) ∧ HoldsDone Q B w0 w R q cap P O s hb H (48 * (j : Int) + 12 * (k : Int)) wx ∧ Cl wx WB (.slice A5 L.length c5') L) (fun i _ => L.length - (RowKit.intOf i).toNat)
        case atStart => exact ⟨0, Nat.zero_le _, rfl, ⟨s1, L4.out, S2.out, Q2.out, by have := U2.out; omega, B4.out⟩, CL.out⟩
        case round =>
          obtain ⟨k, hk, rfl, ⟨s2, k1, k2, k3, k4, k5⟩, k6⟩ := hrel
          have L5 := Lib.hid k1
          have S5 := Lib.hid k2
          have Q5 := Lib.hid k3
          have U5 := Lib.hid k4
          have B5 := Lib.hid k5
          have C5 := Lib.hid k6
          clear k1 k2 k3 k4 k5 k6 L4 B4 CL
          by_cases hltk : k < L.length
          · obtain ⟨A6, c6, e6, hln6⟩ := C5.out.ln (by omega)
            injection e6 with e7 _ e8
            subst e7 e8
            obtain ⟨hjl, b, off, rfl, hc, hh, hx⟩ := hln6.one hltk
            have HH := Lib.hid hh
            have LK := Lib.hid (show (L[k]).l = chunkB s.b.toNat f k by
              have h1 : (L.map Sl.l)[k]? = ((List.range (s1.M - 1)).map (chunkB s1.b.toNat f))[k]? := by rw [LM.out]
              rw [List.getElem?_map, List.getElem?_map, List.getElem?_eq_getElem hjl, List.getElem?_range (by have := LL.out; omega)] at h1
              rw [← S2.out.b]
              simpa using h1)
            have NK := Lib.hid (show (L[k]).n ≤ 48 from C5.out.len _ (List.getElem_mem hjl))
            have KS := Lib.hid (show k < s2.M - 1 by rw [S5.out.M, ← S2.out.M]; have := LL.out; omega)
            have no6 : ∀ a, (L[k]).A = some a → ¬ O a.block := fun a ha => NO.out _ (C5.out.off _ (List.getElem_mem hjl) a ha).2.1
            have NO6 := Lib.hid no6
            clear hln6 hh no6
            generalize L[k] = y at *
            obtain ⟨yA, yn, yc, yl⟩ := y
            simp only at hc hx
            have r9 := L5.out.cells.2.2.2.2
            have hM2 := L5.out.sys.rg.arr.many
            obtain ⟨m, hm⟩ : ∃ m : Nat, ((j : Int) + 1 + (k : Int)) % (s2.M : Int) = (m : Int) := ⟨(((j : Int) + 1 + (k : Int)) % (s2.M : Int)).toNat, by have := Int.emod_nonneg ((j : Int) + 1 + (k : Int)) (show (s2.M : Int) ≠ 0 by omega); omega⟩
            have HM := Lib.hid hm
            have TN := Lib.hid (show 0 ≤ (j : Int) ∧ (j : Int) < s2.N by rw [S5.out.N, EN.out]; omega)
            clear hm
            go_wp2_with fail
            refine (Chunk_any (j : Int) (k : Int) m TN.out (by have := KS.out; omega) HM.out L5.out.sys.rg.arr (by have := U5.out; omega)).mono ?_
            rintro e w6 ⟨v, er, s3, rfl, k1, k2, k3⟩
            have C6 := Lib.hid (C5.out.keep k2 NO.out)
            have H6 := Lib.hid (HH.out.but k2 NO6.out)
            have B6 := Lib.hid (B5.out.trans k2 (fun _ h _ => h))
            have sm : Same s2 s3 := by
              cases k3 with
              | got _ hr _ _ _ _ => exact hr.same
              | rest _ hr _ _ => exact hr.same
              | gone hg => exact hg.same
            have L6 := Lib.hid (L5.out.keep sm k1 k2)
            have S6 := Lib.hid (S5.out.trans sm)
            have X6 := Lib.hid k3
            have A6 := Lib.hid k1
            clear k1 k2 sm hc r9
            by_cases h0 : er = 0
            · subst h0
              have hwh : s2.broken = false := by
                have k4 := X6.out
                generalize hz : (0 : Int) = z at k4
                cases k4 with
                | got _ hr _ _ _ _ => exact hr.whole.1
                | rest _ hr _ _ => exact hr.whole.1
                | gone hg => cases hz
              obtain ⟨hr, hv⟩ := inv_chunk L5.out.sys.rg.arr.wf (RI.out.right s2 H Q5.out hwh) TN.out KS.out HM.out HF.out X6.out
              have Q6 := Lib.hid (RI.out.read s2 s3 H Q5.out hr)
              have U6 := Lib.hid (show s3.u ≤ s.u + (48 * (j : Int) + 12 * ((k + 1 : Nat) : Int)) by have := hr.u.2; have := U5.out; omega)
              obtain ⟨A7, c7, rfl, h7, _, _⟩ := own_form hv
              rw [chunk_len] at h7
              have eb : s2.b.toNat = s.b.toNat := by rw [S5.out.b]
              have H7 := Lib.hid h7
              have EB := Lib.hid eb
              clear hr hv h7 eb hwh X6
              rw [chunk_len]
              cases broken
              · go_wp2_with fail
                refine (equal_any A7 yA s2.b.toNat yn c7 yc _ yl w6 (by have := H7.out.1; rw [chunk_len] at this; have := b48.out; rw [EB.out, ← S2.out.b]; omega) (by have := NK.out; omega) H7.out H6.out).mono ?_
                rintro e w7 ⟨rfl, m7, hw7⟩
                rw [decide_eq_true (show chunkB s2.b.toNat f k = yl by rw [EB.out]; exact LK.out.symm)]
                have L7 := Lib.hid (show Lw B w0 w7 R q cap P O s3 hb H by rw [hw7]; exact L6.out.drewN m7)
                have B7 := Lib.hid (show But O w w7 by rw [hw7]; exact B6.out.drewN m7)
                have C7 := Lib.hid (show Cl w7 WB (.slice (some ⟨b, off, none⟩) L.length c5') L by rw [hw7]; exact C6.out.keep (S := fun _ => False) ((But.refl _ _).drewN m7) (fun _ _ h => h))
                clear hw7
                go_wp2
                go_roundw
                case rel => exact ⟨k + 1, by omega, by go_num, ⟨s3, L7.out, S6.out, Q6.out, U6.out, B7.out⟩, C7.out⟩
                case measure => simp [RowKit.intOf]; omega
              · go_wp2_with fail
                refine (equal_any A7 yA s2.b.toNat yn c7 yc _ yl w6 (by have := H7.out.1; rw [chunk_len] at this; have := b48.out; rw [EB.out, ← S2.out.b]; omega) (by have := NK.out; omega) H7.out H6.out).mono ?_
                rintro e w7 ⟨rfl, m7, hw7⟩
                rw [decide_eq_true (show chunkB s2.b.toNat f k = yl by rw [EB.out]; exact LK.out.symm)]
                have L7 := Lib.hid (show Lw B w0 w7 R q cap P O s3 hb H by rw [hw7]; exact L6.out.drewN m7)
                have B7 := Lib.hid (show But O w w7 by rw [hw7]; exact B6.out.drewN m7)
                have C7 := Lib.hid (show Cl w7 WB (.slice (some ⟨b, off, none⟩) L.length c5') L by rw [hw7]; exact C6.out.keep (S := fun _ => False) ((But.refl _ _).drewN m7) (fun _ _ h => h))
                clear hw7
                go_wp2
                go_roundw
                case rel => exact ⟨k + 1, by omega, by go_num, ⟨s3, L7.out, S6.out, Q6.out, U6.out, B7.out⟩, C7.out⟩
                case measure => simp [RowKit.intOf]; omega
            · have hgn : er = 3 ∧ v = .slice none 0 0 ∧ Gone 12 s2 s3 := by
                have k4 := X6.out
                cases k4 with
                | got _ _ _ _ _ _ => exact absurd rfl h0
                | rest _ _ _ _ => exact absurd rfl h0
                | gone hg => exact ⟨rfl, rfl, hg⟩
              obtain ⟨rfl, rfl, hg⟩ := hgn
              obtain ⟨hbk, hq6⟩ := RI.out.gone s2 s3 H Q5.out hg
              have Q6 := Lib.hid hq6
              have U6 := Lib.hid (show s3.u ≤ s.u + (48 * (j : Int) + 12 * ((k + 1 : Nat) : Int)) by have := hg.u.2; have := U5.out; omega)
              have BK := Lib.hid hg.broken
              have r9 := L6.out.cells.2.2.2.2
              clear hg hq6 X6 h0
              subst hbk
              go_wp2_with fail
              refine (broken_any A6.out).mono ?_
              rintro e w6 ⟨rfl, rfl⟩
              rw [BK.out]
              go_wp2
              go_roundw
              case rel => exact ⟨k + 1, by omega, by go_num, ⟨s3, L6.out, S6.out, Q6.out, U6.out, B6.out⟩, C6.out⟩
              case measure => simp [RowKit.intOf]; omega
          · have ek : k = L.length := by omega
            subst ek
            have l5 : L.length ≤ 4 := l4
            go_wp2
            go_roundw
            case rel => exact ⟨j + 1, by omega, by go_num, s2, L5.out, S5.out, Q5.out, by have := U5.out; omega, B5.out⟩
            case measure => simp [RowKit.intOf]; omega
    · obtain rfl : j = N := by omega
      go_wp2
      go_ret
      exact ⟨rfl, s1, L2.out, S2.out, Q2.out, by have := U2.out; omega, B2.out⟩
end
end Go.Proofs.YtapbphkhbhcdkaaGreat
