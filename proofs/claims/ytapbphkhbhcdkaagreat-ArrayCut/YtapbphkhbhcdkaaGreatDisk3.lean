/-
  THE WALKS OF Waiting, Writes, Flush, Blank AND Cycle.
-/
import Derived.Test.YtapbphkhbhcdkaaGreatDisk2
import Derived.Test.YtapbphkhbhcdkaaGreatLay
namespace Go.Proofs.YtapbphkhbhcdkaaGreat
open Go.RowKit Go.Maps Go.Shelf
set_option linter.unusedVariables false
set_option maxRecDepth 100000

/-- What stands in the second, else in the first. -/
def over {α : Type} (f h : Int → Option α) : Int → Option α := fun i => match h i with | some v => some v | none => f i

theorem valAt_merge {w : World} {bd bs nd ns : Nat} {Dd Ds : DataW Value} (hd : w.ownsMap Tryz.prog 3 raw bd nd Dd) (hs : w.ownsMap Tryz.prog 3 raw bs ns Ds) {i : Int} (hi : In64 i) : valAt (Lib.mergeD Dd Ds) i = over (valAt Dd) (valAt Ds) i := by
  have hh := at_some hs hi
  obtain ⟨es, hD, hpw, hk⟩ := hs.entries keyed
  subst hD
  have e1 := Maps.atKey_foldPut (key i) .nil es Dd hd.isMap hk hpw
  have e0 : valAt (Lib.mergeD Dd (.map es)) i = valAt (es.foldl (fun D p => D.put p.1 p.2) Dd) i := rfl
  rw [e0]
  unfold over
  cases e3 : es.find? (fun p => p.1.sameKey (key i)) with
  | none =>
    rw [e3] at e1
    simp only at e1
    have e4 : valAt (.map es) i = none := by
      unfold valAt
      rw [DataW.atKey, e3]
    rw [e4]
    show valAt _ i = valAt Dd i
    unfold valAt
    rw [e1]
  | some q =>
    rw [e3] at e1
    simp only at e1
    rcases hh with ⟨h1, h2⟩ | ⟨v, h1, h2, h3⟩
    · have e2 : es.find? (fun p => p.1.sameKey (key i)) = none := List.find?_eq_none.2 (fun p hp => by simpa using (List.any_eq_false.1 h1) p hp)
      rw [e2] at e3
      cases e3
    · have h4 := h3 .nil
      rw [DataW.atKey, e3] at h4
      simp only at h4
      rw [h2]
      unfold valAt
      rw [e1, h4]

theorem valAt_in64 {w : World} {b n : Nat} {D : DataW Value} (h : w.ownsMap Tryz.prog 3 raw b n D) {i : Int} (hv : valAt D i ≠ none) : In64 i := by
  obtain ⟨es, hD, hk⟩ := h.keysOf
  subst hD
  cases e3 : es.find? (fun p => p.1.sameKey (key i)) with
  | none =>
    exfalso
    apply hv
    unfold valAt
    rw [DataW.atKey, e3]
  | some q =>
    have h1 := List.mem_of_find?_eq_some e3
    have h2 := List.find?_some e3
    obtain ⟨v, hv⟩ := hk q h1
    obtain ⟨x, _, hx, hw⟩ := Maps.keyOf_i64 Tryz.underlying3 hv
    have h3 := WideAt.sameKey_eq h2
    rw [hx] at h3
    injection h3 with _ h3
    subst h3
    simp [Lit.wf, IntKind.min, IntKind.max, IntKind.signed, IntKind.bits] at hw
    unfold In64
    omega

theorem copy_any (bd bs : Nat) (fd fs : Int → Option Value) (S : Nat) (w : World) (hd : Mp w bd fd) (hs : Mp w bs fs) (hne : bd ≠ bs) (hu : Under fd S) (hv : Under fs S) (hS : S ≤ 1000000000) :
    Calls Tryz.prog 124 #[.map (some bd), .map (some bs)] w fun e w' => e = .returned (.tuple #[]) ∧ Mp w' bd (over fd fs) ∧ But (fun k => k = bd) w w' := by
  obtain ⟨Dd, od, hfd, h64⟩ := hd
  obtain ⟨Ds, os, hfs, k64⟩ := hs
  have s1 := size_under od hfd hu
  have s2 := size_under os hfs hv
  have h := AnyX.maps_Copy copyA keyed raw bd bs (Maps.size Dd) (Maps.size Ds) Dd Ds w od os hne (by unfold maxLen; omega)
  change Calls Tryz.prog 124 _ _ _ at h
  refine h.mono ?_
  rintro e w' ⟨rfl, h1, _, hg⟩
  refine ⟨rfl, ⟨Lib.mergeD Dd Ds, ?_, ?_, ?_⟩, ⟨hg.os, hg.tape, hg.output, hg.size, fun k hk hn => hg.block k hk (fun e => hn (by injection e))⟩⟩
  · obtain ⟨es, clock, hb, F, _, hD⟩ := h1
    refine ⟨es, clock, hb, F, ?_, hD⟩
    rw [hD]
    simp [Maps.size, length_sorted]
  · intro i
    by_cases hi : In64 i
    · rw [valAt_merge od os hi]
      unfold over
      rw [← hfs i, ← hfd i]
    · have e1 : fs i = none := by
        cases hc : fs i with
        | none => rfl
        | some v => exact absurd (k64 i (by rw [hc]; simp)) hi
      have e2 : fd i = none := by
        cases hc : fd i with
        | none => rfl
        | some v => exact absurd (h64 i (by rw [hc]; simp)) hi
      unfold over
      rw [e1, e2]
      cases hc : valAt (Lib.mergeD Dd Ds) i with
      | none => rfl
      | some v =>
        exact absurd (valAt_in64 h1 (by rw [hc]; simp)) hi
  · intro i hi
    unfold over at hi
    cases hc : fs i with
    | none => rw [hc] at hi; exact h64 i hi
    | some v => exact k64 i (by rw [hc]; simp)

section
variable {w : World} {g p : Nat} {T : Nat → Prop} {s : DS}

/-- Everything that waits is durable; nothing waits. -/
def DS.flush (s : DS) : DS := { s with on := over s.on s.wait, wait := fun _ => none }
def DS.fl (s : DS) (u : Int) : DS := if (s.op u).dead then s.op u else (s.op u).flush
theorem DS.fl_ok {s : DS} {u : Int} (h : (s.op u).dead = false) : s.fl u = (s.op u).flush := by simp [DS.fl, h]
theorem DS.fl_no {s : DS} {u : Int} (h : (s.op u).dead = true) : s.fl u = s.op u := by simp [DS.fl, h]

theorem Sect.over {w : World} {T Z : Nat → Prop} {size : Nat} {f h : Int → Option Value} {c d : Int → Option Bytes} (hf : Sect w T Z size f c) (hh : Sect w T Z size h d) : Sect w T Z size (over f h) (over c d) := by
  intro i
  rcases hh i with ⟨h1, h2⟩ | ⟨A, cap, l, h1, h2, h3⟩
  · have := hf i
    simpa [YtapbphkhbhcdkaaGreat.over, h1, h2] using this
  · exact .inr ⟨A, cap, l, by simp [YtapbphkhbhcdkaaGreat.over, h1], by simp [YtapbphkhbhcdkaaGreat.over, h2], h3⟩
theorem Under.over {f h : Int → Option Value} {S : Nat} (hf : Under f S) (hh : Under h S) : Under (over f h) S := by
  intro i hi
  unfold YtapbphkhbhcdkaaGreat.over at hi
  cases hc : h i with
  | none => rw [hc] at hi; exact hf i hi
  | some v => exact hh i (by rw [hc]; simp)

/-- Two of the maps turned: what is durable, what waits. -/
theorem Lies.turn {w w2 w3 : World} {bd bw bn : Nat} {fd fw fn fd' : Int → Option Value} {c : Int → Option Bytes} (h : Lies w g p T s bd bw bn fd fw fn) (hm : Mp w2 bd fd') (hb : But (fun k => k = bd) w w2) (hw : Mp w3 bw (fun _ => none)) (hb3 : But (fun k => k = bw) w2 w3)
    (hr : Sect w T (fun k => k = g ∨ k = bd ∨ k = bw ∨ k = bn) s.size fd' c) (hu : Under fd' s.sectors) : Lies w3 g p T { s with on := c, wait := fun _ => none } bd bw bn fd' (fun _ => none) fn := by
  obtain ⟨a1, a2, a3, a4, a5, a6⟩ := h.apart
  have b2 : But (fun k => k = bd ∨ k = bw) w w3 := (hb.mono (fun _ h _ => .inl h)).trans hb3 (fun _ h _ => .inr h)
  exact
    { h with
      at_ := h.at_.but b2 (fun h => h.elim a4 a5)
      on := hm.but hb3 a1
      wait := hw
      writes := h.writes.but b2 (fun h => h.elim (fun e => a2 e.symm) (fun e => a3 e.symm))
      rowsOn := hr.but b2 (fun k _ hk h => hk (h.elim (fun e => .inr (.inl e)) (fun e => .inr (.inr (.inl e)))))
      rowsWait := Sect.none _ _ _ _
      lt := fun k hk => Nat.lt_of_lt_of_le (h.lt k hk) b2.size
      underOn := hu
      underWait := fun _ h => absurd rfl h }

theorem last_over (s : DS) (i : Int) : s.last i = over s.on s.wait i := by
  unfold DS.last over
  cases s.wait i <;> rfl

set_option maxHeartbeats 800000 in
theorem flush_go (u l : Int) (h : Dk w g p T s) (hp : Pw w p u l) (hu : 0 ≤ u ∧ u ≤ 1000000) (hl : ¬ l = 0) (hm : l ≤ 9223372036854775807) :
    Calls Tryz.prog 120 #[.pointer (some ⟨g, 0, none⟩)] w fun e w' => e = .returned (.int .i64 (err (s.op u).dead)) ∧ Dk w' g p T (s.fl u) ∧ Pw w' p (u + 1) (less l) ∧ But (fun k => T k ∨ k = p) w w' := by
  have HD := Lib.hid h
  have HP := Lib.hid hp
  clear h hp
  go_enter Tryz.func120, Tryz.ntmps120
  go_wp2_with fail
  refine (operate_go u l HD.out HP.out hu hl hm).mono ?_
  rintro e w1 ⟨rfl, hd1, hp1, hb1⟩
  have D1 := Lib.hid hd1
  have P1 := Lib.hid hp1
  have B1 := Lib.hid hb1
  clear hd1 hp1 hb1
  cases hdd : (s.op u).dead
  · have HDD := Lib.hid hdd
    unfold err
    simp only [Bool.false_eq_true, if_false]
    obtain ⟨bd, bw, bn, fd, fw, fn, hL⟩ := D1.out
    obtain ⟨c0, c1, c2, c3, c4, c5, c6, c7⟩ := hL.cell
    have HL := Lib.hid hL
    clear hL c0 c1 c2 c5 c6 c7 hdd
    go_wp2_with fail
    go_region_with ((go_at_call 124; refine (copy_any bd bw fd fw s.sectors _ (HL.out.on.but (S := fun _ => False) ((But.refl _ _).drewN _) (fun h => h)) (HL.out.wait.but (S := fun _ => False) ((But.refl _ _).drewN _) (fun h => h)) HL.out.apart.1 HL.out.underOn HL.out.underWait HL.out.small.1).mono ?_; rintro e w2 ⟨rfl, hm2, hb2⟩))
    all_goals
      have hc4 : w2.cell? ⟨g, 4, none⟩ = some (.map (some bw)) := ((HL.out.at_.but (S := fun _ => False) ((But.refl _ _).drewN _) (fun h => h)).but hb2 HL.out.apart.2.2.2.1).cell 4
      obtain ⟨w3, hr3, hm3, hb3⟩ := (((HL.out.wait.but (S := fun _ => False) ((But.refl _ _).drewN _) (fun h => h)).but hb2 (fun e => HL.out.apart.1 e.symm))).clear Tryz.underlying87
      have M2 := Lib.hid hm2
      have B2 := Lib.hid (hb2.of_drewN _)
      have M3 := Lib.hid hm3
      have B3 := Lib.hid hb3
      clear hm2 hb2 hm3 hb3 c3 c4
      go_wp2
      go_ret
      have ho := HL.out.own
      have hlies := HL.out.turn M2.out B2.out M3.out B3.out (HL.out.rowsOn.over HL.out.rowsWait) (HL.out.underOn.over HL.out.underWait)
      have b13 : But (fun k => k = bd ∨ k = bw) w1 w3 := (B2.out.mono (fun _ h _ => .inl h)).trans B3.out (fun _ h _ => .inr h)
      refine ⟨by rw [HDD.out]; rfl, ?_, ?_, ?_⟩
      · rw [DS.fl_ok HDD.out]
        exact ⟨_, _, _, _, _, _, hlies⟩
      · refine P1.out.but b13 ?_
        rintro (e | e)
        · exact HL.out.np (e ▸ ho.2.1)
        · exact HL.out.np (e ▸ ho.2.2.1)
      · refine (B1.out.mono (T := fun k => T k ∨ k = p) ?_).trans b13 ?_
        · rintro k (rfl | rfl) _
          · exact .inl ho.1
          · exact .inr rfl
        · rintro k (rfl | rfl) _
          · exact .inl ho.2.1
          · exact .inl ho.2.2.1
  · have HDD := Lib.hid hdd
    clear hdd
    unfold err
    simp only [if_true]
    go_wp2
    go_ret
    refine ⟨by rw [HDD.out]; rfl, ?_, P1.out, B1.out.mono ?_⟩
    · rw [DS.fl_no HDD.out]
      exact D1.out
    · rintro k (rfl | rfl) _
      · exact .inl HD.out.own
      · exact .inr rfl

end

end Go.Proofs.YtapbphkhbhcdkaaGreat
