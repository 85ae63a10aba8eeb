/-
  WHAT THE CUT PUT COMES TO, WHETHER IT WAS CUT OR NOT; A DISK'S CYCLE AT THE RIG.
-/
import Derived.Test.YtapbphkhbhcdkaaGreatKeptW
namespace Go.Proofs.YtapbphkhbhcdkaaGreat
open Go.RowKit Go.Maps
set_option linter.unusedVariables false
set_option maxRecDepth 100000

section
variable {B : Nat} {w0 w w' : World} {R q cap : Nat} {P : Pl} {O : Nat → Prop} {s s' : AS} {hb m : Nat} {H : Hv} {d : DS}
theorem cut_out {t : Int} {f : BitVec 8} {gone : Bool} (hQ : KeptW s H) (hw : s.Wf) (ht : 0 ≤ t ∧ t < s.N) (hc : CutR (s.at_ t) (partF s.M s.b.toNat t f) w P O s gone w') :
    ∃ s' l' O', Arl w' P O' s' l' ∧ (∀ k, O' k → O k ∨ w.heap.size ≤ k) ∧ But O w w' ∧ Same s s' ∧ s'.u ≤ s.u + 20 ∧ ∀ s2 keep, CycTo keep s'.M s' s2 → Kept s2 (if gone then H.del t else H.set t f) := by
  rcases hc with ⟨rfl, s', l', ⟨O', k1, k2, k3⟩, hP⟩ | ⟨rfl, s', ⟨O', k1, k2, k3⟩, hr⟩
  · cases hP with
    | done hr htold =>
      refine ⟨s', l', O', k1, k2, k3, hr.same, by have := hr.u.2; omega, fun s2 keep hC => ?_⟩
      have := put_cycle (put_keptW.step s s' H t f hQ hw ht.1 ht.2 hr htold) hC
      simpa using this
  · refine ⟨s', 0, O', k1, k2, k3, hr.same, by have := hr.u.2; omega, fun s2 keep hC => ?_⟩
    have := cut_cycle (w := w) (w' := w') (P := P) (O := O) hQ hr hC
    simpa using this

theorem Ay.hurt2 {T : Nat → Nat → Prop} (h : Ay w P T s) (hm : m < s.M) (hd : Dk w' (P.g m) P.p (T (4 + m)) d) (hb : But (T (4 + m)) w w') (h1 : d.sectors = (s.d m).sectors) (h2 : d.size = (s.d m).size) (h3 : d.writes = (s.d m).writes) : Ay w' P T (s.hurt m d) := by
  have off : ∀ j, j ≠ 4 + m → ∀ k, T j k → ¬ T (4 + m) k := fun j hj k hk e => hj (h.ap _ _ _ hk e)
  refine
    { arr := h.arr.but hb (off 0 (by omega) _ h.t0)
      row := fun j hj => (hb.cell (p := ⟨P.r, j, none⟩) (h.lt _ _ h.t1) (off 1 (by omega) _ h.t1)).trans (h.row j hj)
      pw := At.but h.pw hb (off 2 (by omega) _ h.t2)
      nv := At.but h.nv hb (off 3 (by omega) _ h.t3)
      dk := ?_
      ap := h.ap
      t0 := h.t0
      t1 := h.t1
      t2 := h.t2
      t3 := h.t3
      lt := fun j k hk => Nat.lt_of_lt_of_le (h.lt _ _ hk) hb.size
      wf := ⟨h.wf.small, h.wf.sect, h.wf.some_, h.wf.u0, h.wf.st, ?_⟩ }
  · intro j hj
    show Dk w' (P.g j) P.p (T (4 + j)) (if j = m then d else s.d j)
    by_cases e : j = m
    · rw [if_pos e, e]; exact hd
    · rw [if_neg e]
      exact (h.dk j hj).but hb (off _ (by omega))
  · intro j hj
    show (if j = m then d else s.d j).sectors = s.S ∧ ((if j = m then d else s.d j).size : Int) = s.b ∧ ∀ q, 0 ≤ (if j = m then d else s.d j).writes q ∧ (if j = m then d else s.d j).writes q ≤ s.u
    have k := h.wf.each j hj
    by_cases e : j = m
    · rw [if_pos e, h1, h2, h3, ← e]; exact k
    · rw [if_neg e]; exact k
/-- A member goes through the outage. -/
theorem cycle_sys {keep : Nat} (hk : keep < 18446744073709551616) (hm : m < s.M) (h : Lw B w0 w R q cap P O s hb H) : Calls Tryz.prog 14 #[ptr (P.g m), .int .u64 (keep : Int)] w fun e w' => e = .returned (.tuple #[]) ∧ ∃ ss, Waits (s.d m) ss ∧ Lw B w0 w' R q cap P O (s.hurt m ((s.d m).cycle keep ss)) hb H ∧ But O w w' := by
  obtain ⟨T, hA, hO⟩ := h.sys.rg.arr
  refine (cycle_any keep hk (hA.dk m hm)).mono ?_
  rintro e w' ⟨ss, rfl, hW, hd, hb'⟩
  have b2 : But O w w' := hb'.mono (fun k e _ => (hO k).2 ⟨4 + m, e⟩)
  have a2 : Arr w' P O (s.hurt m ((s.d m).cycle keep ss)) := ⟨T, hA.hurt2 hm hd hb' rfl rfl rfl, hO⟩
  exact ⟨rfl, ss, hW, h.keep (Same.hurt s m _) a2 b2, b2⟩
end
end Go.Proofs.YtapbphkhbhcdkaaGreat
