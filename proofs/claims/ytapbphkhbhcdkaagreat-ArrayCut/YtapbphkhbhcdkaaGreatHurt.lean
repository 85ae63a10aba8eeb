/-
  ONE OF THE DISKS FAILS, OR IS GOING TO: the rig behind it; a rig on which nothing fails.
-/
import Derived.Test.YtapbphkhbhcdkaaGreatLawHolds
namespace Go.Proofs.YtapbphkhbhcdkaaGreat
open Go.RowKit
set_option linter.unusedVariables false
set_option maxRecDepth 100000

/-- One of the disks another one, that lies where it lay. -/
def AS.hurt (s : AS) (m : Nat) (d : DS) : AS := { s with d := fun j => if j = m then d else s.d j }
/-- Nothing fails. -/
def Calm (s : AS) : Prop := ∀ k, Sound k s
section
variable {B : Nat} {w0 w w' : World} {R q cap : Nat} {P : Pl} {O : Nat → Prop} {s s' : AS} {hb m : Nat} {H : Hv} {d : DS}
theorem Same.hurt (s : AS) (m : Nat) (d : DS) : Same s (s.hurt m d) := rfl
theorem init_calm (M : Nat) (b g s n l : Int) (S z : Nat) : Calm (AS.init M b g s n l S z) := fun k => ⟨rfl, .inl rfl, fun i _ _ => ⟨rfl, by show (-1 : Int) < 0; decide⟩⟩
theorem Calm.rel {Q : Nat → DS → DS → Prop} {c : Int} (h : Calm s) (k : Rel Q c s s') : Calm s' := fun i => k.sound i (h i)
theorem Calm.live (h : Calm s) {i : Nat} (hi : i < s.M) : Live (s.d i) := (h (i + 1)).live i hi (by omega)
theorem Calm.stale (h : Calm s) : s.stale = -1 := by
  rcases (h 0).stale with e | e
  · exact e
  · rcases (h 1).stale with e2 | e2
    · exact e2
    · omega
theorem Calm.whole (h : Calm s) : s.broken = false := (h 0).whole
theorem inv_none (s : AS) : Inv s (fun _ => none) := by intro m _ _ t f _ _ h; cases h
theorem Sound.hurt {k : Nat} (h : Sound k s) (d : DS) : Sound k (s.hurt k d) :=
  ⟨h.whole, h.stale, fun i hi hne => by show Live (if i = k then d else s.d i); rw [if_neg hne]; exact h.live i hi hne⟩
theorem inv_hurt (h : Inv s H) (hr : d.read = (s.d m).read) : Inv (s.hurt m d) H := by
  intro i hi hs t f h0 h1 hf
  have := h i hi hs t f h0 h1 hf
  show (if i = m then d else s.d i).read (s.at_ t) = partF s.M s.b.toNat t f i
  by_cases e : i = m
  · rw [if_pos e, hr, ← e]; exact this
  · rw [if_neg e]; exact this
theorem Ay.hurt {T : Nat → Nat → Prop} (h : Ay w P T s) (hm : m < s.M) (hd : Dk w' (P.g m) P.p (T (4 + m)) d) (hb : But (fun k => k = P.g m) w w') (h1 : d.sectors = (s.d m).sectors) (h2 : d.size = (s.d m).size) (h3 : d.writes = (s.d m).writes) : Ay w' P T (s.hurt m d) := by
  have own := (h.dk m hm).own
  have off : ∀ j, j ≠ 4 + m → ∀ k, T j k → ¬ k = P.g m := fun j hj k hk e => hj (h.ap _ _ _ hk (e ▸ own))
  refine
    { arr := h.arr.but hb (off 0 (by omega) _ h.t0)
      row := fun j hj => (hb.cell (p := ⟨P.r, j, none⟩) (h.lt _ _ h.t1) (off 1 (by omega) _ h.t1)).trans (h.row j hj)
      pw := At.but h.pw hb (off 2 (by omega) _ h.t2)
      nv := At.but h.nv hb (off 3 (by omega) _ h.t3)
      dk := ?_
      ap := h.ap
      t0 := h.t0
      t1 := h.t1
      t2 := h.t2
      t3 := h.t3
      lt := fun j k hk => Nat.lt_of_lt_of_le (h.lt _ _ hk) hb.size
      wf := ⟨h.wf.small, h.wf.sect, h.wf.some_, h.wf.u0, h.wf.st, ?_⟩ }
  · intro j hj
    show Dk w' (P.g j) P.p (T (4 + j)) (if j = m then d else s.d j)
    by_cases e : j = m
    · rw [if_pos e, e]; exact hd
    · rw [if_neg e]
      exact (h.dk j hj).but hb (off _ (by omega))
  · intro j hj
    show (if j = m then d else s.d j).sectors = s.S ∧ ((if j = m then d else s.d j).size : Int) = s.b ∧ ∀ q, 0 ≤ (if j = m then d else s.d j).writes q ∧ (if j = m then d else s.d j).writes q ≤ s.u
    have k := h.wf.each j hj
    by_cases e : j = m
    · rw [if_pos e, h1, h2, h3, ← e]; exact k
    · rw [if_neg e]; exact k
theorem Sys.hurt {T : Nat → Nat → Prop} (h : Sys B w0 w R q cap P O s) (hA : Ay w P T s) (hO : ∀ k, O k ↔ ∃ i, T i k) (hm : m < s.M) (hd : Dk w' (P.g m) P.p (T (4 + m)) d) (hb : But (fun k => k = P.g m) w w') (h1 : d.sectors = (s.d m).sectors) (h2 : d.size = (s.d m).size) (h3 : d.writes = (s.d m).writes) :
    Arr w' P O (s.hurt m d) ∧ Sys B w0 w' R q cap P O (s.hurt m d) ∧ But O w w' := by
  have b2 : But O w w' := hb.mono (fun k e _ => (hO k).2 ⟨4 + m, e ▸ (hA.dk m hm).own⟩)
  have a2 : Arr w' P O (s.hurt m d) := ⟨T, hA.hurt hm hd hb h1 h2 h3, hO⟩
  exact ⟨a2, h.keep (Same.hurt s m d) a2 b2, b2⟩
/-- A member fails. -/
theorem fail_sys (hm : m < s.M) (h : Sys B w0 w R q cap P O s) : Calls Tryz.prog 18 #[ptr (P.g m)] w fun e w' => e = .returned (.tuple #[]) ∧ Arr w' P O (s.hurt m { s.d m with dead := true }) ∧ Sys B w0 w' R q cap P O (s.hurt m { s.d m with dead := true }) ∧ But O w w' := by
  obtain ⟨T, hA, hO⟩ := h.rg.arr
  refine (fail_any (hA.dk m hm)).mono ?_
  rintro e w' ⟨rfl, hd, hb⟩
  exact ⟨rfl, h.hurt hA hO hm hd hb rfl rfl rfl⟩
/-- How many operations. -/
theorem used_sys (h : Sys B w0 w R q cap P O s) : Calls Tryz.prog 127 #[ptr P.p] w fun e w' => e = .returned (.int .i64 s.u) ∧ w' = w := by
  obtain ⟨T, hA, hO⟩ := h.rg.arr
  exact used_any _ _ _ _ hA.pw
end
end Go.Proofs.YtapbphkhbhcdkaaGreat
