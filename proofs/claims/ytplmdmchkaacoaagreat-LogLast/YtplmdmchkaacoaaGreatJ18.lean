/-
  TEXTS JOINED: Pure, Inv, LawPut, Hurt.
-/
import Derived.Test.YtplmdmchkaacoaaGreatJ14
import Derived.Test.YtplmdmchkaacoaaGreatJ17
import Derived.Test.YtplmdmchkaacoaaGreatJ15

/-
  WHAT EACH MEMBER HAS OF A STRIPE, AS NUMBERS: a chunk, or the parity; any one is what the others are, XORed.
-/
namespace Go.Proofs.YtplmdmchkaacoaaGreat
open Go.RowKit Go.Maps
set_option linter.unusedVariables false
set_option maxRecDepth 100000

theorem parB_append (a b : List Bytes) (k : Nat) : parB (a ++ b) k = parB a k ^^^ parB b k := by
  induction a with
  | nil => simp [parB]
  | cons x r ih => simp only [List.cons_append, parB, ih, BitVec.xor_assoc]
/-- One of them another one. -/
theorem parB_update (f : Nat → Bytes) (b : Bytes) (x : Nat) : ∀ (M p : Nat), p < M → parB ((List.range M).map (fun j => if j = p then b else f j)) x = parB ((List.range M).map f) x ^^^ ((f p).getD x 0#8 ^^^ b.getD x 0#8) := by
  intro M
  induction M with
  | zero => intro p hp; omega
  | succ M ih =>
    intro p hp
    rw [List.range_succ, List.map_append, List.map_append, parB_append, parB_append]
    by_cases e : p = M
    · subst e
      have e1 : (List.range p).map (fun j => if j = p then b else f j) = (List.range p).map f := List.map_congr_left (fun j hj => by have h9 : j < p := List.mem_range.1 hj; rw [if_neg (by omega)])
      rw [e1]
      simp only [List.map_cons, List.map_nil, parB, if_true, BitVec.xor_zero]
      rw [BitVec.xor_assoc, ← BitVec.xor_assoc ((f p).getD x 0#8), BitVec.xor_self, BitVec.zero_xor]
    · rw [ih p (by omega)]
      simp only [List.map_cons, List.map_nil, parB, BitVec.xor_zero]
      rw [if_neg (fun h => e h.symm)]
      ac_rfl

theorem mod_apart {t : Int} {M i j : Nat} (hi : i < M) (hj : j < M) (hne : i ≠ j) (ht : 0 ≤ t) : (t + (i : Int)) % (M : Int) ≠ (t + (j : Int)) % (M : Int) := by
  intro e
  have h1 := Int.emod_add_mul_ediv (t + (i : Int)) (M : Int)
  have h2 := Int.emod_add_mul_ediv (t + (j : Int)) (M : Int)
  generalize (t + (i : Int)) / (M : Int) = a at h1
  generalize (t + (j : Int)) / (M : Int) = c at h2
  rw [← e] at h2
  have h3 : (M : Int) * a - (M : Int) * c = (i : Int) - (j : Int) := by omega
  rw [← Int.mul_sub] at h3
  rcases Int.lt_trichotomy (a - c) 0 with h | h | h
  · have : (M : Int) * (a - c) ≤ (M : Int) * (-1) := Int.mul_le_mul_of_nonneg_left (by omega) (by omega)
    omega
  · rw [h] at h3; simp at h3; omega
  · have : (M : Int) * 1 ≤ (M : Int) * (a - c) := Int.mul_le_mul_of_nonneg_left (by omega) (by omega)
    omega

section
variable {t : Int} {M : Nat} {C : Nat → Bytes} {X : Bytes}
theorem spread_fresh (ht : 0 ≤ t) {k m : Nat} (hk : k < M - 1) (hm : (m : Int) = (t + 1 + (k : Int)) % (M : Int)) : ∀ j, j ≤ k → spreadB t M C X j m = [] := by
  intro j
  induction j with
  | zero =>
    intro _
    unfold spreadB
    rw [if_neg]
    rw [hm, show t + 1 + (k : Int) = t + ((k + 1 : Nat) : Int) by omega]
    have := mod_apart (t := t) (M := M) (i := k + 1) (j := 0) (by omega) (by omega) (by omega) ht
    simpa using this
  | succ j ih =>
    intro hj
    unfold spreadB
    rw [if_neg]
    · exact ih (by omega)
    · rw [hm, show t + 1 + (k : Int) = t + ((k + 1 : Nat) : Int) by omega, show t + 1 + (j : Int) = t + ((j + 1 : Nat) : Int) by omega]
      exact mod_apart (by omega) (by omega) (by omega) ht
/-- The chunk of a member. -/
theorem spread_chunk (ht : 0 ≤ t) {k m : Nat} (hk : k < M - 1) (hm : (m : Int) = (t + 1 + (k : Int)) % (M : Int)) : spreadB t M C X (M - 1) m = C k := by
  have key : ∀ j, k < j → j ≤ M - 1 → spreadB t M C X j m = C k := by
    intro j
    induction j with
    | zero => intro h; omega
    | succ j ih =>
      intro h1 h2
      unfold spreadB
      by_cases e : j = k
      · subst e; rw [if_pos hm]
      · rw [if_neg, ih (by omega) (by omega)]
        rw [hm, show t + 1 + (k : Int) = t + ((k + 1 : Nat) : Int) by omega, show t + 1 + (j : Int) = t + ((j + 1 : Nat) : Int) by omega]
        exact mod_apart (by omega) (by omega) (by omega) ht
  exact key (M - 1) hk (Nat.le_refl _)
/-- All of them, XORed. -/
theorem spread_sum (ht : 0 ≤ t) (hM : 2 ≤ M) (x : Nat) : ∀ k, k ≤ M - 1 → parB ((List.range M).map (spreadB t M C X k)) x = X.getD x 0#8 ^^^ parB ((List.range k).map C) x := by
  intro k
  induction k with
  | zero =>
    intro _
    obtain ⟨p, hp⟩ : ∃ p : Nat, t % (M : Int) = (p : Int) := ⟨(t % (M : Int)).toNat, by have := Int.emod_nonneg t (show (M : Int) ≠ 0 by omega); omega⟩
    have hpM : p < M := by have := Int.emod_lt_of_pos t (show 0 < (M : Int) by omega); omega
    have e : (List.range M).map (spreadB t M C X 0) = (List.range M).map (fun j => if j = p then X else (fun _ => []) j) := List.map_congr_left (fun j _ => by
      unfold spreadB
      rw [hp]
      by_cases e : j = p
      · subst e; simp
      · rw [if_neg (by omega), if_neg e])
    rw [e, parB_update _ _ _ _ _ hpM]
    have z : ∀ n, parB ((List.range n).map (fun _ => ([] : Bytes))) x = 0#8 := by
      intro n
      induction n with
      | zero => rfl
      | succ n ih => rw [List.range_succ, List.map_append, parB_append, ih]; simp [parB]
    rw [z]
    simp [parB]
  | succ k ih =>
    intro hk
    obtain ⟨p, hp⟩ : ∃ p : Nat, (t + 1 + (k : Int)) % (M : Int) = (p : Int) := ⟨((t + 1 + (k : Int)) % (M : Int)).toNat, by have := Int.emod_nonneg (t + 1 + (k : Int)) (show (M : Int) ≠ 0 by omega); omega⟩
    have hpM : p < M := by have := Int.emod_lt_of_pos (t + 1 + (k : Int)) (show 0 < (M : Int) by omega); omega
    have e : (List.range M).map (spreadB t M C X (k + 1)) = (List.range M).map (fun j => if j = p then C k else spreadB t M C X k j) := List.map_congr_left (fun j _ => by
      show (if (j : Int) = (t + 1 + (k : Int)) % (M : Int) then C k else spreadB t M C X k j) = _
      rw [hp]
      by_cases e : j = p
      · subst e; simp
      · rw [if_neg (by omega), if_neg e])
    rw [e, parB_update _ _ _ _ _ hpM, ih (by omega), spread_fresh ht (k := k) (m := p) (by omega) hp.symm k (Nat.le_refl _), List.range_succ, List.map_append, parB_append]
    simp [parB, BitVec.xor_assoc]
/-- Any one of them is what the others are, XORed. -/
theorem spread_mend (ht : 0 ≤ t) (hM : 2 ≤ M) {n m : Nat} (hm : m < M) (hC : ∀ k, k < M - 1 → (C k).length = n) (hX : X = tab n (parB ((List.range (M - 1)).map C))) (g : Nat → Bytes) (hg : ∀ j, j < M → g j = if j = m then [] else spreadB t M C X (M - 1) j) (hl : (spreadB t M C X (M - 1) m).length = n) :
    xorB M n g = spreadB t M C X (M - 1) m := by
  unfold xorB
  apply List.ext_getElem
  · rw [tab_len, hl]
  · intro x h1 h2
    rw [tab_get]
    have e : (List.range M).map g = (List.range M).map (fun j => if j = m then [] else spreadB t M C X (M - 1) j) := List.map_congr_left (fun j hj => hg j (by simpa using hj))
    rw [e, parB_update _ _ _ _ _ hm, spread_sum ht hM x (M - 1) (Nat.le_refl _)]
    have hxn : x < n := by rw [hl] at h2; exact h2
    have e2 : X.getD x 0#8 = parB ((List.range (M - 1)).map C) x := by
      rw [hX]
      simp only [List.getD_eq_getElem?_getD]
      rw [List.getElem?_eq_getElem (by rw [tab_len]; exact hxn), tab_get]
      rfl
    rw [e2, BitVec.xor_self, BitVec.zero_xor]
    simp only [List.getD_eq_getElem?_getD, List.getElem?_nil, Option.getD_none, BitVec.xor_zero]
    rw [List.getElem?_eq_getElem h2]
    rfl
end
end Go.Proofs.YtplmdmchkaacoaaGreat

/-
  WHAT HOLDS BETWEEN CALLS: what each member has of the stripes that were put; a map of them; a rig and its map in memory.
-/
namespace Go.Proofs.YtplmdmchkaacoaaGreat
open Go.RowKit Go.Maps Go.MapKept Go.ChangeMaps
set_option linter.unusedVariables false
set_option maxRecDepth 100000

/-- What member m has of stripe t, filled by f. -/
def partF (M nb : Nat) (t : Int) (f : BitVec 8) (m : Nat) : Bytes := spreadB t M (chunkB nb f) (tab nb (parB ((List.range (M - 1)).map (chunkB nb f)))) (M - 1) m
abbrev Hv := Int → Option (BitVec 8)
def Hv.set (H : Hv) (t : Int) (f : BitVec 8) : Hv := fun x => if x = t then some f else H x
def Hv.del (H : Hv) (t : Int) : Hv := fun x => if x = t then none else H x

theorem chunk_len (nb : Nat) (f : BitVec 8) (k : Nat) : (chunkB nb f k).length = nb := by simp [chunkB]
theorem part_len {M nb : Nat} (hM : 2 ≤ M) (t : Int) (f : BitVec 8) {m : Nat} (hm : m < M) : (partF M nb t f m).length = nb := by
  have h := spread_all (t := t) (M := M) hM (fun j => ⟨none, 0, 0, chunkB nb f j⟩) ⟨none, 0, 0, tab nb (parB ((List.range (M - 1)).map (chunkB nb f)))⟩ (fun x => x.l.length = nb) (fun k _ => chunk_len nb f k) (tab_len _ _) m hm
  rw [spread_l] at h
  exact h
theorem part_chunk {M nb : Nat} {t : Int} (ht : 0 ≤ t) (f : BitVec 8) {k m : Nat} (hk : k < M - 1) (hm : (m : Int) = (t + 1 + (k : Int)) % (M : Int)) : partF M nb t f m = chunkB nb f k := spread_chunk ht hk hm
theorem part_mend {M nb : Nat} {t : Int} (hM : 2 ≤ M) (ht : 0 ≤ t) (f : BitVec 8) {m : Nat} (hm : m < M) (g : Nat → Bytes) (hg : ∀ j, j < M → g j = if j = m then [] else partF M nb t f j) : xorB M nb g = partF M nb t f m :=
  spread_mend ht hM hm (fun k _ => chunk_len nb f k) rfl g hg (part_len hM t f hm)

/-- Each member that is current has what it must of each stripe that was put. -/
def Inv (s : AS) (H : Hv) : Prop := ∀ m : Nat, m < s.M → (m : Int) ≠ s.stale → ∀ t f, 0 ≤ t → t < s.N → H t = some f → (s.d m).read (s.at_ t) = partF s.M s.b.toNat t f m

section
variable {s s' : AS} {H : Hv} {c : Int}
theorem Same.N (h : Same s s') : s'.N = s.N := by unfold Same at h; rw [h]; rfl
theorem Same.at_ (h : Same s s') (t : Int) : s'.at_ t = s.at_ t := by unfold Same at h; rw [h]; rfl
theorem at_ne {s : AS} {t u : Int} (h : t ≠ u) : s.at_ t ≠ s.at_ u := by unfold AS.at_; omega
theorem still {R : Nat → DS → DS → Prop} (h : Rel R c s s') {m : Nat} (hm : (m : Int) ≠ s'.stale) : (m : Int) ≠ s.stale := by
  rcases h.stale with e | ⟨e, _⟩
  · rw [← e]; exact hm
  · omega
theorem inv_read (h : Inv s H) (k : Rel (fun _ => Aged) c s s') : Inv s' H := by
  intro m hm hs t f h0 h1 hf
  rw [k.same.M] at hm
  rw [k.same.N] at h1
  rw [k.same.M, k.same.b, k.same.at_, (k.disk m hm).read]
  exact h m hm (still k hs) t f h0 h1 hf
theorem put_fl (d : DS) (u1 u2 i : Int) (b : Bytes) : Turns (with1 d.read i b) d ((d.put u1 i b).fl u2) :=
  (put_turns d u1 i b).trans ((fl_turns (d.put u1 i b) u2).congr (fun h x => (put_turns d u1 i b).read (by
    cases hd : (d.put u1 i b).dead with
    | false => rfl
    | true => have := (fl_turns (d.put u1 i b) u2).dies hd; rw [h] at this; cases this) x))
theorem inv_put {t : Int} {f : BitVec 8} (h : Inv s H) (k : Rel (fun j d d' => ∃ u1 u2, d' = (d.put u1 (s.at_ t) (partF s.M s.b.toNat t f j)).fl u2) c s s') (ht : ∀ j : Nat, j < s.M → (s'.d j).dead = true → s'.stale = (j : Int)) : Inv s' (H.set t f) := by
  intro m hm hs u g h0 h1 hf
  rw [k.same.M] at hm
  rw [k.same.N] at h1
  rw [k.same.M, k.same.b, k.same.at_]
  obtain ⟨u1, u2, e⟩ := k.disk m hm
  have hd : (s'.d m).dead = false := by
    cases hd : (s'.d m).dead with
    | false => rfl
    | true => exact absurd (ht m hm hd).symm hs
  have hr := (put_fl (s.d m) u1 u2 (s.at_ t) (partF s.M s.b.toNat t f m)).read (by rw [← e]; exact hd) (s.at_ u)
  rw [e, hr]
  unfold with1
  unfold Hv.set at hf
  by_cases et : u = t
  · subst et
    rw [if_pos rfl]
    rw [if_pos rfl] at hf
    injection hf with hf
    rw [hf]
  · rw [if_neg et] at hf
    rw [if_neg (at_ne et)]
    exact h m hm (still k hs) u g h0 h1 hf
/-- A chunk that is read is right. -/
theorem inv_chunk {w w' : World} {t : Int} {k m : Nat} {f : BitVec 8} {v : Value} (wf : s.Wf) (h : Inv s H) (ht : 0 ≤ t ∧ t < s.N) (hk : k < s.M - 1) (hm : (t + 1 + (k : Int)) % (s.M : Int) = (m : Int)) (hf : H t = some f) (hc : ChunkAs w w' s s' m (s.at_ t) v 0) :
    Rel (fun _ => Aged) 12 s s' ∧ NewRow w w' v (chunkB s.b.toNat f k) := by
  have hM := wf.small.hm
  have hml : m < s.M := by have := Int.emod_lt_of_pos (t + 1 + (k : Int)) (show 0 < (s.M : Int) by omega); omega
  cases hc with
  | got _ hr hs he hv _ =>
    refine ⟨hr, ?_⟩
    rw [h m hml (fun e => hs e.symm) t f ht.1 ht.2 hf, part_chunk ht.1 f hk hm.symm] at hv
    exact hv
  | rest _ hr hs hv =>
    refine ⟨hr, ?_⟩
    have e : mend s m (s.at_ t) = chunkB s.b.toNat f k := by
      rw [← part_chunk (M := s.M) (nb := s.b.toNat) ht.1 f hk hm.symm]
      refine part_mend (by omega) ht.1 f hml _ (fun j hj => ?_)
      unfold others
      by_cases e : j = m
      · rw [if_pos e, if_pos e]
      · rw [if_neg e, if_neg e]
        exact h j hj (still hr (by rw [hs]; omega)) t f ht.1 ht.2 hf
    rw [e] at hv
    exact hv
end

section
variable {B : Nat} {w0 w w' : World} {R q cap : Nat} {P : Pl} {O : Nat → Prop} {s s' : AS} {hb : Nat} {H : Hv}
end
end Go.Proofs.YtplmdmchkaacoaaGreat

/-
  THE WALK OF THE LAW'S put.
-/
namespace Go.Proofs.YtplmdmchkaacoaaGreat
open Go.RowKit Go.Maps
set_option linter.unusedVariables false
set_option maxRecDepth 100000

theorem Cl.off2 {w : World} {B : Nat} {v : Value} {L : List Sl} (h : Cl w B v L) {O : Nat → Prop} (hO : ∀ k, B ≤ k → ¬ O k) : ∀ x ∈ L, ∀ a, x.A = some a → ¬ O a.block := fun x hx a ha => hO _ (h.off x hx a ha).2.1

/-- The chunks that were made are those that a stripe must have. -/
theorem spread_same {t : Int} {M nb : Nat} {f : BitVec 8} {L : List Sl} (hl : L.length = M - 1) (hm : L.map Sl.l = (List.range (M - 1)).map (chunkB nb f)) :
    spreadB t M (fun j => (L.getD j ⟨none, 0, 0, []⟩).l) (tab nb (par L)) (M - 1) = partF M nb t f := by
  have e1 : tab nb (par L) = tab nb (parB ((List.range (M - 1)).map (chunkB nb f))) := tab_congr (fun k _ => by rw [par_map, hm])
  unfold partF
  rw [e1]
  have e2 : ∀ k, k ≤ M - 1 → spreadB t M (fun j => (L.getD j ⟨none, 0, 0, []⟩).l) (tab nb (parB ((List.range (M - 1)).map (chunkB nb f)))) k = spreadB t M (chunkB nb f) (tab nb (parB ((List.range (M - 1)).map (chunkB nb f)))) k := by
    intro k
    induction k with
    | zero => intro _; rfl
    | succ k ih =>
      intro hk
      funext m
      show (if _ then (L.getD k ⟨none, 0, 0, []⟩).l else _) = (if _ then chunkB nb f k else _)
      have hkl : k < L.length := by omega
      have h1 : (L.map Sl.l)[k]? = ((List.range (M - 1)).map (chunkB nb f))[k]? := by rw [hm]
      rw [List.getElem?_map, List.getElem?_map, List.getElem?_eq_getElem hkl, List.getElem?_range (by omega)] at h1
      have h2 : (L[k]).l = chunkB nb f k := by simpa using h1
      rw [List.getD_eq_getElem?_getD, List.getElem?_eq_getElem hkl]
      show (if _ then (L[k]).l else _) = _
      rw [h2, ih (by omega)]
  exact e2 (M - 1) (Nat.le_refl _)

end Go.Proofs.YtplmdmchkaacoaaGreat

/-
  ONE OF THE DISKS FAILS, OR IS GOING TO: the rig behind it; a rig on which nothing fails.
-/
namespace Go.Proofs.YtplmdmchkaacoaaGreat
open Go.RowKit
set_option linter.unusedVariables false
set_option maxRecDepth 100000

/-- One of the disks another one, that lies where it lay. -/
def AS.hurt (s : AS) (m : Nat) (d : DS) : AS := { s with d := fun j => if j = m then d else s.d j }
/-- Nothing fails. -/
def Calm (s : AS) : Prop := ∀ k, Sound k s
section
variable {B : Nat} {w0 w w' : World} {R q cap : Nat} {P : Pl} {O : Nat → Prop} {s s' : AS} {hb m : Nat} {H : Hv} {d : DS}
theorem Same.hurt (s : AS) (m : Nat) (d : DS) : Same s (s.hurt m d) := rfl
theorem init_calm (M : Nat) (b g s n l : Int) (S z : Nat) : Calm (AS.init M b g s n l S z) := fun k => ⟨rfl, .inl rfl, fun i _ _ => ⟨rfl, by show (-1 : Int) < 0; decide⟩⟩
theorem Calm.rel {Q : Nat → DS → DS → Prop} {c : Int} (h : Calm s) (k : Rel Q c s s') : Calm s' := fun i => k.sound i (h i)
theorem Calm.live (h : Calm s) {i : Nat} (hi : i < s.M) : Live (s.d i) := (h (i + 1)).live i hi (by omega)
theorem Calm.stale (h : Calm s) : s.stale = -1 := by
  rcases (h 0).stale with e | e
  · exact e
  · rcases (h 1).stale with e2 | e2
    · exact e2
    · omega
theorem Calm.whole (h : Calm s) : s.broken = false := (h 0).whole
theorem inv_none (s : AS) : Inv s (fun _ => none) := by intro m _ _ t f _ _ h; cases h
theorem Sound.hurt {k : Nat} (h : Sound k s) (d : DS) : Sound k (s.hurt k d) :=
  ⟨h.whole, h.stale, fun i hi hne => by show Live (if i = k then d else s.d i); rw [if_neg hne]; exact h.live i hi hne⟩
theorem inv_hurt (h : Inv s H) (hr : d.read = (s.d m).read) : Inv (s.hurt m d) H := by
  intro i hi hs t f h0 h1 hf
  have := h i hi hs t f h0 h1 hf
  show (if i = m then d else s.d i).read (s.at_ t) = partF s.M s.b.toNat t f i
  by_cases e : i = m
  · rw [if_pos e, hr, ← e]; exact this
  · rw [if_neg e]; exact this
theorem Ay.hurt {T : Nat → Nat → Prop} (h : Ay w P T s) (hm : m < s.M) (hd : Dk w' (P.g m) P.p (T (4 + m)) d) (hb : But (fun k => k = P.g m) w w') (h1 : d.sectors = (s.d m).sectors) (h2 : d.size = (s.d m).size) (h3 : d.writes = (s.d m).writes) : Ay w' P T (s.hurt m d) := by
  have own := (h.dk m hm).own
  have off : ∀ j, j ≠ 4 + m → ∀ k, T j k → ¬ k = P.g m := fun j hj k hk e => hj (h.ap _ _ _ hk (e ▸ own))
  refine
    { arr := h.arr.but hb (off 0 (by omega) _ h.t0)
      row := fun j hj => (hb.cell (p := ⟨P.r, j, none⟩) (h.lt _ _ h.t1) (off 1 (by omega) _ h.t1)).trans (h.row j hj)
      pw := At.but h.pw hb (off 2 (by omega) _ h.t2)
      nv := At.but h.nv hb (off 3 (by omega) _ h.t3)
      dk := ?_
      ap := h.ap
      t0 := h.t0
      t1 := h.t1
      t2 := h.t2
      t3 := h.t3
      lt := fun j k hk => Nat.lt_of_lt_of_le (h.lt _ _ hk) hb.size
      wf := ⟨h.wf.small, h.wf.sect, h.wf.some_, h.wf.u0, h.wf.st, ?_⟩ }
  · intro j hj
    show Dk w' (P.g j) P.p (T (4 + j)) (if j = m then d else s.d j)
    by_cases e : j = m
    · rw [if_pos e, e]; exact hd
    · rw [if_neg e]
      exact (h.dk j hj).but hb (off _ (by omega))
  · intro j hj
    show (if j = m then d else s.d j).sectors = s.S ∧ ((if j = m then d else s.d j).size : Int) = s.b ∧ ∀ q, 0 ≤ (if j = m then d else s.d j).writes q ∧ (if j = m then d else s.d j).writes q ≤ s.u
    have k := h.wf.each j hj
    by_cases e : j = m
    · rw [if_pos e, h1, h2, h3, ← e]; exact k
    · rw [if_neg e]; exact k
theorem Sys.hurt {T : Nat → Nat → Prop} (h : Sys B w0 w R q cap P O s) (hA : Ay w P T s) (hO : ∀ k, O k ↔ ∃ i, T i k) (hm : m < s.M) (hd : Dk w' (P.g m) P.p (T (4 + m)) d) (hb : But (fun k => k = P.g m) w w') (h1 : d.sectors = (s.d m).sectors) (h2 : d.size = (s.d m).size) (h3 : d.writes = (s.d m).writes) :
    Arr w' P O (s.hurt m d) ∧ Sys B w0 w' R q cap P O (s.hurt m d) ∧ But O w w' := by
  have b2 : But O w w' := hb.mono (fun k e _ => (hO k).2 ⟨4 + m, e ▸ (hA.dk m hm).own⟩)
  have a2 : Arr w' P O (s.hurt m d) := ⟨T, hA.hurt hm hd hb h1 h2 h3, hO⟩
  exact ⟨a2, h.keep (Same.hurt s m d) a2 b2, b2⟩
/-- A member fails. -/
theorem fail_sys (hm : m < s.M) (h : Sys B w0 w R q cap P O s) : Calls Tryz.prog 94 #[ptr (P.g m)] w fun e w' => e = .returned (.tuple #[]) ∧ Arr w' P O (s.hurt m { s.d m with dead := true }) ∧ Sys B w0 w' R q cap P O (s.hurt m { s.d m with dead := true }) ∧ But O w w' := by
  obtain ⟨T, hA, hO⟩ := h.rg.arr
  refine (fail_any (hA.dk m hm)).mono ?_
  rintro e w' ⟨rfl, hd, hb⟩
  exact ⟨rfl, h.hurt hA hO hm hd hb rfl rfl rfl⟩
/-- How many operations. -/
theorem used_sys (h : Sys B w0 w R q cap P O s) : Calls Tryz.prog 187 #[ptr P.p] w fun e w' => e = .returned (.int .i64 s.u) ∧ w' = w := by
  obtain ⟨T, hA, hO⟩ := h.rg.arr
  exact used_any _ _ _ _ hA.pw
end
end Go.Proofs.YtplmdmchkaacoaaGreat
