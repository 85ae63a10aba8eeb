/-
  PAGES THAT ARE TURNED: a byte of one, one in the place of another.
-/
import Derived.Test.YtlmponcoghfghaaTells
import Derived.Test.YtlmponcoghfghaaPageGensWalk
namespace Go.Proofs.Ytlmponcoghfghaa
open Go.RowKit
set_option linter.unusedVariables false
set_option maxRecDepth 100000


/-- Pages of the call's own, each in a block of its own. -/
structure Pgs (w : World) (B0 a n c N : Nat) (L : List Sl) : Prop where
  own : w.ownsRow B0 42 1 (.slice (some ⟨a, 0, none⟩) n c) n (L.map Sl.v)
  pg : ∀ x ∈ L, w.ownsRow B0 5 1 x.v x.n (x.l.map val) ∧ x.n = N
  off : ∀ x ∈ L, x.v.ownBlock ≠ some a
  dis : (L.map Sl.v).Pairwise (fun u v => ∀ j, u.ownBlock = some j → v.ownBlock ≠ some j)
theorem Pgs.len {w : World} {B0 a n c N : Nat} {L : List Sl} (h : Pgs w B0 a n c N L) : L.length = n := by have := h.own.1; simpa using this
theorem Pgs.up {w w' : World} {B0 a n c N : Nat} {L : List Sl} (h : Pgs w B0 a n c N L) (hb : Below w.heap.size w w') : Pgs w' B0 a n c N L := ⟨own_below h.own hb, fun x hx => ⟨own_below (h.pg x hx).1 hb, (h.pg x hx).2⟩, h.off, h.dis⟩
/-- One page: where it lies. -/
theorem Pgs.one {w : World} {B0 a n c N : Nat} {L : List Sl} (h : Pgs w B0 a n c N L) (hN : 17 ≤ N) {k : Nat} (hk : k < L.length) : ∃ gk, L[k].A = some ⟨gk, 0, none⟩ ∧ gk ≠ a ∧ Has w L[k].A L[k].n L[k].l ∧ L[k].n = N ∧ L[k].n ≤ L[k].c ∧ L[k].c ≤ maxLen := by
  obtain ⟨h1, h2⟩ := h.pg L[k] (List.getElem_mem hk)
  obtain ⟨A', c', e, h4, h5, hh, hx⟩ := Has.of_own h1
  unfold Sl.v at e
  injection e with e1 e2 e3
  rw [← e1] at hh
  obtain ⟨b, o, e4⟩ := hh.some_ (by omega)
  obtain ⟨gk, e5, _⟩ := hx _ (e1.symm.trans e4)
  injection e5 with e5 e6
  subst e5 e6
  refine ⟨b, e4, fun e => ?_, hh, h2, by rw [e3]; exact h4, by rw [e3]; exact h5⟩
  refine h.off L[k] (List.getElem_mem hk) ?_
  unfold Sl.v
  rw [e4, e]
  rfl
/-- A byte of one page is turned. -/
theorem Pgs.byte {w : World} {B0 a n c N : Nat} {L : List Sl} (h : Pgs w B0 a n c N L) {k i gk : Nat} (hk : k < L.length) (hg : L[k].A = some ⟨gk, 0, none⟩) (y : BitVec 8) : ∃ L', Pgs (w.setCell ⟨gk, i, none⟩ (.int .u8 (y.toNat : Int))) B0 a n c N L' := by
  have hv : L[k].v.ownBlock = some gk := by unfold Sl.v; rw [hg]; rfl
  have hne : a ≠ gk := fun e => h.off L[k] (List.getElem_mem hk) (by rw [hv, e])
  have bs : But (fun x => x = gk) w (w.setCell ⟨gk, i, none⟩ (.int .u8 (y.toNat : Int))) := (But.refl (fun x => x = gk) w).setCell (p := ⟨gk, i, none⟩) (fun _ => rfl) _
  have hm : (L.set k { L[k] with l := L[k].l.set i y }).map Sl.v = L.map Sl.v := by
    apply List.ext_getElem (by simp)
    intro m h1 h2
    simp only [List.getElem_map, List.getElem_set]
    split
    · rename_i e; subst e; rfl
    · rfl
  refine ⟨L.set k { L[k] with l := L[k].l.set i y }, ?_, fun x hx => ?_, fun x hx => ?_, by rw [hm]; exact h.dis⟩
  · rw [hm]
    exact own_but h.own bs (fun j hj e => by simp [Value.ownBlock] at hj; omega)
  · obtain ⟨m, hm1, hm2⟩ := List.getElem_of_mem hx
    rw [List.getElem_set] at hm2
    have hml : m < L.length := by simpa using hm1
    split at hm2
    · subst hm2
      obtain ⟨h1, h2⟩ := h.pg L[k] (List.getElem_mem hk)
      refine ⟨?_, h2⟩
      have e9 : L[k].v = .slice (some ⟨gk, 0, none⟩) L[k].n L[k].c := by unfold Sl.v; rw [hg]
      rw [e9] at h1
      have h3 := (h1.stored i (.int .u8 (y.toNat : Int))).1
      show (w.setCell ⟨gk, i, none⟩ (.int .u8 (y.toNat : Int))).ownsRow B0 5 1 L[k].v L[k].n ((L[k].l.set i y).map val)
      rw [e9, List.map_set]
      exact h3
    · subst hm2
      rename_i hne2
      refine ⟨own_but (h.pg L[m] (List.getElem_mem hml)).1 bs (fun j hj e => ?_), (h.pg L[m] (List.getElem_mem hml)).2⟩
      subst e
      have hp := List.pairwise_iff_getElem.1 h.dis
      rcases Nat.lt_or_ge k m with hlt | hge
      · have := hp k m (by simpa using hk) (by simpa using hml) hlt j (by simpa using hv)
        exact this (by simpa using hj)
      · have := hp m k (by simpa using hml) (by simpa using hk) (by omega) j (by simpa using hj)
        exact this (by simpa using hv)
  · obtain ⟨m, hm1, hm2⟩ := List.getElem_of_mem hx
    rw [List.getElem_set] at hm2
    have hml : m < L.length := by simpa using hm1
    split at hm2
    · subst hm2; exact h.off L[k] (List.getElem_mem hk)
    · subst hm2; exact h.off L[m] (List.getElem_mem hml)
/-- Pages that are read; the row is the call's own. -/
structure Pg2 (w : World) (B0 a n c : Nat) (L : List Sl) : Prop where
  own : w.ownsRow B0 42 1 (.slice (some ⟨a, 0, none⟩) n c) n (L.map Sl.v)
  has : ∀ x ∈ L, Has w x.A x.n x.l
  off : ∀ x ∈ L, ∀ y, x.A = some y → y.block ≠ a
  cap : ∀ x ∈ L, 16 ≤ x.n ∧ x.n ≤ 1000 ∧ x.n ≤ x.c ∧ x.c ≤ maxLen
theorem Pgs.two {w : World} {B0 a n c N : Nat} {L : List Sl} (h : Pgs w B0 a n c N L) (hN : 17 ≤ N ∧ N ≤ 1000) : Pg2 w B0 a n c L := by
  refine ⟨h.own, fun x hx => ?_, fun x hx y hy e => ?_, fun x hx => ?_⟩
  · obtain ⟨k, hk, rfl⟩ := List.getElem_of_mem hx
    obtain ⟨gk, _, _, hh, _⟩ := h.one hN.1 hk
    exact hh
  · refine h.off x hx ?_
    unfold Sl.v
    rw [hy]
    show some y.block = some a
    rw [e]
  · obtain ⟨k, hk, rfl⟩ := List.getElem_of_mem hx
    obtain ⟨gk, _, _, _, h1, h3, h4⟩ := h.one hN.1 hk
    exact ⟨by omega, by omega, h3, h4⟩
section
variable {w w' : World} {B0 a n c : Nat} {L : List Sl}
theorem Pg2.len (h : Pg2 w B0 a n c L) : L.length = n := by have := h.own.1; simpa using this
theorem Pg2.up (h : Pg2 w B0 a n c L) (hb : Below w.heap.size w w') : Pg2 w' B0 a n c L := ⟨own_below h.own hb, fun x hx => (h.has x hx).below hb, h.off, h.cap⟩
theorem Pg2.lns (h : Pg2 w B0 a n c L) : Lns w (some ⟨a, 0, none⟩) n L := by
  obtain ⟨A', c', e, _, _, hr, _⟩ := Row.of_own h.own
  injection e with e1 _ _
  rw [← e1] at hr
  exact ⟨hr, h.has, fun x hx => ⟨by have := (h.cap x hx).2.1; omega, (h.cap x hx).2.2⟩⟩
theorem Pg2.cells (h : Pg2 w B0 a n c L) {k : Nat} (hk : k < n) : ∃ hl : k < L.length, w.cell? ⟨a, k, none⟩ = some (.slice L[k].A L[k].n L[k].c) ∧ w.frozen? ⟨a, k, none⟩ = false := by
  obtain ⟨hl, b, off, e, hc, _⟩ := h.lns.one hk
  injection e with e
  injection e with e1 e2
  subst e1 e2
  rw [Nat.zero_add] at hc
  exact ⟨hl, hc, h.own.frozenAt k⟩
theorem Pg2.store (h : Pg2 w B0 a n c L) (k : Nat) (x : Sl) (hx : Has w x.A x.n x.l) (ho : ∀ y, x.A = some y → y.block ≠ a) (hc : 16 ≤ x.n ∧ x.n ≤ 1000 ∧ x.n ≤ x.c ∧ x.c ≤ maxLen) : Pg2 (w.setCell ⟨a, k, none⟩ (.slice x.A x.n x.c)) B0 a n c (L.set k x) := by
  have bs : But (fun y => y = a) w (w.setCell ⟨a, k, none⟩ (.slice x.A x.n x.c)) := (But.refl (fun y => y = a) w).setCell (p := ⟨a, k, none⟩) (fun _ => rfl) _
  refine ⟨?_, fun y hy => ?_, fun y hy => ?_, fun y hy => ?_⟩
  · have := (h.own.stored k (.slice x.A x.n x.c)).1
    rw [show (L.set k x).map Sl.v = (L.map Sl.v).set k (.slice x.A x.n x.c) by rw [List.map_set]; rfl]
    exact this
  · rcases List.mem_or_eq_of_mem_set hy with hy | rfl
    · exact (h.has y hy).but bs (h.off y hy)
    · exact hx.but bs ho
  · rcases List.mem_or_eq_of_mem_set hy with hy | rfl
    · exact h.off y hy
    · exact ho
  · rcases List.mem_or_eq_of_mem_set hy with hy | rfl
    · exact h.cap y hy
    · exact hc
end
theorem told_pgs {w : World} {B0 n P : Nat} {v : Value} {L : List Sl} (hn : 0 < n) (h : w.ownsRow B0 42 1 v n (L.map Sl.v)) (hp : ∀ x ∈ L, x.n = P + 15 ∧ w.ownsRow B0 5 1 x.v x.n (x.l.map val)) (ho : ∀ x ∈ L, ∀ j, x.v.ownBlock = some j → v.ownBlock ≠ some j)
    (hd : L.Pairwise (fun x y => ∀ j, x.v.ownBlock = some j → y.v.ownBlock ≠ some j)) (N : Nat) (hP : P + 15 = N) : ∃ a c, v = .slice (some ⟨a, 0, none⟩) n c ∧ n ≤ c ∧ c ≤ maxLen ∧ B0 ≤ a ∧ Pgs w B0 a n c N L := by
  rcases h.2 with ⟨_, e⟩ | ⟨a, c, cur, rfl, hb, hh, h1, h2, _⟩
  · omega
  · refine ⟨a, c, rfl, h1, h2, hb, h, fun x hx => ⟨(hp x hx).2, by rw [(hp x hx).1]; exact hP⟩, fun x hx e => ho x hx a e rfl, ?_⟩
    rw [List.pairwise_map]
    exact hd
end Go.Proofs.Ytlmponcoghfghaa
