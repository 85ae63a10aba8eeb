/-
  BLOCKS OF ONE LENGTH: a row of the call's own that holds rows of the call's own, all of one length; their parity; a copy into a row just made.
-/
import Derived.Test.YtengfhcocagpiaaAwake
namespace Go.Proofs.Ytengfhcocagpiaa
open Go.RowKit Go.Sort
set_option linter.unusedVariables false
set_option maxRecDepth 100000

theorem Has.beside {w w' : World} {S : Nat → Prop} {A : Option Addr} {n : Nat} {l : List (BitVec 8)} (h : Has w A n l) (hb : But S w w') (hn : ∀ x, A = some x → ¬ S x.block) : Has w' A n l :=
  ⟨h.1, fun h0 => by
    obtain ⟨b, off, e, hlt, hc⟩ := h.2 h0
    exact ⟨b, off, e, Nat.lt_of_lt_of_le hlt hb.size, fun k hk => (hb.cell (p := ⟨b, off + k, none⟩) hlt (hn ⟨b, off, none⟩ e)).trans (hc k hk)⟩⟩

/-- The row v of the call's own holds the blocks K, each of S bytes, none of them in v's own block. -/
structure Bl (w : World) (B : Nat) (v : Value) (S : Nat) (K : List Sl) : Prop where
  own : w.ownsRow B 25 1 v K.length (K.map Sl.v)
  has : ∀ x ∈ K, Has w x.A x.n x.l
  len : ∀ x ∈ K, x.n = S
  off : ∀ x ∈ K, ∀ a, x.A = some a → v.ownBlock ≠ some a.block
  low : ∀ x ∈ K, ∀ a, x.A = some a → a.block < w.heap.size

theorem Bl.nil (w : World) (B S : Nat) : Bl w B (.slice none 0 0) S [] :=
  ⟨World.ownsRow_nil _ _ _ _, fun x hx => (by cases hx), fun x hx => (by cases hx), fun x hx => (by cases hx), fun x hx => (by cases hx)⟩
/-- One block more: made behind w, laid at the end. -/
theorem Bl.push {w w1 w2 : World} {B S m c : Nat} {A : Option Addr} {v : Value} {K : List Sl} {x : Sl} (h : Bl w B v S K) (hb : But (fun _ => False) w w1) (hx : Has w1 x.A x.n x.l) (hS : x.n = S)
    (hn : ∀ a, x.A = some a → w.heap.size ≤ a.block ∧ a.block < w1.heap.size) (hown : w2.ownsRow B 25 1 (.slice A m c) m ((K ++ [x]).map Sl.v)) (hg : w1.grownBy w2 v.ownBlock)
    (hf : ∀ g, (Value.slice A m c).ownBlock = some g → v.ownBlock = some g ∨ w1.heap.size ≤ g) : Bl w2 B (.slice A m c) S (K ++ [x]) := by
  have hsz := hb.size
  have bt : But (fun k => v.ownBlock = some k) w1 w2 := (But.refl _ _).grown hg (fun k hk _ => hk)
  have hm : m = (K ++ [x]).length := by have := hown.1; simp at this; simp; omega
  subst hm
  have own_lt : ∀ k, v.ownBlock = some k → k < w.heap.size := fun k hk => (h.own.lt k hk).2
  refine ⟨hown, fun y hy => ?_, fun y hy => ?_, fun y hy a ha e => ?_, fun y hy a ha => ?_⟩
  · rcases List.mem_append.1 hy with hy | hy
    · exact ((h.has y hy).but hb (fun _ _ h => h)).beside bt (fun a ha => h.off y hy a ha)
    · simp at hy; subst hy
      exact hx.beside bt (fun a ha e => by have := own_lt _ e; have := (hn a ha).1; omega)
  · rcases List.mem_append.1 hy with hy | hy
    · exact h.len y hy
    · simp at hy; subst hy; exact hS
  · rcases List.mem_append.1 hy with hy | hy
    · rcases hf _ e with e | e
      · exact h.off y hy a ha e
      · have := h.low y hy a ha; omega
    · simp at hy; subst hy
      have := hn a ha
      rcases hf _ e with e | e
      · have := own_lt _ e; omega
      · omega
  · have := bt.size
    rcases List.mem_append.1 hy with hy | hy
    · have := h.low y hy a ha; omega
    · simp at hy; subst hy
      have := (hn a ha).2; omega
theorem Bl.ln {w : World} {B S : Nat} {v : Value} {K : List Sl} (h : Bl w B v S K) (hS : S ≤ 1000) (hn : K.length ≤ 5864062014805) : ∃ A c, v = .slice A K.length c ∧ Ln w A K.length K :=
  Ln.of_own h.own h.has (fun x hx => by rw [h.len x hx]; omega) hn
theorem Bl.wide {w : World} {B S : Nat} {v : Value} {K : List Sl} (h : Bl w B v S K) : ∀ x ∈ K, x.l.length = S := fun x hx => by rw [(h.has x hx).1, h.len x hx]

theorem mx_same {K : List Sl} {S : Nat} (h : ∀ x ∈ K, x.l.length = S) (hk : 0 < K.length) : mx K = S := by
  match K, hk with
  | x :: r, _ =>
    have h1 : x.l.length ≤ mx (x :: r) := mx_mem (by simp)
    have h2 := mx_le (L := x :: r) (M := S) (fun y hy => by rw [h y hy]; exact Nat.le_refl _)
    have := h x (by simp)
    omega
theorem oth_count (L : List Sl) (i : Int) : ∀ j, j ≤ L.length → j ≤ (oth L i j).length + (if i < (j : Int) then 1 else 0)
  | 0, _ => by omega
  | j + 1, hj => by
    have ih := oth_count L i j (by omega)
    have hlt : j < L.length := by omega
    by_cases e : (j : Int) = i
    · rw [oth_same hlt e]
      rw [if_neg (by omega)] at ih
      rw [if_pos (by omega)]
      omega
    · rw [oth_more hlt e]
      have : (i < ((j + 1 : Nat) : Int)) ↔ (i < (j : Int)) := by omega
      simp only [this]
      simp only [List.length_append, List.length_cons, List.length_nil]
      omega
theorem tab_of (l : List (BitVec 8)) (S : Nat) (h : l.length = S) (f : Nat → BitVec 8) (hf : ∀ k (hk : k < l.length), f k = l[k]) : tab S f = l := by
  subst h
  apply List.ext_getElem
  · rw [tab_len]
  · intro k h1 h2
    rw [tab_get, hf k h2]
/-- The parity laid behind the blocks. -/
def pty (A : Option Addr) (c S : Nat) (K : List Sl) : Sl := ⟨A, S, c, tab S (par K)⟩
theorem par_pty (A : Option Addr) (c S : Nat) (K : List Sl) {k : Nat} (hk : k < S) : par (K ++ [pty A c S K]) k = 0#8 := by
  rw [par_append]
  simp only [par, BitVec.xor_zero]
  rw [Sl.at_lt _ (show k < (pty A c S K).l.length by simp [pty, tab_len]; exact hk)]
  simp [pty, tab]
/-- All but one: its bytes. -/
theorem back_of {A : Option Addr} {c S : Nat} {K : List Sl} (h : ∀ x ∈ K, x.l.length = S) (hk : 0 < K.length) (i : Nat) (hi : i < (K ++ [pty A c S K]).length) :
    mx (oth (K ++ [pty A c S K]) (i : Int) (K ++ [pty A c S K]).length) = S ∧ tab S (par (oth (K ++ [pty A c S K]) (i : Int) (K ++ [pty A c S K]).length)) = (K ++ [pty A c S K])[i].l := by
  have hall : ∀ x ∈ K ++ [pty A c S K], x.l.length = S := by
    intro x hx
    rcases List.mem_append.1 hx with hx | hx
    · exact h x hx
    · simp at hx; subst hx; simp [pty, tab_len]
  have hc := oth_count (K ++ [pty A c S K]) (i : Int) (K ++ [pty A c S K]).length (Nat.le_refl _)
  have hl : (K ++ [pty A c S K]).length = K.length + 1 := by simp
  refine ⟨mx_same (fun x hx => hall x (oth_mem hx)) (by split at hc <;> omega), ?_⟩
  refine tab_of _ S (hall _ (List.getElem_mem hi)) _ (fun k hk' => ?_)
  have hkS : k < S := by rw [← hall _ (List.getElem_mem hi)]; exact hk'
  rw [oth_par _ i k _ (Nat.le_refl _), List.take_of_length_le (Nat.le_refl _), par_pty A c S K hkS, if_pos hi]
  rw [show (K ++ [pty A c S K]).getD i ⟨none, 0, 0, []⟩ = (K ++ [pty A c S K])[i] by rw [List.getD_eq_getElem?_getD, List.getElem?_eq_getElem hi]; rfl]
  rw [Sl.at_lt _ hk', BitVec.zero_xor]

theorem byte_size : (Try.prog.info? 5).map (·.size) = some 1 := by kernel_rfl
def pad (l : List (BitVec 8)) (M : Nat) : List (BitVec 8) := l ++ List.replicate (M - l.length) 0#8
theorem pad_len (l : List (BitVec 8)) (M : Nat) (h : l.length ≤ M) : (pad l M).length = M := by simp [pad]; omega
theorem spliced (l : List (BitVec 8)) (M : Nat) (h : l.length ≤ M) : splice (List.replicate M (Value.int .u8 0)) 0 (l.map val) = (pad l M).map val := by
  simp [splice, pad, val]
/-- 'copy' into a row of M noughts: some M bytes lie there then. -/
theorem copy_run {w w1 : World} {B g M n c : Nat} {A : Option Addr} {l : List (BitVec 8)} (hg : At w1 g (tabA M fun _ => 0#8) 5) (hh : Has w1 A n l)
    (hb : Below B w w1) (hB : B ≤ g) : ∃ w2 r, ∃ k : List (BitVec 8), (Builtin.copy_ #[25, 25] 3 #[.slice (some ⟨g, 0, none⟩) M M, .slice A n c]).run Try.prog w1 = .ok (goInt r) w2 ∧ k.length = M ∧
      At w2 g (k.map val).toArray 5 ∧ Below B w w2 := by
  have hl := hh.1
  rw [tabA_zero] at hg
  have hg : w1.heap[g]? = some (.cells (List.replicate M (Value.int .u8 0)).toArray 5 (0, 0)) := by rw [List.toArray_replicate]; exact hg
  by_cases h0 : Nat.min n M = 0
  · refine ⟨w1, 0, List.replicate M 0#8, run_copy_none (P := Try.prog) w1 25 25 3 5 _ _ _ _ _ _ Try.underlying25 byte_size h0, by simp, ?_, hb⟩
    unfold At
    rw [hg]
    simp [val]
  · have hn0 : 0 < n := by rcases Nat.eq_zero_or_pos n with h | h; · subst h; exact absurd (Nat.zero_min M) h0
                           · exact h
    obtain ⟨b, off, rfl⟩ := hh.some_ hn0
    have ht := hh.take (Nat.min n M) (Nat.min_le_left _ _)
    have hlen : (l.take (Nat.min n M)).length = Nat.min n M := ht.1
    have hle : Nat.min n M ≤ M := Nat.min_le_right _ _
    have hrun := run_copy_row (P := Try.prog) w1 25 25 3 5 g 0 M M ⟨b, off, none⟩ n c _ 5 ((l.take (Nat.min n M)).map val) Try.underlying25 byte_size hg (by rw [List.length_map, hlen]) ht.cells (by rw [List.length_map, hlen]; simp; omega) (val_one _)
    refine ⟨_, _, pad (l.take (Nat.min n M)) M, hrun, pad_len _ _ (by rw [hlen]; exact hle), ?_, below_setRow hb hB _⟩
    · unfold At
      rw [← spliced _ M (by rw [hlen]; exact hle)]
      simpa [splice] using setRow_heap w1 g _ _ 5 _ hg

end Go.Proofs.Ytengfhcocagpiaa
