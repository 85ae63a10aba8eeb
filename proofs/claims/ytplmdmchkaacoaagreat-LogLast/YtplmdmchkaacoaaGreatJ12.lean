/-
  TEXTS JOINED: Rest, Chunk, Same.
-/
import Derived.Test.YtplmdmchkaacoaaGreatJ11

/-
  THE WALK OF restore: the parity of a sector of all members but one.
-/
namespace Go.Proofs.YtplmdmchkaacoaaGreat
open Go.RowKit Go.Maps
set_option linter.unusedVariables false
set_option maxRecDepth 100000

/-- The bytes at a place, XORed. -/
def parB : List Bytes → Nat → BitVec 8
  | [], _ => 0#8
  | x :: r, k => x.getD k 0#8 ^^^ parB r k
theorem par_map (L : List Sl) (k : Nat) : par L k = parB (L.map Sl.l) k := by
  induction L with
  | nil => rfl
  | cons x r ih => simp only [par, List.map_cons, parB, ih, Sl.at_]
/-- M blocks of n bytes, XORed. -/
def xorB (M n : Nat) (g : Nat → Bytes) : Bytes := tab n (parB ((List.range M).map g))
theorem xorB_len (M n : Nat) (g : Nat → Bytes) : (xorB M n g).length = n := tab_len _ _
theorem xorB_congr {M n : Nat} {g h : Nat → Bytes} (e : ∀ i, i < M → g i = h i) : xorB M n g = xorB M n h := by
  unfold xorB
  congr 2
  exact List.map_congr_left (fun i hi => e i (by simpa using hi))
/-- The others' bytes. -/
def others (s : AS) (m : Nat) (i : Int) (j : Nat) : Bytes := if j = m then [] else (s.d j).read i
def mend (s : AS) (m : Nat) (i : Int) : Bytes := xorB s.M s.b.toNat (others s m i)

theorem others_par {L : List Sl} {M m n : Nat} {g : Nat → Bytes} (hL : L.map Sl.l = (List.range M).map g) (hm : m < M) (hg : g m = []) (hn : ∀ j, j < M → j ≠ m → (g j).length = n) (hM : 2 ≤ M) :
    mx (oth L (m : Int) M) = n ∧ ∀ k, par (oth L (m : Int) M) k = parB ((List.range M).map g) k := by
  have hlen : L.length = M := by have := congrArg List.length hL; simpa using this
  have hget : ∀ j (h : j < L.length), (L[j]).l = g j := by
    intro j h
    have h1 : (L.map Sl.l)[j]? = ((List.range M).map g)[j]? := by rw [hL]
    rw [List.getElem?_map, List.getElem?_map, List.getElem?_eq_getElem h, List.getElem?_range (by omega)] at h1
    simpa using h1
  have hmem : ∀ j, j ≤ M → ∀ x ∈ oth L (m : Int) j, x.l.length = n := by
    intro j
    induction j with
    | zero => intro _ x hx; simp [oth] at hx
    | succ j ih =>
      intro hj x hx
      have hlt : j < L.length := by omega
      by_cases e : (j : Int) = (m : Int)
      · rw [oth_same hlt e] at hx
        exact ih (by omega) x hx
      · rw [oth_more hlt e] at hx
        rcases List.mem_append.1 hx with hx | hx
        · exact ih (by omega) x hx
        · simp at hx; subst hx
          rw [hget]
          exact hn j (by omega) (by omega)
  have hcnt : ∀ j, j ≤ M → (oth L (m : Int) j).length = if m < j then j - 1 else j := by
    intro j
    induction j with
    | zero => intro _; simp [oth]
    | succ j ih =>
      intro hj
      have hlt : j < L.length := by omega
      have h := ih (by omega)
      by_cases e : (j : Int) = (m : Int)
      · rw [oth_same hlt e, h, if_neg (by omega), if_pos (by omega)]; omega
      · rw [oth_more hlt e, List.length_append, h]
        by_cases h2 : m < j
        · rw [if_pos h2, if_pos (by omega)]; simp; omega
        · rw [if_neg h2, if_neg (by omega)]; simp
  constructor
  · have h1 := hcnt M (Nat.le_refl _)
    rw [if_pos hm] at h1
    cases hO : oth L (m : Int) M with
    | nil => rw [hO] at h1; simp at h1; omega
    | cons x r =>
      have ha : ∀ y ∈ x :: r, y.l.length = n := by rw [← hO]; exact hmem M (Nat.le_refl _)
      have h2 : x.l.length ≤ mx (x :: r) := mx_mem (by simp)
      have h3 := mx_le (L := x :: r) (M := n) (fun y hy => by rw [ha y hy]; exact Nat.le_refl _)
      have := ha x (by simp)
      omega
  · intro k
    rw [oth_par L m k M (by omega), if_pos hm, List.take_of_length_le (by omega), ← hL, ← par_map]
    have : (L.getD m ⟨none, 0, 0, []⟩).at_ k = 0#8 := by
      rw [List.getD_eq_getElem?_getD, List.getElem?_eq_getElem (by omega : m < L.length)]
      show (L[m]).at_ k = _
      unfold Sl.at_
      rw [hget, hg]
      rfl
    rw [this, BitVec.xor_zero]

section
variable {w w' : World} {P : Pl} {O : Nat → Prop} {s : AS}
/-- What restore's closure has captured. -/
structure Rs (w : World) (P : Pl) (O : Nat → Prop) (b1 b2 b3 : Nat) (m : Nat) (i : Int) : Prop where
  at1 : At w b1 #[.int .i64 (m : Int)] 3
  at2 : At w b2 #[.pointer (some ⟨P.a, 0, none⟩)] 41
  at3 : At w b3 #[.int .i64 i] 3
theorem Rs.but {S : Nat → Prop} {b1 b2 b3 m : Nat} {i : Int} (h : Rs w P O b1 b2 b3 m i) (hb : But S w w') (hS : ¬ S b1 ∧ ¬ S b2 ∧ ¬ S b3) : Rs w' P O b1 b2 b3 m i := ⟨h.at1.but hb hS.1, h.at2.but hb hS.2.1, h.at3.but hb hS.2.2⟩

/-- The bytes of the first ones. -/
def Got (s0 : AS) (m : Nat) (i : Int) (l : List Bytes) (s : AS) : Prop :=
  Rel (fun _ => Aged) (2 * (l.length : Int)) s0 s ∧ s.stale = (m : Int) ∧ l = (List.range l.length).map (others s0 m i)
def Fell (s0 : AS) (er : Int) (s : AS) : Prop := er = 3 ∧ Gone 10 s0 s

theorem got_next {s0 s1 : AS} {m : Nat} {i : Int} {l : List Bytes} (h : Got s0 m i l s) (k : Rel (fun _ => Aged) 2 s s1) (he : s1.stale = (m : Int)) {b : Bytes} (hb : b = others s0 m i l.length) : Got s0 m i (l ++ [b]) s1 := by
  refine ⟨(h.1.trans k (fun _ _ _ _ _ a b => a.trans b) (fun _ _ _ _ a b => a.dies b)).mono (fun _ _ _ _ h => h) (by simp; omega), he, ?_⟩
  rw [List.length_append, List.length_singleton, List.range_succ, List.map_append, ← h.2.2, hb]
  simp

set_option maxHeartbeats 800000 in
theorem restoreOne (s0 : AS) (b1 b2 b3 m j : Nat) (i : Int) (l : List Bytes) (hl : l.length = j) (hm : m < s0.M) (hj : j < s0.M) (hi : 0 ≤ i ∧ i < (s0.S : Int)) (hst : s0.stale = (m : Int)) (hu : s0.u ≤ 800000) (h : Arr w P O s) (hz : Rs w P O b1 b2 b3 m i) (hg : Got s0 m i l s) :
    Calls Tryz.prog 115 #[.int .i64 (j : Int), .pointer (some ⟨b1, 0, none⟩), .pointer (some ⟨b2, 0, none⟩), .pointer (some ⟨b3, 0, none⟩)] w (Reads P O (Got s0 m i) (Fell s0) l w) := by
  have d1 := hz.at1.cell 0
  have d2 := hz.at2.cell 0
  have d3 := hz.at3.cell 0
  have HA := Lib.hid h
  have HG := Lib.hid hg
  have b48 := Lib.hid h.wf.small.hb
  clear h hz hg
  by_cases e : j = m
  · subst e
    go_enter Tryz.func115, Tryz.ntmps115
    go_wp2
    go_ret2
    refine ⟨_, _, s, rfl, HA.out, But.refl _ _, .inl ⟨rfl, none, 0, 0, [], rfl, Has.nil _ _, by omega, (fun a ha => by cases ha), ?_⟩⟩
    exact got_next HG.out (Rel.refl (fun _ _ => Aged.refl _) HG.out.1.whole.2 (by omega)) HG.out.2.1 (by unfold others; rw [if_pos hl])
  · have e1 : ¬ (j : Int) = (m : Int) := by omega
    have hne : ((j : Int) == (m : Int)) = false := by simpa using e1
    have E1 := Lib.hid e
    have E2 := Lib.hid e1
    have HJ := Lib.hid hj
    clear e e1
    go_enter Tryz.func115, Tryz.ntmps115
    go_wp2_with fail
    refine (read_any j (by rw [HG.out.1.same.M]; exact hj) i (by rw [HG.out.1.same.S]; exact hi) HA.out (by have := HG.out.1.u.2; have := HA.out.many; have := HG.out.1.same.M; omega)).mono ?_
    rintro e w2 ⟨v, er, s1, rfl, k1, k2, k3⟩
    have A2 := Lib.hid k1
    have B2 := Lib.hid k2
    have R2 := Lib.hid k3
    clear k1 k2 k3
    go_wp2
    go_ret2
    refine ⟨_, _, s1, rfl, A2.out, B2.out, ?_⟩
    have hMM := HG.out.1.same.M
    generalize he : er = er' at *
    have R3 := R2.out
    cases R3 with
    | got v hr hs hst' hv _ =>
      refine .inl ⟨rfl, ?_⟩
      obtain ⟨A, cap, rfl, hh, _, ha⟩ := own_form hv
      refine ⟨A, _, cap, _, rfl, hh, ?_, ha, got_next HG.out hr (hst'.trans HG.out.2.1) ?_⟩
      · have := HA.out.len (m := j) (by rw [hMM]; exact hj) i
        have := b48.out
        omega
      · unfold others
        rw [hl, if_neg E1.out]
        exact (HG.out.1.disk j hj).read ▸ rfl
    | lost hr hs =>
      exfalso
      have h1 := HG.out.2.1
      rcases hr.stale with e | ⟨e, _⟩
      · rw [hs, h1] at e; exact E2.out e
      · rw [h1] at e; omega
    | gone hgn => exact .inr ⟨by decide, rfl, (HG.out.1.gone hgn).mono (by have := A2.out.many; have := HA.out.many; omega)⟩

theorem enters76 (b1 b2 b3 : Nat) (i : Int) (w : World) : (callFunc 115 ((#[] : Array Value).push (.int .i64 i) ++ #[.pointer (some ⟨b1, 0, none⟩), .pointer (some ⟨b2, 0, none⟩), .pointer (some ⟨b3, 0, none⟩)])).run Tryz.prog w = .ok (.enter 115 ((#[] : Array Value).push (.int .i64 i) ++ #[.pointer (some ⟨b1, 0, none⟩), .pointer (some ⟨b2, 0, none⟩), .pointer (some ⟨b3, 0, none⟩)])) w := by kernel_rfl

theorem rest_row {w w3 : World} {g X : Nat} {l : Bytes} (hat : At w3 g (l.map val).toArray 5) (hX : l.length = X) (h48 : X ≤ 48) (hg : w.heap.size ≤ g) : NewRow w w3 (.slice (some ⟨g, 0, none⟩) X X) l := by
  subst hX
  exact own_of_row hat rfl (by unfold maxLen; omega) hg
/-- What restoring a sector comes to. -/
inductive RestAs (w w' : World) (s s' : AS) (m : Nat) (i : Int) : Value → Int → Prop
  | got (v : Value) (hr : Rel (fun _ => Aged) 10 s s') (hs : s'.stale = (m : Int)) (hv : NewRow w w' v (mend s m i)) : RestAs w w' s s' m i v 0
  | gone (hg : Gone 10 s s') : RestAs w w' s s' m i (.slice none 0 0) 3

set_option maxHeartbeats 1600000 in
theorem restore_any (m : Nat) (hm : m < s.M) (i : Int) (hi : 0 ≤ i ∧ i < (s.S : Int)) (hst : s.stale = (m : Int)) (hbr : s.broken = false) (h : Arr w P O s) (hu : s.u ≤ 800000) :
    Calls Tryz.prog 70 #[.pointer (some ⟨P.a, 0, none⟩), .int .i64 (m : Int), .int .i64 i] w fun e w' => ∃ v er s', e = .returned (.tuple #[v, .int .i64 er]) ∧ Arr w' P O s' ∧ But O w w' ∧ RestAs w w' s s' m i v er := by
  have hmf : ∀ (fn : Fn) (first cap : Array Value) (w : World), (Instr.makeFunc fn first cap).run Tryz.prog w = .ok (.func fn first cap) w := fun _ _ _ _ => rfl
  obtain ⟨W, hW⟩ : ∃ W, W = ((w.alloc (.cells #[.pointer (some ⟨P.a, 0, none⟩)] 41)).alloc (.cells #[.int .i64 (m : Int)] 3)).alloc (.cells #[.int .i64 i] 3) := ⟨_, rfl⟩
  have B1 := Lib.hid (show But O w W by rw [hW]; exact ((((But.refl O w).alloc _).alloc _).alloc _))
  have HA := Lib.hid (show Arr W P O s by rw [hW]; exact (((h.alloc _).alloc _).alloc _))
  have hz : Rs W P O (w.heap.size + 1) w.heap.size (w.heap.size + 1 + 1) m i := by
    refine ⟨?_, ?_, ?_⟩
    · rw [hW]; exact (At.new _ 3 (by simp)).alloc _
    · rw [hW]; exact ((At.new _ 41 rfl).alloc _).alloc _
    · rw [hW]; exact At.new _ 3 (by simp)
  have hsz : W.heap.size = w.heap.size + 1 + 1 + 1 := by rw [hW]; simp
  have olt := h.lt
  have ml := h.many
  have RS := Lib.hid hz
  have hcol := collect_any (w := W) (P := P) (O := O) (s := s) 115 #[] #[.pointer (some ⟨w.heap.size + 1, 0, none⟩), .pointer (some ⟨w.heap.size, 0, none⟩), .pointer (some ⟨w.heap.size + 1 + 1, 0, none⟩)] 0 s.M (Got s m i) (Fell s) (fun w' => Rs w' P O (w.heap.size + 1) w.heap.size (w.heap.size + 1 + 1) m i)
    (by omega) (by omega) (fun i w => enters76 _ _ _ i w) (fun S w1 w2 hz hb hS => hz.but hb ⟨fun e => (hS _ e).elim (fun e => by have := olt _ e; omega) (fun e => by omega), fun e => (hS _ e).elim (fun e => by have := olt _ e; omega) (fun e => by omega), fun e => (hS _ e).elim (fun e => by have := olt _ e; omega) (fun e => by omega)⟩)
    (fun j l w' s' ha hz hg hj hl => by
      rw [hj, Int.zero_add]
      exact restoreOne s _ _ _ m l.length i l rfl hm hl hi hst hu ha hz hg)
    HA.out RS.out ⟨Rel.refl (fun _ _ => Aged.refl _) hbr (by simp), hst, rfl⟩
  rw [Int.zero_add] at hcol
  have HC := Lib.hid hcol
  obtain ⟨c6, c7, c8⟩ := HA.out.cells
  have d1 := hz.at1.cell 0
  have d2 := hz.at2.cell 0
  have d3 := hz.at3.cell 0
  have HL := Lib.hid (fun j (hj : j < s.M) => h.len hj i)
  have b48 := Lib.hid h.wf.small.hb
  have g6 := c6
  rw [hW] at g6
  clear h hz hcol c7 c8
  go_enter Tryz.func70, Tryz.ntmps70
  go_wp2_with fail
  rw [← hW]
  refine HC.out.mono ?_
  rintro e w2 ⟨v, er, s', rfl, k1, k2, k3⟩
  have A2 := Lib.hid k1
  have B2 := Lib.hid (B1.out.trans k2 (fun _ h _ => h))
  have RS2 := RS.out.but k2 ⟨fun e => by have := olt _ e; omega, fun e => by have := olt _ e; omega, fun e => by have := olt _ e; omega⟩
  have e1 := RS2.at1.cell 0
  have HW := Lib.hid hW
  have Z2 := Lib.hid k2.size
  clear k1 k2 c6 g6 d1 d2 d3 RS2 RS HC hW
  rcases k3 with ⟨rfl, L, k4, k5, k6⟩ | ⟨hne, rfl, k4⟩
  · have G2 := Lib.hid k6
    obtain ⟨A, c, hv, hln⟩ := k4.ln (by omega)
    rw [k5] at hln hv
    subst hv
    have LN := Lib.hid hln
    have LL := Lib.hid k5
    clear k4 k6 hln k5
    go_wp2_with fail
    refine (but_any A s.M c L (m : Int) w2 LN.out).mono ?_
    rintro e w3 ⟨g, rfl, hat, hlo, hb⟩
    have hm2 : (s.b.toNat : Int) = s.b := by have := b48.out; omega
    obtain ⟨q1, q2⟩ := others_par (L := L) (M := s.M) (m := m) (n := s.b.toNat) (g := others s m i) (by have := G2.out.2.2; rw [List.length_map, LL.out] at this; exact this) hm (by unfold others; rw [if_pos rfl]) (fun j hj hne => by unfold others; rw [if_neg hne]; have := HL.out j hj; omega) (by omega)
    have A3 := Lib.hid (A2.out.up hb)
    have B3 := Lib.hid (B2.out.trans (But.of_below (S := fun _ => False) hb) (fun _ h _ => h.elim))
    have e3 : tabA (mx (oth L (m : Int) s.M)) (par (oth L (m : Int) s.M)) = ((mend s m i).map val).toArray := by
      unfold tabA mend xorB
      rw [q1, tab_congr (g := parB ((List.range s.M).map (others s m i))) (fun k _ => q2 k)]
    rw [e3] at hat
    have hl2 : (mend s m i).length = s.b.toNat := by unfold mend; exact xorB_len s.M s.b.toNat _
    have h48 : s.b.toNat ≤ 48 := by have := b48.out; omega
    have hlo2 : w.heap.size ≤ g := by have := Z2.out; omega
    generalize mx (oth L (m : Int) s.M) = X at *
    subst q1
    have V3 := Lib.hid (rest_row (w := w) hat hl2 h48 hlo2)
    clear hat hlo hb q2 hl2 h48 hlo2 e3
    go_wp2
    go_ret2
    exact ⟨_, _, s', rfl, A3.out, B3.out, .got _ (G2.out.1.mono (fun _ _ _ _ h => h) (by rw [List.length_map, LL.out]; omega)) G2.out.2.1 V3.out⟩
  · have F2 := Lib.hid k4
    have hne2 : (er != 0) = true := by simpa using hne
    go_wp2
    go_ret2
    obtain ⟨rfl, hgn⟩ := F2.out
    exact ⟨_, _, s', rfl, A2.out, B2.out, .gone hgn⟩
end
end Go.Proofs.YtplmdmchkaacoaaGreat

/-
  THE WALK OF Chunk.
-/
namespace Go.Proofs.YtplmdmchkaacoaaGreat
open Go.RowKit Go.Maps
set_option linter.unusedVariables false
set_option maxRecDepth 100000

section
variable {w w' : World} {P : Pl} {O : Nat → Prop} {s : AS}

theorem others_aged {s1 : AS} {c : Int} {m : Nat} {i : Int} (h : Rel (fun _ => Aged) c s s1) (j : Nat) (hj : j < s.M) : others s1 m i j = others s m i j := by
  unfold others
  rw [(h.disk j hj).read]
theorem mend_aged {s1 : AS} {c : Int} {m : Nat} {i : Int} (h : Rel (fun _ => Aged) c s s1) : mend s1 m i = mend s m i := by
  unfold mend
  rw [h.same.M, h.same.b]
  exact xorB_congr (fun j hj => others_aged h j hj)
theorem at_in (h : s.Wf) {t : Int} (ht : 0 ≤ t ∧ t < s.N) : 0 ≤ s.at_ t ∧ s.at_ t < (s.S : Int) := by
  have h1 := h.total
  have h2 := h.some_
  unfold AS.at_ at *
  omega
theorem Rel.aged2 {s1 s2 : AS} {c d : Int} (h : Rel (fun _ => Aged) c s s1) (k : Rel (fun _ => Aged) d s1 s2) : Rel (fun _ => Aged) (c + d) s s2 :=
  h.trans k (fun _ _ _ _ _ a b => a.trans b) (fun _ _ _ _ a b => a.dies b)

/-- What reading a chunk that lies on member m comes to. -/
inductive ChunkAs (w w' : World) (s s' : AS) (m : Nat) (i : Int) : Value → Int → Prop
  | got (v : Value) (hr : Rel (fun _ => Aged) 12 s s') (hs : s.stale ≠ (m : Int)) (he : s'.stale = s.stale) (hv : NewRow w w' v ((s.d m).read i)) (hl : (s'.d m).dead = false) : ChunkAs w w' s s' m i v 0
  | rest (v : Value) (hr : Rel (fun _ => Aged) 12 s s') (hs : s'.stale = (m : Int)) (hv : NewRow w w' v (mend s m i)) : ChunkAs w w' s s' m i v 0
  | gone (hg : Gone 12 s s') : ChunkAs w w' s s' m i (.slice none 0 0) 3

set_option maxHeartbeats 1600000 in
theorem Chunk_any (t k : Int) (m : Nat) (ht : 0 ≤ t ∧ t < s.N) (hk : 0 ≤ k ∧ k < (s.M : Int) - 1) (hm : (t + 1 + k) % (s.M : Int) = (m : Int)) (h : Arr w P O s) (hu : s.u ≤ 700000) :
    Calls Tryz.prog 24 #[.pointer (some ⟨P.a, 0, none⟩), .int .i64 t, .int .i64 k] w fun e w' => ∃ v er s', e = .returned (.tuple #[v, .int .i64 er]) ∧ Arr w' P O s' ∧ But O w w' ∧ ChunkAs w w' s s' m (s.at_ t) v er := by
  have HA := Lib.hid h
  have hM := h.many
  have hN := Lib.hid h.wf.n
  have HT := Lib.hid ht
  have HK := Lib.hid hk
  have HM := Lib.hid hm
  have hml := Lib.hid (show m < s.M by have := Int.emod_lt_of_pos (t + 1 + k) (show 0 < (s.M : Int) by omega); omega)
  have t1 : decide (0 ≤ t ∧ t < s.N) = true := decide_eq_true ht
  have t2 : decide (0 ≤ k ∧ k < (s.M : Int) - 1) = true := decide_eq_true hk
  obtain ⟨c0, c1, c2, c3, c4, c5⟩ := h.shape
  clear h ht hk hm
  go_enter Tryz.func24, Tryz.ntmps24
  go_wp2_with fail
  refine (all_call HA.out.wf w).mono ?_
  rintro e w1 ⟨rfl, hb⟩
  have A1 := Lib.hid (HA.out.up hb)
  have B1 := Lib.hid (But.of_below (S := O) hb)
  clear hb c0 c1 c2 c3 c4 c5
  go_wp2_with fail
  refine (inside_any t s.N w1).mono ?_
  rintro e w1 ⟨rfl, rfl⟩
  rw [t1]
  go_wp2_with fail
  refine (chunks_any A1.out).mono ?_
  rintro e w1 ⟨rfl, rfl⟩
  go_wp2_with fail
  refine (inside_any k ((s.M : Int) - 1) w1).mono ?_
  rintro e w1 ⟨rfl, rfl⟩
  rw [t2]
  clear t1 t2
  go_wp2_with fail
  have S0 : (fun w' : World => Arr w' P O s) w1.drew := A1.out.drew
  refine wp_region_early (fun w' : World => Arr w' P O s) (fun _ => true) (by kernel_rfl) ?_
  change wpEarly _ _ _ _ _ _ 15 (Array.replicate 15 false) _ w1.drew
  refine early_take (i := 0) 27 (.pointer (some ⟨P.a, 0, none⟩)) rfl rfl (by kernel_rfl) (by kernel_rfl) (by kernel_rfl) (by kernel_rfl) rfl (fun _ _ _ h => h) (fun w' hw' => by go_simp) S0 ?_
  simp only [Act.put, List.setIfInBounds_toArray, List.set_cons_zero, List.set_cons_succ]
  refine early_take (i := 1) 28 (.pointer (some ⟨P.a, 0, none⟩)) rfl rfl (by kernel_rfl) (by kernel_rfl) (by kernel_rfl) (by kernel_rfl) rfl (fun _ _ _ h => h) (fun w' hw' => by go_simp) S0 ?_
  simp only [Act.put, List.setIfInBounds_toArray, List.set_cons_zero, List.set_cons_succ]
  refine early_take (i := 2) 29 (.pointer (some ⟨P.a, 0, none⟩)) rfl rfl (by kernel_rfl) (by kernel_rfl) (by kernel_rfl) (by kernel_rfl) rfl (fun _ _ _ h => h) (fun w' hw' => by go_simp) S0 ?_
  simp only [Act.put, List.setIfInBounds_toArray, List.set_cons_zero, List.set_cons_succ]
  refine early_take (i := 3) 30 (sv (s.M : Int) s.b s.g s.s s.n s.l) rfl rfl (by kernel_rfl) (by kernel_rfl) (by kernel_rfl) (by kernel_rfl) rfl (fun _ _ _ h => h) (fun w' hw' => exec_shape (x := .tmp 29) rfl rfl hw'.range) S0 ?_
  simp only [Act.put, List.setIfInBounds_toArray, List.set_cons_zero, List.set_cons_succ]
  refine early_take (i := 4) 31 (.int .i64 t) rfl rfl (by kernel_rfl) (by kernel_rfl) (by kernel_rfl) (by kernel_rfl) rfl (fun _ _ _ h => h) (fun w' hw' => by go_simp) S0 ?_
  simp only [Act.put, List.setIfInBounds_toArray, List.set_cons_zero, List.set_cons_succ]
  refine early_take (i := 5) 32 (.int .i64 k) rfl rfl (by kernel_rfl) (by kernel_rfl) (by kernel_rfl) (by kernel_rfl) rfl (fun _ _ _ h => h) (fun w' hw' => by go_simp) S0 ?_
  simp only [Act.put, List.setIfInBounds_toArray, List.set_cons_zero, List.set_cons_succ]
  refine early_take (i := 7) 34 (.pointer (some ⟨P.a, 0, none⟩)) rfl rfl (by kernel_rfl) (by kernel_rfl) (by kernel_rfl) (by kernel_rfl) rfl (fun _ _ _ h => h) (fun w' hw' => by go_simp) S0 ?_
  simp only [Act.put, List.setIfInBounds_toArray, List.set_cons_zero, List.set_cons_succ]
  refine early_take (i := 8) 35 (.pointer (some ⟨P.a, 0, none⟩)) rfl rfl (by kernel_rfl) (by kernel_rfl) (by kernel_rfl) (by kernel_rfl) rfl (fun _ _ _ h => h) (fun w' hw' => by go_simp) S0 ?_
  simp only [Act.put, List.setIfInBounds_toArray, List.set_cons_zero, List.set_cons_succ]
  refine early_take (i := 9) 36 (.pointer (some ⟨P.a, 0, none⟩)) rfl rfl (by kernel_rfl) (by kernel_rfl) (by kernel_rfl) (by kernel_rfl) rfl (fun _ _ _ h => h) (fun w' hw' => by go_simp) S0 ?_
  simp only [Act.put, List.setIfInBounds_toArray, List.set_cons_zero, List.set_cons_succ]
  refine early_take (i := 10) 37 (sv (s.M : Int) s.b s.g s.s s.n s.l) rfl rfl (by kernel_rfl) (by kernel_rfl) (by kernel_rfl) (by kernel_rfl) rfl (fun _ _ _ h => h) (fun w' hw' => exec_shape (x := .tmp 36) rfl rfl hw'.range) S0 ?_
  simp only [Act.put, List.setIfInBounds_toArray, List.set_cons_zero, List.set_cons_succ]
  refine early_take (i := 11) 38 (.int .i64 t) rfl rfl (by kernel_rfl) (by kernel_rfl) (by kernel_rfl) (by kernel_rfl) rfl (fun _ _ _ h => h) (fun w' hw' => by go_simp) S0 ?_
  simp only [Act.put, List.setIfInBounds_toArray, List.set_cons_zero, List.set_cons_succ]
  refine early_only (i := 6) (by kernel_rfl) rfl (fun K hK => ?_)
  simp only [opWp, List.getElem?_toArray, List.getElem?_cons_succ, List.getElem?_cons_zero]
  go_simp
  go_at_call 67
  refine (member_call HA.out.wf t (by have := HT.out; have := hN.out; omega) k (by have := HK.out; omega) _).mono ?_
  rintro e w2 ⟨rfl, hb2⟩
  rw [HM.out]
  have S2 : (fun w' : World => Arr w' P O s) w2 := S0.up hb2
  have B2 := Lib.hid (B1.out.trans (But.of_drewN 1 (But.of_below (S := fun _ => False) hb2)) (fun _ h _ => h.elim))
  clear hb2
  refine hK _ _ (fun _ => S2) ?_
  refine early_only (i := 12) (by kernel_rfl) rfl (fun K hK => ?_)
  simp only [opWp, List.getElem?_toArray, List.getElem?_cons_succ, List.getElem?_cons_zero]
  go_simp
  go_at_call 68
  refine (at_call HA.out.wf t (by have := HT.out; have := hN.out; omega) _).mono ?_
  rintro e w3 ⟨rfl, hb3⟩
  have S3 : (fun w' : World => Arr w' P O s) w3 := S2.up hb3
  have B3 := Lib.hid (B2.out.trans (But.of_below (S := fun _ => False) hb3) (fun _ h _ => h.elim))
  clear hb3
  refine hK _ _ (fun _ => S3) ?_
  refine early_take (i := 13) 8 (.int .i64 (m : Int)) rfl rfl (by kernel_rfl) (by kernel_rfl) (by kernel_rfl) (by kernel_rfl) rfl (fun _ _ _ h => h) (fun w' hw' => by go_simp) S3 ?_
  simp only [Act.put, List.setIfInBounds_toArray, List.set_cons_zero, List.set_cons_succ]
  refine early_take (i := 14) 9 (.int .i64 (s.at_ t)) rfl rfl (by kernel_rfl) (by kernel_rfl) (by kernel_rfl) (by kernel_rfl) rfl (fun _ _ _ h => h) (fun w' hw' => by go_simp) S3 ?_
  simp only [Act.put, List.setIfInBounds_toArray, List.set_cons_zero, List.set_cons_succ]
  refine early_done (by kernel_rfl) ?_
  have A3 := Lib.hid S3
  have IN := Lib.hid (at_in HA.out.wf HT.out)
  clear S0 S2 S3
  go_wp2_with fail
  refine (read_any m hml.out (s.at_ t) IN.out A3.out (by omega)).mono ?_
  rintro e w4 ⟨v, er, s1, rfl, k1, k2, k3⟩
  have A4 := Lib.hid k1
  have B4 := Lib.hid (B3.out.trans k2 (fun _ h _ => h))
  have R4 := Lib.hid k3
  have Z3 := Lib.hid B3.out.size
  clear k1 k2 k3
  have R5 := R4.out
  cases R5 with
  | got v hr hs hst hv hl =>
    have X := Lib.hid (show ChunkAs w w4 s s1 m (s.at_ t) v 0 from .got v (hr.mono (fun _ _ _ _ h => h) (by omega)) hs hst (own_base hv (fun j hj => Nat.le_trans Z3.out (hv.lt j hj).1)) hl)
    clear R4 hr hs hst hv hl
    go_wp2
    go_ret2
    exact ⟨_, _, s1, rfl, A4.out, B4.out, X.out⟩
  | lost hr hs =>
    have R6 := Lib.hid hr
    have S6 := Lib.hid hs
    clear R4 hr hs
    go_wp2_with fail
    refine (restore_any m (by rw [R6.out.same.M]; exact hml.out) (s.at_ t) (by rw [R6.out.same.S]; exact IN.out) S6.out R6.out.whole.2 A4.out (by have := R6.out.u.2; omega)).mono ?_
    rintro e w5 ⟨v, er, s2, rfl, k1, k2, k3⟩
    have A5 := Lib.hid k1
    have B5 := Lib.hid (B4.out.trans k2 (fun _ h _ => h))
    have Z4 := Lib.hid B4.out.size
    have X := Lib.hid (show ChunkAs w w5 s s2 m (s.at_ t) v er by
      cases k3 with
      | got _ hr hs hv => exact .rest _ ((R6.out.aged2 hr).mono (fun _ _ _ _ h => h) (by omega)) hs (by rw [mend_aged R6.out] at hv; exact own_base hv (fun j hj => Nat.le_trans Z4.out (hv.lt j hj).1))
      | gone hg => exact .gone ((R6.out.gone hg).mono (by omega)))
    clear k1 k2 k3
    go_wp2
    go_ret2
    exact ⟨_, _, s2, rfl, A5.out, B5.out, X.out⟩
  | gone hg =>
    have X := Lib.hid (show ChunkAs w w4 s s1 m (s.at_ t) (.slice none 0 0) 3 from .gone (hg.mono (by omega)))
    clear R4 hg
    go_wp2
    go_ret2
    exact ⟨_, _, s1, rfl, A4.out, B4.out, X.out⟩
end
end Go.Proofs.YtplmdmchkaacoaaGreat

/-
  THE WALK OF PutSame.
-/
namespace Go.Proofs.YtplmdmchkaacoaaGreat
open Go.RowKit Go.Maps
set_option linter.unusedVariables false
set_option maxRecDepth 100000

section
variable {w w' : World} {P : Pl} {O : Nat → Prop} {s : AS}

/-- What PutSame's closure has captured. -/
structure Sm (w : World) (P : Pl) (O : Nat → Prop) (b1 b2 b3 : Nat) (i : Int) (A : Option Addr) (n c : Nat) (b : Bytes) : Prop where
  box : Box w b1 P O
  at2 : At w b2 #[.int .i64 i] 3
  at3 : At w b3 #[.slice A n c] 57
  has : Has w A n b
  off : ¬ O b2 ∧ ¬ O b3 ∧ ∀ x, A = some x → ¬ O x.block
theorem Sm.frame {O' : Nat → Prop} {b1 b2 b3 : Nat} {i : Int} {A : Option Addr} {n c : Nat} {b : Bytes} (h : Sm w P O b1 b2 b3 i A n c b) (hb : But O w w') (hO : ∀ k, O' k → O k ∨ w.heap.size ≤ k) (h0 : 0 < n) : Sm w' P O' b1 b2 b3 i A n c b := by
  obtain ⟨k2, k3, k4⟩ := h.off
  refine ⟨h.box.frame hb hO, h.at2.but hb k2, h.at3.but hb k3, h.has.but hb k4, fun e => (hO _ e).elim k2 (fun e => by have := h.at2.lt; omega), fun e => (hO _ e).elim k3 (fun e => by have := h.at3.lt; omega), fun x hx e => (hO _ e).elim (k4 x hx) (fun e => ?_)⟩
  obtain ⟨bb, off, e1, hlt, _⟩ := h.has.2 h0
  rw [hx] at e1
  injection e1 with e1
  rw [e1] at e
  simp at e
  omega

theorem Sm.up {b1 b2 b3 : Nat} {i : Int} {A : Option Addr} {n c : Nat} {b : Bytes} (h : Sm w P O b1 b2 b3 i A n c b) (hb : Below w.heap.size w w') : Sm w' P O b1 b2 b3 i A n c b :=
  ⟨⟨h.box.1.below hb h.box.1.lt, h.box.2⟩, h.at2.below hb h.at2.lt, h.at3.below hb h.at3.lt, h.has.below hb, h.off⟩
theorem Sm.drew {b1 b2 b3 : Nat} {i : Int} {A : Option Addr} {n c : Nat} {b : Bytes} (h : Sm w P O b1 b2 b3 i A n c b) : Sm w.drew P O b1 b2 b3 i A n c b := ⟨h.box, h.at2, h.at3, h.has, h.off⟩
/-- A row of one slice, just built, is a slice of slices. -/
theorem one_ln (A : Option Addr) (n c : Nat) (b : Bytes) (h : Has w A n b) (hn : n ≤ 140737488355328) : Ln (w.alloc (.cells #[.slice A n c] 57)) (some ⟨w.heap.size, 0, none⟩) 1 [⟨A, n, c, b⟩] :=
  ⟨one_row ⟨A, n, c, b⟩ (At.new #[.slice A n c] 57 rfl), fun x hx => by simp at hx; subst hx; exact h.below ((Below.refl _ _).alloc (Nat.le_refl _) _), fun x hx => by simp at hx; subst hx; exact hn, by omega⟩
theorem one_fits (A : Option Addr) (n c : Nat) (b : Bytes) (q : Int) : Fits [⟨A, n, c, b⟩] q ↔ (n : Int) = q := by
  unfold Fits
  simp
theorem put_act (i : Int) (b : Nat → Bytes) : Act1 (fun k d u => d.put u i (b k)) := Act1.of (R := fun k d _ => with1 d.read i (b k)) (fun k d u => put_turns d u i (b k)) (fun k d u => put_dead d u i (b k))

end
end Go.Proofs.YtplmdmchkaacoaaGreat
