/-
  THE WALK OF Make: a note by small numbers.
-/
import Derived.Test.YtmdgnglefikpjaaSmall
import Derived.Test.YtmdgnglefikpjaaLawA
namespace Go.Proofs.Ytmdgnglefikpjaa
open Go.RowKit
set_option linter.unusedVariables false
set_option maxRecDepth 100000


/-- A slot by small numbers. -/
structure Sl where
  k : Nat
  b : Nat
def mk (x : Sl) : En := ⟨x.k % 4, if x.k % 4 = 0 then 0 else x.b⟩
/-- The slice (A, n) holds the slots L. -/
def Sls (w : World) (A : Option Addr) (n : Nat) (L : List Sl) : Prop :=
  L.length = n ∧ (0 < n → ∃ b off, A = some ⟨b, off, none⟩ ∧ b < w.heap.size ∧ ∀ k (h : k < L.length), w.cell? ⟨b, off + k * 2, none⟩ = some (.int .u8 (L[k].k : Int)) ∧ w.cell? ⟨b, off + k * 2 + 1, none⟩ = some (.int .u32 (L[k].b : Int))) ∧ ∀ x ∈ L, x.k < 256 ∧ x.b < 4294967296
section
variable {w w' : World} {A : Option Addr} {n : Nat} {L : List Sl} {S : Nat → Prop}
theorem Sls.some_ (h : Sls w A n L) (hn : 0 < n) : ∃ b off, A = some ⟨b, off, none⟩ := by
  obtain ⟨b, off, e, _⟩ := h.2.1 hn
  exact ⟨b, off, e⟩
theorem Sls.cell {b off : Nat} (h : Sls w (some ⟨b, off, none⟩) n L) (k : Nat) (hk : k < n) : w.cell? ⟨b, off + k * 2, none⟩ = some (.int .u8 ((L[k]'(by rw [h.1]; exact hk)).k : Int)) ∧ w.cell? ⟨b, off + k * 2 + 1, none⟩ = some (.int .u32 ((L[k]'(by rw [h.1]; exact hk)).b : Int)) := by
  obtain ⟨b', off', e, hb, hc⟩ := h.2.1 (by omega)
  injection e with e
  injection e with e1 e2
  subst e1 e2
  exact hc k (by rw [h.1]; exact hk)
theorem Sls.below (h : Sls w A n L) (hb : Below w.heap.size w w') : Sls w' A n L :=
  ⟨h.1, fun h0 => by
    obtain ⟨b, off, e, hlt, hc⟩ := h.2.1 h0
    exact ⟨b, off, e, Nat.lt_of_lt_of_le hlt hb.size, fun k hk => ⟨(hb.cell (p := ⟨b, off + k * 2, none⟩) hlt).trans (hc k hk).1, (hb.cell (p := ⟨b, off + k * 2 + 1, none⟩) hlt).trans (hc k hk).2⟩⟩, h.2.2⟩
theorem Sls.take (h : Sls w A n L) (m : Nat) (hm : m ≤ n) : Sls w A m (L.take m) :=
  ⟨by rw [List.length_take, h.1]; omega, fun h0 => by
    obtain ⟨b, off, e, hlt, hc⟩ := h.2.1 (by omega)
    refine ⟨b, off, e, hlt, fun k hk => ?_⟩
    have hk' : k < L.length := by rw [List.length_take] at hk; omega
    rw [List.getElem_take]
    exact hc k hk', fun x hx => h.2.2 x (List.mem_of_mem_take hx)⟩
end
theorem mk_ok (x : Sl) : (mk x).ok := by
  unfold mk En.ok
  constructor
  · show x.k % 4 ≤ 3
    omega
  · intro h
    show (if x.k % 4 = 0 then 0 else x.b) = 0
    rw [if_pos h]
theorem mk_fits (x : Sl) (h : x.b < 4294967296) : (mk x).fits := by
  unfold mk En.fits
  constructor
  · show x.k % 4 < 256
    omega
  · show (if x.k % 4 = 0 then 0 else x.b) < _
    split <;> omega
theorem mk_zero {x : Sl} (h : x.k % 4 = 0) : mk x = ⟨0, 0⟩ := by
  unfold mk
  rw [if_pos h, h]
theorem mk_some {x : Sl} {r : Nat} (h : x.k % 4 = r) (hr : ¬ r = 0) : mk x = ⟨r, x.b⟩ := by
  unfold mk
  rw [if_neg (by omega), h]
theorem fine_mk (L : List Sl) : Fine (L.map mk) := by
  intro x hx
  obtain ⟨y, _, rfl⟩ := List.mem_map.1 hx
  exact mk_ok y
theorem fits_mk {w : World} {A : Option Addr} {n : Nat} {L : List Sl} (h : Sls w A n L) : ∀ x ∈ L.map mk, x.fits := by
  intro x hx
  obtain ⟨y, hy, rfl⟩ := List.mem_map.1 hx
  exact mk_fits y (h.2.2 y hy).2
theorem map_next (L : List Sl) (k : Nat) (h : k < L.length) : (L.take (k + 1)).map mk = (L.take k).map mk ++ [mk L[k]] := by
  rw [List.take_succ_eq_append_getElem h, List.map_append]
  rfl

/-- The answer's block, the note's block behind it, whose row holds es. -/
structure Mkg (w0 w : World) (q : Nat) (z : Int) (v : Value) (es : List En) : Prop where
  res : At w w0.heap.size #[.int .u64 0, .int .i64 0, .slice none 0 0] 28
  box : At w (w0.heap.size + 1) #[.int .u64 (q : Int), .int .i64 z, v] 28
  own : w.ownsRow (w0.heap.size + 1 + 1) 48 2 v es.length (flat es)
  bel : Below w0.heap.size w0 w
theorem Mkg.base {w0 w : World} {q : Nat} {z : Int} {v : Value} {es : List En} (h : Mkg w0 w q z v es) : w0.heap.size + 1 + 1 ≤ w.heap.size := h.box.lt
theorem Mkg.up {w0 w w' : World} {q : Nat} {z : Int} {v : Value} {es : List En} (h : Mkg w0 w q z v es) (hb : Below w.heap.size w w') : Mkg w0 w' q z v es :=
  ⟨h.res.below hb h.res.lt, h.box.below hb h.box.lt, own_below h.own hb, h.bel.trans (hb.mono h.bel.size)⟩
/-- The row has grown, and the note holds it. -/
theorem Mkg.push {w0 w wa w2 : World} {q n : Nat} {z : Int} {v : Value} {es : List En} {x : En} {A : Option Addr} {c : Nat} (h : Mkg w0 w q z v es) (ha : Below w.heap.size w wa) (hown : w2.ownsRow (w0.heap.size + 1 + 1) 48 2 (.slice A n c) n (flat (es ++ [x]))) (hg : wa.grownBy w2 v.ownBlock) :
    Mkg w0 (w2.setCell ⟨w0.heap.size + 1, 2, none⟩ (.slice A n c)) q z (.slice A n c) (es ++ [x]) := by
  have h1 := h.up ha
  have lo : ∀ k, v.ownBlock = some k → w0.heap.size + 1 + 1 ≤ k := fun k hk => (h.own.lt k hk).1
  have bt : But (fun k => v.ownBlock = some k) wa w2 := (But.refl _ _).grown hg (fun k hk _ => hk)
  have hn : n = (es ++ [x]).length := by have := hown.1; rw [flat_len] at this; omega
  have bs : But (fun k => k = w0.heap.size + 1) w2 (w2.setCell ⟨w0.heap.size + 1, 2, none⟩ (.slice A n c)) := (But.refl (fun k => k = w0.heap.size + 1) w2).setCell (p := ⟨w0.heap.size + 1, 2, none⟩) (fun _ => rfl) _
  have hx2 := h1.box.but bt (fun e => by have := lo _ e; omega)
  have hb2 : Below w0.heap.size w0 w2 := h1.bel.trans (bt.below (fun k e => by have := lo k e; omega) (by have := h1.base; omega))
  refine ⟨(h1.res.but bt (fun e => by have := lo _ e; omega)).but bs (by omega), hx2.set 2 _, ?_, hb2.setCell (by show w0.heap.size ≤ w0.heap.size + 1; omega) _⟩
  rw [← hn]
  exact own_but hown bs (fun k hk e => by have := (hown.lt k hk).1; omega)
theorem Mkg.after {w0 w wa w2 : World} {q : Nat} {z : Int} {v : Value} {es : List En} (h : Mkg w0 w q z v es) (ha : Below w.heap.size w wa) (hg : wa.grownBy w2 v.ownBlock) : At w2 (w0.heap.size + 1) #[.int .u64 (q : Int), .int .i64 z, v] 28 :=
  (h.up ha).box.but (S := fun k => v.ownBlock = some k) ((But.refl _ _).grown hg (fun k hk _ => hk)) (fun e => by have := (h.own.lt _ e).1; omega)

theorem BB3 (w : World) (o p q : Obj) : Below w.heap.size w (((w.alloc o).alloc p).alloc q) := (((Below.refl _ _).alloc (Nat.le_refl _) _).alloc (by simp) _).alloc (by simp; omega) _
theorem note_all (q : Nat) (z : Int) (A : Option Addr) (n c : Nat) : (#[.int .u64 (q : Int), .int .i64 z, .slice A n c] : Array Value).all (·.oneCell') = true := by simp [Value.oneCell']
theorem note_part (u : Value) (v : Value) (x : Value) (q : Nat) (z : Int) (A : Option Addr) (n c : Nat) : part #[u, v, x] 0 #[.int .u64 (q : Int), .int .i64 z, .slice A n c] = #[.int .u64 (q : Int), .int .i64 z, .slice A n c] := rfl
def Made (w : World) (q : Nat) (z : Int) (n : Nat) (es : List En) (e : Ending) (w' : World) : Prop :=
  ∃ A c, e = .returned (.agg #[.int .u64 (q : Int), .int .i64 z, .slice A n c]) ∧ Ers w' A n es ∧ Below w.heap.size w w'
set_option maxHeartbeats 1000000 in
theorem make_any (q s : Nat) (A : Option Addr) (n c : Nat) (L : List Sl) (w : World) (hs : s < 65536) (hn : n ≤ 1000) (h : Sls w A n L) :
    Calls Try.prog 8 #[.int .u64 (q : Int), .int .u16 (s : Int), .slice A n c] w (Made w q ((s : Int) - 1) n (L.map mk)) := by
  have H := Lib.hid h
  have HL := Lib.hid h.1
  clear h
  go_enter Try.func8, Try.ntmps8
  go_wp2
  go_loopw [18] (fun i wr => ∃ (k : Nat) (v : Value), k ≤ n ∧ i = .int .i64 k ∧ Mkg w wr q ((s : Int) - 1) v ((L.take k).map mk)) (fun i _ => n - (intOf i).toNat)
  case atStart =>
    refine ⟨0, .slice none 0 0, Nat.zero_le _, rfl, ⟨?_, ?_, World.ownsRow_nil _ _ _ _, ?_⟩⟩
    · exact (At.new _ _ rfl).alloc _
    · exact At.new _ _ (by simp)
    · exact ((Below.refl _ _).alloc (Nat.le_refl _) _).alloc (by simp) _
  case round =>
    obtain ⟨k, v, hk, rfl, hM⟩ := hrel
    have M := Lib.hid hM
    have HH := Lib.hid (H.out.below (hM.bel))
    clear hM
    by_cases hlt : k < n
    · obtain ⟨b, off, rfl⟩ := H.out.some_ (by omega)
      have hkl : k < L.length := by rw [HL.out]; exact hlt
      obtain ⟨hc, hc'⟩ := HH.out.cell k hlt
      obtain ⟨hx1, hx2⟩ := H.out.2.2 L[k] (List.getElem_mem hkl)
      have EN := Lib.hid (map_next L k hkl)
      obtain ⟨⟨X, Y⟩, hx⟩ : ∃ x, L[k] = x := ⟨_, rfl⟩
      rw [hx] at hc hc' hx1 hx2 EN
      clear hx
      simp only at hc hc' hx1 hx2
      have hfree : ∀ o p, ((wr.alloc o).alloc p).cell? ⟨w.heap.size + 1, 2, none⟩ = some v := fun o p => ((M.out.box.alloc o).alloc p).cell 2
      obtain ⟨r, hr⟩ : ∃ r : Nat, X % 4 = r := ⟨_, rfl⟩
      have hri : (X : Int) % 4 = (r : Int) := by omega
      have HR := Lib.hid hr
      clear hr
      have OW := Lib.hid (show wr.ownsRow (w.heap.size + 1 + 1) 48 2 v k (flat ((L.take k).map mk)) by have := M.out.own; rw [List.length_map, List.length_take, Nat.min_eq_left (by omega)] at this; exact this)
      by_cases h0 : r = 0
      · subst h0
        go_wp2_with (at_builtin; refine wpList_append_ent rfl (.tmp 35) (.tmp 37) rfl (w.heap.size + 1 + 1) v k ((L.take k).map mk) rfl (own_below OW.out (BB3 wr _ _ _)) ⟨wr.heap.size + 1 + 1, 0, none⟩ 1 1 [⟨0, 0⟩] rfl (Src.one _ (At.new _ 48 (by simp))) (by omega) (by have := M.out.base; simp; omega) ?_; intro A3 c3 w3 hown3 hg3; have at3 := M.out.after (BB3 wr _ _ _) hg3; have ce3 := at3.cell 2; have f3 := at3.frozen 2; have R := Lib.hid (M.out.push (BB3 wr _ _ _) hown3 hg3); clear hown3 hg3 at3)
        clear hc hc' hfree
        have R2 := R.out
        rw [← mk_zero (x := ⟨X, Y⟩) HR.out, ← EN.out] at R2
        exact ⟨⟨k + 1, _, by omega, by go_num, R2⟩, by simp [intOf]; omega⟩
      · go_wp2_with (at_builtin; refine wpList_append_ent rfl (.tmp 35) (.tmp 37) rfl (w.heap.size + 1 + 1) v k ((L.take k).map mk) rfl (own_below OW.out (BB3 wr _ _ _)) ⟨wr.heap.size + 1 + 1, 0, none⟩ 1 1 [⟨r, Y⟩] rfl (Src.one _ (At.new _ 48 (by simp))) (by omega) (by have := M.out.base; simp; omega) ?_; intro A3 c3 w3 hown3 hg3; have at3 := M.out.after (BB3 wr _ _ _) hg3; have ce3 := at3.cell 2; have f3 := at3.frozen 2; have R := Lib.hid (M.out.push (BB3 wr _ _ _) hown3 hg3); clear hown3 hg3 at3)
        clear hc hc' hfree
        have R2 := R.out
        rw [← mk_some (x := ⟨X, Y⟩) HR.out h0, ← EN.out] at R2
        exact ⟨⟨k + 1, _, by omega, by go_num, R2⟩, by simp [intOf]; omega⟩
    · obtain rfl : k = n := by omega
      have ELL : L.take k = L := List.take_of_length_le (by rw [HL.out]; omega)
      have M := Lib.hid (show Mkg w wr q ((s : Int) - 1) v (L.map mk) by have := M.out; rw [ELL] at this; exact this)
      have OW := Lib.hid (show wr.ownsRow (w.heap.size + 1 + 1) 48 2 v k (flat (L.map mk)) by have := M.out.own; rw [List.length_map, HL.out] at this; exact this)
      clear ELL
      obtain ⟨A2, c2, rfl, hE, hA⟩ := Ers.of_own OW.out
      have EE := Lib.hid hE
      have HA := Lib.hid hA
      clear hE hA
      have d0 := M.out.box.cell 0; have d1 := M.out.box.cell 1; have d2 := M.out.box.cell 2
      go_wp2_with (refine wpList_store_part rfl 28 (.tmp 6) (.tmp 41) rfl w.heap.size 0 28 #[.int .u64 0, .int .i64 0, .slice none 0 0] #[.int .u64 (q : Int), .int .i64 ((s : Int) - 1), .slice A2 k c2] rfl rfl M.out.res size28 (by simp) (note_all _ _ _ _ _) ?_; intro w4 hat4 hb4; rw [note_part] at hat4; have R := Lib.hid hat4; have BB := Lib.hid hb4; clear hat4 hb4)
      refine bodyPost_ret (results_cell_row (p := 6) (ty := 28) rfl _ _ w.heap.size 28 #[.int .u64 (q : Int), .int .i64 ((s : Int) - 1), .slice A2 k c2] (0, 0) _ rfl R.out Try.underlying28 rfl size28) rfl ?_
      refine ⟨A2, c2, rfl, EE.out.but BB.out (fun h0 x hx e => by have := HA.out x hx; omega), M.out.bel.trans (BB.out.below (fun j e => by omega) M.out.bel.size)⟩
end Go.Proofs.Ytmdgnglefikpjaa
