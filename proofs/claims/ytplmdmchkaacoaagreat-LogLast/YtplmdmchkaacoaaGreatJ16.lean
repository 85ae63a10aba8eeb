/-
  TEXTS JOINED: Rig.
-/
import Derived.Test.YtplmdmchkaacoaaGreatJ15

/-
  A RIG AS IT LIES IN MEMORY; THE WALKS OF THE LAW'S Devices AND New.
-/
namespace Go.Proofs.YtplmdmchkaacoaaGreat
open Go.RowKit Go.Maps
set_option linter.unusedVariables false
set_option maxRecDepth 100000

theorem grown_at {w : World} {v v' : Value} (h5 : v'.ownBlock = v.ownBlock ∨ v'.ownBlock = some w.heap.size) : ∀ g, v'.ownBlock = some g → v.ownBlock = some g ∨ w.heap.size ≤ g := by
  intro g hg
  rcases h5 with e | e
  · exact .inl (by rw [← e]; exact hg)
  · rw [e] at hg; injection hg with hg; exact .inr (by omega)
theorem ptr_info : (Tryz.prog.info? 152).map (fun i => (i.zero, i.size, i.bytes)) = some (some (.pointer none), 1, 8) := by kernel_rfl
abbrev ptr (g : Nat) : Value := .pointer (some ⟨g, 0, none⟩)
/-- 'append' of one value to a row of the call's own. -/
theorem append_run {w : World} {t e : TypeId} {z x : Value} {by_ : Nat} (ty : TypeId) (ht : Tryz.prog.underlying t = some (.slice e)) (hi : (Tryz.prog.info? e).map (fun i => (i.zero, i.size, i.bytes)) = some (some z, 1, by_)) (hz : z.cells.size = 1) (hx : x.oneCell' = true) (h16 : by_ ≤ 16)
    (base : Nat) (v : Value) (xs : List Value) (n : Nat) (hown : w.ownsRow base e 1 v n xs) (g : Nat) (hg : w.cell? ⟨g, 0, none⟩ = some x) (hn : n ≤ 100) (hbase : base ≤ w.heap.size) :
    ∃ A cap w', (Builtin.append_ #[t, t] ty #[v, .slice (some ⟨g, 0, none⟩) 1 1]).run Tryz.prog w = .ok (.slice A (n + 1) cap) w' ∧ w'.ownsRow base e 1 (.slice A (n + 1) cap) (n + 1) (xs ++ [x]) ∧ w.grownBy w' v.ownBlock ∧ (∀ k, (Value.slice A (n + 1) cap).ownBlock = some k → v.ownBlock = some k ∨ w.heap.size ≤ k) := by
  obtain ⟨i0, hi, hz0, hz1, hz2⟩ := info_parts hi
  obtain ⟨v', w', hr, h2, h3, h4, h5⟩ := run_append_own_at (P := Tryz.prog) w base t ty e i0 _ 1 by_ ht hi hz0 hz1 hz2 hz (by decide) v n xs hown ⟨g, 0, none⟩ 1 1 [x] (by simp) (fun j u hu => by
    match j, hu with
    | 0, hu =>
      rw [show (⟨g, 0, none⟩ : Addr).add 0 = ⟨g, 0, none⟩ from rfl, hg]
      simpa using hu) (fun u hu => by simp at hu; subst hu; exact hx) (by unfold maxLen; omega) (by have := Nat.mul_le_mul (show n + 1 ≤ 101 by omega) h16; omega) hbase
  obtain ⟨A, cap, rfl⟩ : ∃ A cap, v' = .slice A (n + 1) cap := by
    rcases h2.2 with ⟨rfl, e⟩ | ⟨g, cap, cur, rfl, _⟩
    · exact ⟨none, 0, by rw [e]⟩
    · exact ⟨_, cap, rfl⟩
  exact ⟨A, cap, w', hr, h2, h3, grown_at h5⟩
/-- The same, in a region that does not draw. -/
theorem wpList_append_one {w : World} {ops : Array Oper} {rest : List Oper} {o : Oper} {a : Act} {Q : Exit → Act → World → Prop} {t e : TypeId} {z y : Value} {by_ : Nat} (hgd : o.guard = none) (s x : Operand)
    (ho : o.op = .call { callee := .builtin .append, args := #[s, x], argTypes := #[t, t] }) (ht : Tryz.prog.underlying t = some (.slice e)) (hi : (Tryz.prog.info? e).map (fun i => (i.zero, i.size, i.bytes)) = some (some z, 1, by_)) (hz : z.cells.size = 1) (hy : y.oneCell' = true) (h16 : by_ ≤ 16)
    (base : Nat) (v : Value) (xs : List Value) (n : Nat) (hs : a.eval s = v) (hown : w.ownsRow base e 1 v n xs) (g : Nat) (hx : a.eval x = .slice (some ⟨g, 0, none⟩) 1 1) (hg : w.cell? ⟨g, 0, none⟩ = some y) (hn : n ≤ 100) (hbase : base ≤ w.heap.size)
    (h : ∀ A cap w', w'.ownsRow base e 1 (.slice A (n + 1) cap) (n + 1) (xs ++ [y]) → w.grownBy w' v.ownBlock → (∀ k, (Value.slice A (n + 1) cap).ownBlock = some k → v.ownBlock = some k ∨ w.heap.size ≤ k) → wpList Tryz.prog ops Q rest (a.put o.dst (.slice A (n + 1) cap)) w') :
    wpList Tryz.prog ops Q (o :: rest) a w := by
  obtain ⟨i0, hi, hz0, hz1, hz2⟩ := info_parts hi
  refine wpList_append_own_at w hgd s x t ho base e i0 z 1 by_ ht hi hz0 hz1 hz2 hz (by decide) v _ _ hs hown ⟨g, 0, none⟩ 1 1 [y] hx (by simp) (fun j u hu => by
    match j, hu with
    | 0, hu =>
      rw [show (⟨g, 0, none⟩ : Addr).add 0 = ⟨g, 0, none⟩ from rfl, hg]
      simpa using hu) (fun u hu => by simp at hu; subst hu; exact hy) (by unfold maxLen; omega) (by have := Nat.mul_le_mul (show n + 1 ≤ 101 by omega) h16; omega) hbase ?_
  intro v' w' hown' hg' _ hat
  obtain ⟨A, cap, rfl⟩ : ∃ A cap, v' = .slice A (n + 1) cap := by
    rcases hown'.2 with ⟨rfl, e⟩ | ⟨g, cap, cur, rfl, _⟩
    · exact ⟨none, 0, by rw [e]⟩
    · exact ⟨_, cap, rfl⟩
  exact h A cap w' hown' hg' (grown_at hat)
theorem own_row_cells {w : World} {base e n : Nat} {v : Value} {xs : List Value} (h : w.ownsRow base e 1 v n xs) (h0 : 0 < n) : ∃ q cap, v = .slice (some ⟨q, 0, none⟩) n cap ∧ base ≤ q ∧ q < w.heap.size ∧ ∀ i (hi : i < xs.length), w.cell? ⟨q, i, none⟩ = some xs[i] := by
  have hl : xs.length = n := by have := h.1; simpa using this
  rcases h.2 with ⟨rfl, hn0⟩ | ⟨q, cap, cur, rfl, hq, hh, hnc, hcm, hcs, htk⟩
  · omega
  · refine ⟨q, cap, rfl, hq, (h.lt q rfl).2, fun i hi => ?_⟩
    have := h.cellAt (g := q) (cap := cap) i (by omega)
    rw [this, List.getElem?_eq_getElem hi]

/-- The rig's cells. -/
def rcells (M : Nat) (b g s n l : Int) (p : Nat) (v : Value) (nv : Value) (a : Value) : Array Value :=
  #[.int .i64 (M : Int), .int .i64 b, .int .i64 g, .int .i64 s, .int .i64 n, .int .i64 l, ptr p, v, nv, a]
/-- The row of disks: as many as there are. -/
def Dr (w : World) (q M : Nat) (g : Nat → Nat) : Prop := q < w.heap.size ∧ ∀ i, i < M → w.cell? ⟨q, i, none⟩ = some (ptr (g i))
theorem Dr.but {w w' : World} {S : Nat → Prop} {q M : Nat} {g : Nat → Nat} (h : Dr w q M g) (hb : But S w w') (hn : ¬ S q) : Dr w' q M g :=
  ⟨Nat.lt_of_lt_of_le h.1 hb.size, fun i hi => (hb.cell (p := ⟨q, i, none⟩) h.1 hn).trans (h.2 i hi)⟩
theorem Dr.below {w w' : World} {q M : Nat} {g : Nat → Nat} (h : Dr w q M g) (hb : Below w.heap.size w w') : Dr w' q M g := h.but (S := fun _ => False) (But.of_below hb) (fun h => h)

set_option maxHeartbeats 1600000 in
theorem devices_any (R q c M : Nat) (gs : Nat → Nat) (hM : 3 ≤ M ∧ M ≤ 5) (w : World) (hr : w.cell? ⟨R, 7, none⟩ = some (.slice (some ⟨q, 0, none⟩) M c)) (hq : Dr w q M gs) :
    Calls Tryz.prog 103 #[ptr R] w fun e w' => ∃ r cap, e = .returned (.slice (some ⟨r, 0, none⟩) M cap) ∧ Dv w' r M gs ∧ w.heap.size ≤ r ∧ Below w.heap.size w w' := by
  have hmi : ∀ (x : Value) (w : World), (Instr.makeInterface 152 x).run Tryz.prog w = .ok (.iface 152 x) w := fun _ _ => by kernel_rfl
  have HQ := Lib.hid hq
  clear hq
  go_enter Tryz.func103, Tryz.ntmps103
  go_wp2_with fail
  clear hr
  go_loopw [3, 11] (fun v i wr => ∃ j : Nat, j ≤ M ∧ i = .int .i64 (j : Int) ∧ Below w.heap.size w wr ∧ wr.ownsRow w.heap.size 175 1 v j ((List.range j).map (fun k => dev (gs k)))) (fun _ i _ => M - (RowKit.intOf i).toNat)
  case atStart => exact ⟨0, Nat.zero_le _, rfl, Below.refl _ _, World.ownsRow_nil _ _ _ _⟩
  case round =>
    obtain ⟨j, hj, rfl, hb, ho⟩ := hrel
    have B1 := Lib.hid hb
    have O1 := Lib.hid ho
    clear hb ho
    by_cases hlt : j < M
    · have hc := (HQ.out.below B1.out).2 j hlt
      have bel : Below wr.heap.size wr (wr.alloc (.cells #[dev (gs j)] 175)) := (Below.refl _ _).alloc (Nat.le_refl _) _
      have sz := B1.out.size
      have BL := Lib.hid bel
      clear bel
      go_wp2_with (at_builtin; refine wpList_append_one (t := 125) (y := dev (gs j)) rfl (.tmp 15) (.tmp 18) rfl Tryz.underlying125 dev_info rfl rfl (by decide) w.heap.size u3 _ j rfl (own_below O1.out BL.out) wr.heap.size rfl ((At.new #[dev (gs j)] 175 rfl).cell 0) (by omega) (by simp; omega) ?_; intro A cap w3 hown hg hf; have O3 := Lib.hid (show w3.ownsRow w.heap.size 175 1 (.slice A (j + 1) cap) (j + 1) ((List.range (j + 1)).map (fun k => dev (gs k))) by rw [List.range_succ, List.map_append]; exact hown); have B3 := Lib.hid ((B1.out.trans (BL.out.mono sz)).grown hg (by simp; omega) (fun k hk => (O1.out.lt k hk).1)); clear hown hg hf)
      go_roundw
      case rel => exact ⟨j + 1, by omega, by go_num, B3.out, O3.out⟩
      case measure => simp [RowKit.intOf]; omega
    · obtain rfl : j = M := by omega
      obtain ⟨q2, cap, rfl, k1, k2, k3⟩ := own_row_cells O1.out (by omega)
      have D1 := Lib.hid (show Dv wr q2 j gs from ⟨k2, fun i hi => by rw [k3 i (by simpa using hi)]; simp⟩)
      clear k2 k3
      go_wp2
      go_ret
      exact ⟨q2, cap, rfl, D1.out, k1, B1.out⟩

/-- While a rig is made: the shape's box, the power, the rig, the memory, in the first four blocks; j disks. -/
structure Mk (w0 w : World) (M : Nat) (b g s n l : Int) (S z j : Nat) (gs : Nat → Nat) (T : Nat → Nat → Prop) (v : Value) : Prop where
  bel : Below w0.heap.size w0 w
  box : At w w0.heap.size #[.int .i64 (M : Int), .int .i64 b, .int .i64 g, .int .i64 s, .int .i64 n, .int .i64 l] 27
  pw : Pw w (w0.heap.size + 1) 1 (-1)
  rig : At w (w0.heap.size + 1 + 1) (rcells M b g s n l (w0.heap.size + 1) v (ptr (w0.heap.size + 1 + 1 + 1)) (.pointer none)) 86
  nv : Nv w (w0.heap.size + 1 + 1 + 1) (w0.heap.size + 1) ⟨(M : Int), b, g, s, n, l, 0, 0, -1⟩ (.slice none 0 0) 0
  row : w.ownsRow (w0.heap.size + 1 + 1 + 1 + 1) 152 1 v j ((List.range j).map (fun i => ptr (gs i)))
  dk : ∀ i, i < j → Dk w (gs i) (w0.heap.size + 1) (T i) (blank S z)
  ap : ∀ i i' k, i < j → i' < j → T i k → T i' k → i = i'
  off : ∀ i, i < j → ∀ k, T i k → w0.heap.size + 1 + 1 + 1 + 1 ≤ k ∧ v.ownBlock ≠ some k
section
variable {w0 w w' : World} {M : Nat} {b g s n l : Int} {S z j : Nat} {gs : Nat → Nat} {T : Nat → Nat → Prop} {v : Value}
theorem Mk.up (h : Mk w0 w M b g s n l S z j gs T v) (hb : Below w.heap.size w w') : Mk w0 w' M b g s n l S z j gs T v :=
  ⟨h.bel.trans (hb.mono h.bel.size), h.box.below hb h.box.lt, At.below h.pw hb (At.lt h.pw), h.rig.below hb h.rig.lt, At.below h.nv hb (At.lt h.nv), own_below h.row hb, fun i hi => (h.dk i hi).below hb, h.ap, h.off⟩
theorem Mk.drew (h : Mk w0 w M b g s n l S z j gs T v) : Mk w0 w.drew M b g s n l S z j gs T v :=
  ⟨⟨h.bel.os, h.bel.tape, h.bel.output, h.bel.size, h.bel.block⟩, h.box, h.pw, h.rig, h.nv, h.row, fun i hi => (h.dk i hi).drewN 1, h.ap, h.off⟩
/-- One disk more, and the row with it. -/
theorem Mk.push {w1 w2 w3 : World} {gd : Nat} {Td : Nat → Prop} {A : Option Addr} {cap : Nat} (h : Mk w0 w M b g s n l S z j gs T v) (hd : Dk w1 gd (w0.heap.size + 1) Td (blank S z)) (hT : ∀ k, Td k → w.heap.size ≤ k) (hb : Below w.heap.size w w1)
    (hw2 : w2 = w1.alloc (.cells #[ptr gd] 152)) (hown : w3.ownsRow (w0.heap.size + 1 + 1 + 1 + 1) 152 1 (.slice A (j + 1) cap) (j + 1) ((List.range j).map (fun i => ptr (gs i)) ++ [ptr gd])) (hg : w2.grownBy w3 v.ownBlock) (hf : ∀ k, (Value.slice A (j + 1) cap).ownBlock = some k → v.ownBlock = some k ∨ w2.heap.size ≤ k) :
    Mk w0 (w3.setCell ⟨w0.heap.size + 1 + 1, 7, none⟩ (.slice A (j + 1) cap)) M b g s n l S z (j + 1) (fun i => if i = j then gd else gs i) (fun i => if i = j then Td else T i) (.slice A (j + 1) cap) := by
  have h1 := h.up hb
  have hl0 : w0.heap.size + 1 + 1 + 1 < w.heap.size := At.lt h.nv
  have e2 : Below w1.heap.size w1 w2 := by rw [hw2]; exact (Below.refl _ _).alloc (Nat.le_refl _) _
  have h2 := h1.up e2
  have s1 := hb.size
  have s2 : w1.heap.size < w2.heap.size := by rw [hw2]; simp
  have vlo : ∀ k, v.ownBlock = some k → w0.heap.size + 1 + 1 + 1 + 1 ≤ k ∧ k < w.heap.size := fun k hk => h.row.lt k hk
  have b3 : But (fun k => v.ownBlock = some k) w2 w3 := (But.refl _ _).grown hg (fun k hk _ => hk)
  have b4 := But.own w3 (w0.heap.size + 1 + 1) 7 (.slice A (j + 1) cap)
  have nlo : ∀ k, (Value.slice A (j + 1) cap).ownBlock = some k → w0.heap.size + 1 + 1 + 1 + 1 ≤ k := fun k hk => (hown.lt k hk).1
  have hd2 : Dk w2 gd (w0.heap.size + 1) Td (blank S z) := hd.below e2
  have hdl := hd.lt
  refine ⟨?_, ?_, ?_, ?_, ?_, ?_, ?_, ?_, ?_⟩
  · exact (h2.bel.trans (b3.below (fun k hk => by have := vlo k hk; omega) h2.bel.size)).trans (b4.below (fun k e => by omega) (by have := b3.size; have := h2.bel.size; omega))
  · exact (h2.box.but b3 (fun e => by have := vlo _ e; omega)).but b4 (fun e => by omega)
  · exact At.but (At.but h2.pw b3 (fun e => by have := vlo _ e; omega)) b4 (fun e => by omega)
  · exact (h2.rig.but b3 (fun e => by have := vlo _ e; omega)).set 7 _
  · exact At.but (At.but h2.nv b3 (fun e => by have := vlo _ e; omega)) b4 (fun e => by omega)
  · have e : (List.range (j + 1)).map (fun i => ptr (if i = j then gd else gs i)) = (List.range j).map (fun i => ptr (gs i)) ++ [ptr gd] := by
      rw [List.range_succ, List.map_append]
      congr 1
      · exact List.map_congr_left (fun i hi => by have : i < j := by simpa using hi
                                                  rw [if_neg (by omega)])
      · simp
    rw [e]
    exact own_but hown b4 (fun k hk => by have := nlo k hk; omega)
  · intro i hi
    by_cases e : i = j
    · simp only [e, if_true]
      exact (hd2.but b3 (fun k hk e2 => by have := hT k hk; have := vlo k e2; omega)).but b4 (fun k hk e2 => by have := hT k hk; omega)
    · simp only [e, if_false]
      exact ((h2.dk i (by omega)).but b3 (fun k hk e2 => (h.off i (by omega) k hk).2 e2)).but b4 (fun k hk e2 => by have := (h.off i (by omega) k hk).1; omega)
  · intro i i' k hi hi' hk hk'
    by_cases e : i = j <;> by_cases e' : i' = j
    · omega
    · simp only [e, e', if_true, if_false] at hk hk'
      have := hT k hk
      have := (h.dk i' (by omega)).lt k hk'
      omega
    · simp only [e, e', if_true, if_false] at hk hk'
      have := hT k hk'
      have := (h.dk i (by omega)).lt k hk
      omega
    · simp only [e, e', if_false] at hk hk'
      exact h.ap i i' k (by omega) (by omega) hk hk'
  · intro i hi k hk
    by_cases e : i = j
    · simp only [e, if_true] at hk
      have h3 := hT k hk
      have h4 := hdl k hk
      refine ⟨by omega, fun e2 => ?_⟩
      rcases hf k e2 with e3 | e3
      · have := vlo k e3; omega
      · omega
    · simp only [e, if_false] at hk
      obtain ⟨q1, q2⟩ := h.off i (by omega) k hk
      refine ⟨q1, fun e2 => ?_⟩
      rcases hf k e2 with e3 | e3
      · exact q2 e3
      · have := (h.dk i (by omega)).lt k hk; omega
end

/-- A rig: its own block, the row of its disks, the array. -/
structure Rg (w : World) (R q cap : Nat) (P : Pl) (O : Nat → Prop) (s : AS) : Prop where
  arr : Arr w P O s
  rig : At w R (rcells s.M s.b s.g s.s s.n s.l P.p (.slice (some ⟨q, 0, none⟩) s.M cap) (ptr P.n) (ptr P.a)) 86
  row : Dr w q s.M P.g
  off : ¬ O R ∧ ¬ O q ∧ R ≠ q
/-- A rig, all of it above B; below B nothing has turned since w0. -/
structure Sys (B : Nat) (w0 w : World) (R q cap : Nat) (P : Pl) (O : Nat → Prop) (s : AS) : Prop where
  rg : Rg w R q cap P O s
  below : Below B w0 w
  own : ∀ k, O k → B ≤ k
  lo : B ≤ R ∧ B ≤ q
  size : B ≤ w.heap.size
section
variable {B : Nat} {w0 w w' : World} {R q cap : Nat} {P : Pl} {O : Nat → Prop} {s s' : AS}
theorem Rg.did (h : Rg w R q cap P O s) (hs : Same s s') (hD : Did w P O s' w') : ∃ O', Rg w' R q cap P O' s' ∧ (∀ k, O' k → O k ∨ w.heap.size ≤ k) ∧ But O w w' := by
  obtain ⟨O', k1, k2, k3⟩ := hD
  have hR := h.rig.lt
  have hq := h.row.1
  refine ⟨O', ⟨k1, ?_, ?_, fun e => (k2 _ e).elim h.off.1 (fun e => by omega), fun e => (k2 _ e).elim h.off.2.1 (fun e => by omega), h.off.2.2⟩, k2, k3⟩
  · have := h.rig.but k3 h.off.1
    unfold Same at hs
    rw [hs]
    exact this
  · rw [hs.M]; exact h.row.but k3 h.off.2.1
theorem Rg.but {S : Nat → Prop} (h : Rg w R q cap P O s) (hb : But S w w') (hS : ∀ k, S k → ¬ O k ∧ k ≠ R ∧ k ≠ q) : Rg w' R q cap P O s :=
  ⟨h.arr.but hb (fun k hk e => (hS k e).1 hk), h.rig.but hb (fun e => (hS _ e).2.1 rfl), h.row.but hb (fun e => (hS _ e).2.2 rfl), h.off⟩
theorem Sys.did (h : Sys B w0 w R q cap P O s) (hs : Same s s') (hD : Did w P O s' w') : ∃ O', Sys B w0 w' R q cap P O' s' ∧ (∀ k, O' k → O k ∨ w.heap.size ≤ k) ∧ But O w w' := by
  obtain ⟨O', k1, k2, k3⟩ := h.rg.did hs hD
  exact ⟨O', ⟨k1, h.below.trans (k3.below h.own h.size), fun k hk => (k2 k hk).elim (h.own k) (fun e => Nat.le_trans h.size e), h.lo, Nat.le_trans h.size k3.size⟩, k2, k3⟩
/-- While O stays. -/
theorem Sys.keep (h : Sys B w0 w R q cap P O s) (hs : Same s s') (ha : Arr w' P O s') (hb : But O w w') : Sys B w0 w' R q cap P O s' := by
  have hR := h.rg.rig.lt
  refine ⟨⟨ha, ?_, ?_, h.rg.off⟩, h.below.trans (hb.below h.own h.size), h.own, h.lo, Nat.le_trans h.size hb.size⟩
  · have := h.rg.rig.but hb h.rg.off.1
    unfold Same at hs
    rw [hs]
    exact this
  · rw [hs.M]; exact h.rg.row.but hb h.rg.off.2.1
/-- While the caller does something of its own. -/
theorem Sys.but {S : Nat → Prop} (h : Sys B w0 w R q cap P O s) (hb : But S w w') (hS : ∀ k, S k → ¬ O k ∧ k ≠ R ∧ k ≠ q ∧ B ≤ k) : Sys B w0 w' R q cap P O s :=
  ⟨h.rg.but hb (fun k hk => ⟨(hS k hk).1, (hS k hk).2.1, (hS k hk).2.2.1⟩), h.below.trans (hb.below (fun k hk => (hS k hk).2.2.2) h.size), h.own, h.lo, Nat.le_trans h.size hb.size⟩
theorem Sys.up (h : Sys B w0 w R q cap P O s) (hb : Below w.heap.size w w') : Sys B w0 w' R q cap P O s := h.but (S := fun _ => False) (But.of_below hb) (fun _ h => h.elim)
theorem Sys.alloc (h : Sys B w0 w R q cap P O s) (o : Obj) : Sys B w0 (w.alloc o) R q cap P O s := h.but (S := fun _ => False) ((But.refl _ _).alloc o) (fun _ h => h.elim)
theorem Sys.drewN (h : Sys B w0 w R q cap P O s) (n : Nat) : Sys B w0 (w.drewN n) R q cap P O s := h.but (S := fun _ => False) ((But.refl _ _).drewN n) (fun _ h => h.elim)
theorem Sys.new (h : Sys B w0 w R q cap P O s) : ∀ k, w.heap.size ≤ k → ¬ O k ∧ k ≠ R ∧ k ≠ q ∧ B ≤ k := by
  intro k hk
  have h1 := h.rg.arr.lt
  have h2 := h.rg.rig.lt
  have h3 := h.rg.row.1
  have h4 := h.size
  exact ⟨fun e => by have := h1 k e; omega, by omega, by omega, by omega⟩
end

def AS.init (M : Nat) (b g s n l : Int) (S z : Nat) : AS := ⟨M, b, g, s, n, l, S, fun _ => blank S z, -1, false, 1, 0, .slice none 0 0, 0⟩

/-- All is made: the rig. -/
theorem Mk.done {w0 w w1 : World} {M : Nat} {b g s n l : Int} {S z : Nat} {gs : Nat → Nat} {T : Nat → Nat → Prop} {q c a r cap : Nat} (h : Mk w0 w M b g s n l S z M gs T (.slice (some ⟨q, 0, none⟩) M c)) (hs : Small (M : Int) b g s n l) (hS : (S : Int) = 1 + 2 * pgs b g l + g * s) (hp : 0 < pgs b g l ∧ pgs b g l ≤ 500000) (hz : (z : Int) = b)
    (hb : Below w.heap.size w w1) (ha : At w1 a #[.int .i64 (M : Int), .int .i64 b, .int .i64 g, .int .i64 s, .int .i64 n, .int .i64 l, .slice (some ⟨r, 0, none⟩) M cap, ptr (w0.heap.size + 1 + 1 + 1), .bool false] 127) (hr : Dv w1 r M gs) (ha0 : w.heap.size ≤ a) (hr0 : w.heap.size ≤ r) (hne : ¬ a = r) :
    ∃ P O, Sys w0.heap.size w0 (w1.setCell ⟨w0.heap.size + 1 + 1, 9, none⟩ (ptr a)) (w0.heap.size + 1 + 1) q c P O (AS.init M b g s n l S z) := by
  have hl0 : w0.heap.size + 1 + 1 + 1 < w.heap.size := At.lt h.nv
  have h1 := h.up hb
  have b4 := But.own w1 (w0.heap.size + 1 + 1) 9 (ptr a)
  have M3 : 0 < M := by have := hs.hm; omega
  obtain ⟨q', c', e, hq1, hq2, hq3⟩ := own_row_cells h1.row M3
  injection e with e1 _ e2
  injection e1 with e1
  injection e1 with e1
  subst e1 e2
  have hTlt : ∀ i, i < M → ∀ k, T i k → k < w.heap.size := fun i hi k hk => (h.dk i hi).lt k hk
  refine ⟨⟨a, r, cap, w0.heap.size + 1, w0.heap.size + 1 + 1 + 1, gs⟩, fun k => ∃ i, (fun i k => (i = 0 ∧ k = a) ∨ (i = 1 ∧ k = r) ∨ (i = 2 ∧ k = w0.heap.size + 1) ∨ (i = 3 ∧ k = w0.heap.size + 1 + 1 + 1) ∨ (4 ≤ i ∧ i - 4 < M ∧ T (i - 4) k)) i k, ⟨⟨⟨_, ?_, fun k => Iff.rfl⟩, ?_, ?_, ?_, ?_, ?_⟩, ?_, ?_, ⟨by omega, by omega⟩, ?_⟩⟩
  · refine
      { arr := ha.but b4 (fun e => by have e' : a = w0.heap.size + 1 + 1 := e; omega)
        row := fun i hi => (b4.cell (p := ⟨r, i, none⟩) hr.1 (fun e => by have e' : r = w0.heap.size + 1 + 1 := e; omega)).trans (hr.2 i hi)
        pw := At.but h1.pw b4 (fun e => by have e' : w0.heap.size + 1 = w0.heap.size + 1 + 1 := e; omega)
        nv := At.but h1.nv b4 (fun e => by have e' : w0.heap.size + 1 + 1 + 1 = w0.heap.size + 1 + 1 := e; omega)
        dk := fun i hi => ?_
        ap := ?_
        t0 := .inl ⟨rfl, rfl⟩
        t1 := .inr (.inl ⟨rfl, rfl⟩)
        t2 := .inr (.inr (.inl ⟨rfl, rfl⟩))
        t3 := .inr (.inr (.inr (.inl ⟨rfl, rfl⟩)))
        lt := ?_
        wf := ⟨hs, hS, hp, (by show (0 : Int) ≤ 1; decide), ⟨Int.le_refl _, by show (-1 : Int) < (M : Int); omega⟩, fun i hi => ⟨rfl, hz, fun j => ⟨Int.le_refl _, by show (0 : Int) ≤ 1; decide⟩⟩⟩ }
    · have e : (fun k => (4 + i = 0 ∧ k = a) ∨ (4 + i = 1 ∧ k = r) ∨ (4 + i = 2 ∧ k = w0.heap.size + 1) ∨ (4 + i = 3 ∧ k = w0.heap.size + 1 + 1 + 1) ∨ (4 ≤ 4 + i ∧ 4 + i - 4 < M ∧ T (4 + i - 4) k)) = T i := by
        funext k
        have e4 : 4 + i - 4 = i := by omega
        rw [e4]
        have hi' : i < M := hi
        apply propext
        constructor
        · rintro (h | h | h | h | h)
          · omega
          · omega
          · omega
          · omega
          · exact h.2.2
        · intro h
          exact .inr (.inr (.inr (.inr ⟨by omega, hi', h⟩)))
      show Dk _ _ _ _ _
      simp only
      rw [e]
      exact (h1.dk i hi).but b4 (fun k hk e => by have := (h.off i hi k hk).1; omega)
    · rintro i j k hi hj
      have lo : ∀ x, 4 ≤ x → x - 4 < M → T (x - 4) k → w0.heap.size + 1 + 1 + 1 + 1 ≤ k ∧ k < w.heap.size := fun x _ h2 h3 => ⟨(h.off _ h2 k h3).1, hTlt _ h2 k h3⟩
      rcases hi with hi | hi | hi | hi | hi <;> rcases hj with hj | hj | hj | hj | hj <;>
        first
        | omega
        | (have := lo i hi.1 hi.2.1 hi.2.2; omega)
        | (have := lo j hj.1 hj.2.1 hj.2.2; omega)
        | (have := h.ap _ _ k hi.2.1 hj.2.1 hi.2.2 hj.2.2; omega)
    · rintro i k hi
      have hsz : (w1.setCell ⟨w0.heap.size + 1 + 1, 9, none⟩ (ptr a)).heap.size ≥ w1.heap.size := b4.size
      have hs2 := hb.size
      have ha1 := ha.lt
      have hr1 := hr.1
      rcases hi with hi | hi | hi | hi | hi
      · omega
      · omega
      · omega
      · omega
      · have := hTlt _ hi.2.1 k hi.2.2; omega
  · have := h1.rig.set 9 (ptr a)
    exact this
  · exact ⟨Nat.lt_of_lt_of_le hq2 b4.size, fun i hi => (b4.cell (p := ⟨q, i, none⟩) hq2 (fun e => by have e' : q = w0.heap.size + 1 + 1 := e; omega)).trans (by have hi' : i < M := hi; rw [hq3 i (by simpa using hi')]; simp)⟩
  · rintro ⟨i, hi⟩
    rcases hi with hi | hi | hi | hi | hi
    · omega
    · omega
    · omega
    · omega
    · have := (h.off _ hi.2.1 _ hi.2.2).1; omega
  · rintro ⟨i, hi⟩
    have hq4 : q < w.heap.size := (h.row.lt q rfl).2
    rcases hi with hi | hi | hi | hi | hi
    · omega
    · omega
    · omega
    · omega
    · exact (h.off _ hi.2.1 _ hi.2.2).2 rfl
  · omega
  · exact h1.bel.trans (b4.below (fun k e => by omega) h1.bel.size)
  · rintro k ⟨i, hi⟩
    rcases hi with hi | hi | hi | hi | hi
    · omega
    · omega
    · omega
    · omega
    · have := (h.off _ hi.2.1 _ hi.2.2).1; omega
  · exact Nat.le_trans h1.bel.size b4.size
end Go.Proofs.YtplmdmchkaacoaaGreat
