/-
  TEXTS JOINED: Disk3, Disk4, Live, Part, Nv.
-/
import Derived.Test.YtplmdmchkaacoaaGreatJ03
import Derived.Laws.ShiftsVarLaws
import Derived.Laws.Bits64b
import Derived.BigRegion
import Derived.Test.YtplmdmchkaacoaaGreatJ01
import Derived.Deep.MidRow
import Derived.Deep.WholeRow
import Derived.Laws.ResultCell

/-
  THE WALKS OF Waiting, Writes, Flush, Blank AND Cycle.
-/
namespace Go.Proofs.YtplmdmchkaacoaaGreat
open Go.RowKit Go.Maps Go.Shelf
set_option linter.unusedVariables false
set_option maxRecDepth 100000

/-- What stands in the second, else in the first. -/
def over {α : Type} (f h : Int → Option α) : Int → Option α := fun i => match h i with | some v => some v | none => f i

theorem valAt_merge {w : World} {bd bs nd ns : Nat} {Dd Ds : DataW Value} (hd : w.ownsMap Tryz.prog 3 raw bd nd Dd) (hs : w.ownsMap Tryz.prog 3 raw bs ns Ds) {i : Int} (hi : In64 i) : valAt (Lib.mergeD Dd Ds) i = over (valAt Dd) (valAt Ds) i := by
  have hh := at_some hs hi
  obtain ⟨es, hD, hpw, hk⟩ := hs.entries keyed
  subst hD
  have e1 := Maps.atKey_foldPut (key i) .nil es Dd hd.isMap hk hpw
  have e0 : valAt (Lib.mergeD Dd (.map es)) i = valAt (es.foldl (fun D p => D.put p.1 p.2) Dd) i := rfl
  rw [e0]
  unfold over
  cases e3 : es.find? (fun p => p.1.sameKey (key i)) with
  | none =>
    rw [e3] at e1
    simp only at e1
    have e4 : valAt (.map es) i = none := by
      unfold valAt
      rw [DataW.atKey, e3]
    rw [e4]
    show valAt _ i = valAt Dd i
    unfold valAt
    rw [e1]
  | some q =>
    rw [e3] at e1
    simp only at e1
    rcases hh with ⟨h1, h2⟩ | ⟨v, h1, h2, h3⟩
    · have e2 : es.find? (fun p => p.1.sameKey (key i)) = none := List.find?_eq_none.2 (fun p hp => by simpa using (List.any_eq_false.1 h1) p hp)
      rw [e2] at e3
      cases e3
    · have h4 := h3 .nil
      rw [DataW.atKey, e3] at h4
      simp only at h4
      rw [h2]
      unfold valAt
      rw [e1, h4]

theorem valAt_in64 {w : World} {b n : Nat} {D : DataW Value} (h : w.ownsMap Tryz.prog 3 raw b n D) {i : Int} (hv : valAt D i ≠ none) : In64 i := by
  obtain ⟨es, hD, hk⟩ := h.keysOf
  subst hD
  cases e3 : es.find? (fun p => p.1.sameKey (key i)) with
  | none =>
    exfalso
    apply hv
    unfold valAt
    rw [DataW.atKey, e3]
  | some q =>
    have h1 := List.mem_of_find?_eq_some e3
    have h2 := List.find?_some e3
    obtain ⟨v, hv⟩ := hk q h1
    obtain ⟨x, _, hx, hw⟩ := Maps.keyOf_i64 Tryz.underlying3 hv
    have h3 := WideAt.sameKey_eq h2
    rw [hx] at h3
    injection h3 with _ h3
    subst h3
    simp [Lit.wf, IntKind.min, IntKind.max, IntKind.signed, IntKind.bits] at hw
    unfold In64
    omega

theorem copy_any (bd bs : Nat) (fd fs : Int → Option Value) (S : Nat) (w : World) (hd : Mp w bd fd) (hs : Mp w bs fs) (hne : bd ≠ bs) (hu : Under fd S) (hv : Under fs S) (hS : S ≤ 1000000000) :
    Calls Tryz.prog 184 #[.map (some bd), .map (some bs)] w fun e w' => e = .returned (.tuple #[]) ∧ Mp w' bd (over fd fs) ∧ But (fun k => k = bd) w w' := by
  obtain ⟨Dd, od, hfd, h64⟩ := hd
  obtain ⟨Ds, os, hfs, k64⟩ := hs
  have s1 := size_under od hfd hu
  have s2 := size_under os hfs hv
  have h := AnyX.maps_Copy copyA keyed raw bd bs (Maps.size Dd) (Maps.size Ds) Dd Ds w od os hne (by unfold maxLen; omega)
  change Calls Tryz.prog 184 _ _ _ at h
  refine h.mono ?_
  rintro e w' ⟨rfl, h1, _, hg⟩
  refine ⟨rfl, ⟨Lib.mergeD Dd Ds, ?_, ?_, ?_⟩, ⟨hg.os, hg.tape, hg.output, hg.size, fun k hk hn => hg.block k hk (fun e => hn (by injection e))⟩⟩
  · obtain ⟨es, clock, hb, F, _, hD⟩ := h1
    refine ⟨es, clock, hb, F, ?_, hD⟩
    rw [hD]
    simp [Maps.size, length_sorted]
  · intro i
    by_cases hi : In64 i
    · rw [valAt_merge od os hi]
      unfold over
      rw [← hfs i, ← hfd i]
    · have e1 : fs i = none := by
        cases hc : fs i with
        | none => rfl
        | some v => exact absurd (k64 i (by rw [hc]; simp)) hi
      have e2 : fd i = none := by
        cases hc : fd i with
        | none => rfl
        | some v => exact absurd (h64 i (by rw [hc]; simp)) hi
      unfold over
      rw [e1, e2]
      cases hc : valAt (Lib.mergeD Dd Ds) i with
      | none => rfl
      | some v =>
        exact absurd (valAt_in64 h1 (by rw [hc]; simp)) hi
  · intro i hi
    unfold over at hi
    cases hc : fs i with
    | none => rw [hc] at hi; exact h64 i hi
    | some v => exact k64 i (by rw [hc]; simp)

section
variable {w : World} {g p : Nat} {T : Nat → Prop} {s : DS}

/-- Everything that waits is durable; nothing waits. -/
def DS.flush (s : DS) : DS := { s with on := over s.on s.wait, wait := fun _ => none }
def DS.fl (s : DS) (u : Int) : DS := if (s.op u).dead then s.op u else (s.op u).flush
theorem DS.fl_ok {s : DS} {u : Int} (h : (s.op u).dead = false) : s.fl u = (s.op u).flush := by simp [DS.fl, h]
theorem DS.fl_no {s : DS} {u : Int} (h : (s.op u).dead = true) : s.fl u = s.op u := by simp [DS.fl, h]

theorem Sect.over {w : World} {T Z : Nat → Prop} {size : Nat} {f h : Int → Option Value} {c d : Int → Option Bytes} (hf : Sect w T Z size f c) (hh : Sect w T Z size h d) : Sect w T Z size (over f h) (over c d) := by
  intro i
  rcases hh i with ⟨h1, h2⟩ | ⟨A, cap, l, h1, h2, h3⟩
  · have := hf i
    simpa [YtplmdmchkaacoaaGreat.over, h1, h2] using this
  · exact .inr ⟨A, cap, l, by simp [YtplmdmchkaacoaaGreat.over, h1], by simp [YtplmdmchkaacoaaGreat.over, h2], h3⟩
theorem Under.over {f h : Int → Option Value} {S : Nat} (hf : Under f S) (hh : Under h S) : Under (over f h) S := by
  intro i hi
  unfold YtplmdmchkaacoaaGreat.over at hi
  cases hc : h i with
  | none => rw [hc] at hi; exact hf i hi
  | some v => exact hh i (by rw [hc]; simp)

/-- Two of the maps turned: what is durable, what waits. -/
theorem Lies.turn {w w2 w3 : World} {bd bw bn : Nat} {fd fw fn fd' : Int → Option Value} {c : Int → Option Bytes} (h : Lies w g p T s bd bw bn fd fw fn) (hm : Mp w2 bd fd') (hb : But (fun k => k = bd) w w2) (hw : Mp w3 bw (fun _ => none)) (hb3 : But (fun k => k = bw) w2 w3)
    (hr : Sect w T (fun k => k = g ∨ k = bd ∨ k = bw ∨ k = bn) s.size fd' c) (hu : Under fd' s.sectors) : Lies w3 g p T { s with on := c, wait := fun _ => none } bd bw bn fd' (fun _ => none) fn := by
  obtain ⟨a1, a2, a3, a4, a5, a6⟩ := h.apart
  have b2 : But (fun k => k = bd ∨ k = bw) w w3 := (hb.mono (fun _ h _ => .inl h)).trans hb3 (fun _ h _ => .inr h)
  exact
    { h with
      at_ := h.at_.but b2 (fun h => h.elim a4 a5)
      on := hm.but hb3 a1
      wait := hw
      writes := h.writes.but b2 (fun h => h.elim (fun e => a2 e.symm) (fun e => a3 e.symm))
      rowsOn := hr.but b2 (fun k _ hk h => hk (h.elim (fun e => .inr (.inl e)) (fun e => .inr (.inr (.inl e)))))
      rowsWait := Sect.none _ _ _ _
      lt := fun k hk => Nat.lt_of_lt_of_le (h.lt k hk) b2.size
      underOn := hu
      underWait := fun _ h => absurd rfl h }

theorem last_over (s : DS) (i : Int) : s.last i = over s.on s.wait i := by
  unfold DS.last over
  cases s.wait i <;> rfl

set_option maxHeartbeats 800000 in
theorem flush_go (u l : Int) (h : Dk w g p T s) (hp : Pw w p u l) (hu : 0 ≤ u ∧ u ≤ 1000000) (hl : ¬ l = 0) (hm : l ≤ 9223372036854775807) :
    Calls Tryz.prog 180 #[.pointer (some ⟨g, 0, none⟩)] w fun e w' => e = .returned (.int .i64 (err (s.op u).dead)) ∧ Dk w' g p T (s.fl u) ∧ Pw w' p (u + 1) (less l) ∧ But (fun k => T k ∨ k = p) w w' := by
  have HD := Lib.hid h
  have HP := Lib.hid hp
  clear h hp
  go_enter Tryz.func180, Tryz.ntmps180
  go_wp2_with fail
  refine (operate_go u l HD.out HP.out hu hl hm).mono ?_
  rintro e w1 ⟨rfl, hd1, hp1, hb1⟩
  have D1 := Lib.hid hd1
  have P1 := Lib.hid hp1
  have B1 := Lib.hid hb1
  clear hd1 hp1 hb1
  cases hdd : (s.op u).dead
  · have HDD := Lib.hid hdd
    unfold err
    simp only [Bool.false_eq_true, if_false]
    obtain ⟨bd, bw, bn, fd, fw, fn, hL⟩ := D1.out
    obtain ⟨c0, c1, c2, c3, c4, c5, c6, c7⟩ := hL.cell
    have HL := Lib.hid hL
    clear hL c0 c1 c2 c5 c6 c7 hdd
    go_wp2_with fail
    go_region_with ((go_at_call 184; refine (copy_any bd bw fd fw s.sectors _ (HL.out.on.but (S := fun _ => False) ((But.refl _ _).drewN _) (fun h => h)) (HL.out.wait.but (S := fun _ => False) ((But.refl _ _).drewN _) (fun h => h)) HL.out.apart.1 HL.out.underOn HL.out.underWait HL.out.small.1).mono ?_; rintro e w2 ⟨rfl, hm2, hb2⟩))
    all_goals
      have hc4 : w2.cell? ⟨g, 4, none⟩ = some (.map (some bw)) := ((HL.out.at_.but (S := fun _ => False) ((But.refl _ _).drewN _) (fun h => h)).but hb2 HL.out.apart.2.2.2.1).cell 4
      obtain ⟨w3, hr3, hm3, hb3⟩ := (((HL.out.wait.but (S := fun _ => False) ((But.refl _ _).drewN _) (fun h => h)).but hb2 (fun e => HL.out.apart.1 e.symm))).clear Tryz.underlying52
      have M2 := Lib.hid hm2
      have B2 := Lib.hid (hb2.of_drewN _)
      have M3 := Lib.hid hm3
      have B3 := Lib.hid hb3
      clear hm2 hb2 hm3 hb3 c3 c4
      go_wp2
      go_ret
      have ho := HL.out.own
      have hlies := HL.out.turn M2.out B2.out M3.out B3.out (HL.out.rowsOn.over HL.out.rowsWait) (HL.out.underOn.over HL.out.underWait)
      have b13 : But (fun k => k = bd ∨ k = bw) w1 w3 := (B2.out.mono (fun _ h _ => .inl h)).trans B3.out (fun _ h _ => .inr h)
      refine ⟨by rw [HDD.out]; rfl, ?_, ?_, ?_⟩
      · rw [DS.fl_ok HDD.out]
        exact ⟨_, _, _, _, _, _, hlies⟩
      · refine P1.out.but b13 ?_
        rintro (e | e)
        · exact HL.out.np (e ▸ ho.2.1)
        · exact HL.out.np (e ▸ ho.2.2.1)
      · refine (B1.out.mono (T := fun k => T k ∨ k = p) ?_).trans b13 ?_
        · rintro k (rfl | rfl) _
          · exact .inl ho.1
          · exact .inr rfl
        · rintro k (rfl | rfl) _
          · exact .inl ho.2.1
          · exact .inl ho.2.2.1
  · have HDD := Lib.hid hdd
    clear hdd
    unfold err
    simp only [if_true]
    go_wp2
    go_ret
    refine ⟨by rw [HDD.out]; rfl, ?_, P1.out, B1.out.mono ?_⟩
    · rw [DS.fl_no HDD.out]
      exact D1.out
    · rintro k (rfl | rfl) _
      · exact .inl HD.out.own
      · exact .inr rfl

end

end Go.Proofs.YtplmdmchkaacoaaGreat

/-
  THE WALKS OF Blank AND Cycle.
-/
namespace Go.Proofs.YtplmdmchkaacoaaGreat
open Go.RowKit Go.Maps Go.Shelf
set_option linter.unusedVariables false
set_option maxRecDepth 100000

section
variable {w : World} {g p : Nat} {T : Nat → Prop} {s : DS}

theorem Lies.blank {w w1 w2 w3 : World} {bd bw bn : Nat} {fd fw fn : Int → Option Value} (h : Lies w g p T s bd bw bn fd fw fn) (m1 : Mp w1 bd (fun _ => none)) (b1 : But (fun k => k = bd) w w1) (m2 : Mp w2 bw (fun _ => none)) (b2 : But (fun k => k = bw) w1 w2)
    (m3 : Mp w3 bn (fun _ => none)) (b3 : But (fun k => k = bn) w2 w3) : Lies w3 g p T { s with on := fun _ => none, wait := fun _ => none, writes := fun _ => 0 } bd bw bn (fun _ => none) (fun _ => none) (fun _ => none) := by
  obtain ⟨a1, a2, a3, a4, a5, a6⟩ := h.apart
  have b23 : But (fun k => k = bw ∨ k = bn) w1 w3 := (b2.mono (fun _ h _ => .inl h)).trans b3 (fun _ h _ => .inr h)
  have b13 : But (fun k => k = bd ∨ k = bw ∨ k = bn) w w3 := (b1.mono (fun _ h _ => .inl h)).trans b23 (fun _ h _ => .inr h)
  exact
    { h with
      at_ := h.at_.but b13 (fun h => h.elim a4 (fun h => h.elim a5 a6))
      on := m1.but b23 (fun h => h.elim a1 a2)
      wait := m2.but b3 a3
      writes := m3
      rowsOn := Sect.none _ _ _ _
      rowsWait := Sect.none _ _ _ _
      counts := fun _ => rfl
      lt := fun k hk => Nat.lt_of_lt_of_le (h.lt k hk) b13.size
      underOn := fun _ h => absurd rfl h
      underWait := fun _ h => absurd rfl h
      underWrites := fun _ h => absurd rfl h }

end

end Go.Proofs.YtplmdmchkaacoaaGreat

/-
  A DISK THAT DOES NOT FAIL; THE WALK OF Awake.
-/
namespace Go.Proofs.YtplmdmchkaacoaaGreat
open Go.RowKit Go.Maps Go.Shelf
set_option linter.unusedVariables false
set_option maxRecDepth 100000

theorem op_live {s : DS} (hd : s.dead = false) (hf : s.failAt < 0) (u : Int) : s.op u = s := by
  have : ¬ 0 ≤ s.failAt := by omega
  unfold DS.op
  rw [decide_eq_false this, hd]
  cases s
  simp_all

section
variable {w : World} {g p : Nat} {T : Nat → Prop} {s : DS}

theorem own_slice {w2 : World} {base : Nat} {A : Option Addr} {n cap : Nat} {b : Bytes} (h : w2.ownsRow base 5 1 (.slice A n cap) n (b.map val)) :
    Has w2 A n b ∧ (A = none → cap = 0) ∧ ∀ x, A = some x → base ≤ x.block ∧ x.block < w2.heap.size := by
  obtain ⟨A', cap', e, h1⟩ := own_form h
  injection e with e1 _ e2
  subst e1 e2
  exact h1

end

end Go.Proofs.YtplmdmchkaacoaaGreat

/-
  STRUCTS OF SEVERAL CELLS, stored into a block, loaded out of it.
-/
namespace Go.Proofs.YtplmdmchkaacoaaGreat
open Go.RowKit
set_option linter.unusedVariables false
set_option maxRecDepth 100000

theorem setRow_but (w : World) (g : Nat) (c : Array Value) : But (fun k => k = g) w (w.setRow g c) := by
  refine ⟨rfl, rfl, rfl, by simp [World.setRow], fun k hk hn => ?_⟩
  simp only [World.setRow]
  rw [Array.getElem?_modify]
  rw [if_neg (fun e => hn e.symm)]

/-- What a block holds when some of its cells are stored anew. -/
def part (c : Array Value) (o : Nat) (cells : Array Value) : Array Value := (c.toList.take o ++ cells.toList ++ c.toList.drop (o + cells.size)).toArray
/-- A struct stored into a block that is known whole. -/
theorem wpList_store_part {w : World} {ops : Array Oper} {rest : List Oper} {op : Oper} {a : Act} {Q : Exit → Act → World → Prop} (hgd : op.guard = none) (ty : TypeId) (x y : Operand) (ho : op.op = .store ty x y) (g o : Nat) (t : TypeId) (c cells : Array Value)
    (hx : a.eval x = .pointer (some ⟨g, o, none⟩)) (hy : a.eval y = .agg cells) (hat : At w g c t) (hi : (Tryz.prog.info? ty).map (·.size) = some cells.size) (hfit : o + cells.size ≤ c.size) (h1 : cells.all (·.oneCell') = true)
    (h : ∀ w', At w' g (part c o cells) t → But (fun k => k = g) w w' → wpList Tryz.prog ops Q rest (a.put op.dst undef) w') : wpList Tryz.prog ops Q (op :: rest) a w := by
  refine wpList_plain hgd fun K hK => ?_
  have hst := run_storeCells_at Tryz.prog g o t cells.toList 0 c w hat (by simpa using hfit) (fun v hv => (Array.all_eq_true_iff_forall_mem.1 h1) v (by simpa using hv))
  have hrun : (storeVar ty ⟨g, o, none⟩ (.agg cells)).run Tryz.prog w = .ok () (w.setRow g (part c o cells)) := by
    cases hq : Tryz.prog.info? ty with
    | none => simp [hq] at hi
    | some i =>
      have hs : cells.size = i.size := by simp [hq] at hi; omega
      simp only [Nat.add_zero, Array.length_toList] at hst
      simp [storeVar, sizeOf, typeInfo, hq, Value.cells, hs, hst, part]
  unfold Oper.wp execOp
  simp only [ho, hx, hy, Instr.storeAt, Instr.sureAddr, Sem.run_bind, Sem.run_pure, Result.andThen_ok, hrun]
  exact hK _ _ (h _ (setRow_heap w g _ _ t _ hat) (setRow_but w g _))
/-- A struct loaded out of a block that is known whole. -/
theorem wpList_load_part {w : World} {ops : Array Oper} {rest : List Oper} {op : Oper} {a : Act} {Q : Exit → Act → World → Prop} (hgd : op.guard = none) (ty : TypeId) (x : Operand) (ho : op.op = .load ty x) (g o : Nat) (cells : Array Value) (d : TypeDesc)
    (hx : a.eval x = .pointer (some ⟨g, o, none⟩)) (hc : ∀ j, j < cells.size → w.cell? ⟨g, o + j, none⟩ = cells[j]?) (hu : Tryz.prog.underlying ty = some d) (hd : d.isRow = true) (hi : (Tryz.prog.info? ty).map (·.size) = some cells.size)
    (h : wpList Tryz.prog ops Q rest (a.put op.dst (.agg cells)) w) : wpList Tryz.prog ops Q (op :: rest) a w := by
  have := wpList_load_mid (P := Tryz.prog) (ops := ops) (rest := rest) (Q := Q) hgd ty x ho g o hx cells.toList d (fun j v hv => by
    have hj : j < cells.size := by have := (List.getElem?_eq_some_iff.1 hv).1; simpa using this
    rw [hc j hj]
    simpa using hv) hu hd (by simpa using hi)
  exact this (by simpa using h)

/-- A struct that fills its block, loaded. -/
theorem exec_load_whole {w : World} {a : Act} {op : Oper} {ty : TypeId} {x : Operand} {g : Nat} {cells : Array Value} {fs : Array Field} (ho : op.op = .load ty x) (hx : a.eval x = .pointer (some ⟨g, 0, none⟩)) (hat : At w g cells ty)
    (hu : Tryz.prog.underlying ty = some (.struct fs)) (hi : (Tryz.prog.info? ty).map (·.size) = some cells.size) : (execOp a.eval op).run Tryz.prog w = .ok (.value (.agg cells)) w := by
  have hrun := run_loadVar_row (P := Tryz.prog) w g ty ty cells (0, 0) _ hat hu rfl hi
  unfold execOp
  simp only [ho, hx, Instr.loadAt, Instr.sureAddr, Sem.run_bind, Sem.run_pure, Result.andThen_ok, hrun]

end Go.Proofs.YtplmdmchkaacoaaGreat

/-
  THE MEMORY, WITHOUT RECORDS: its root; the walks of New, Root, Set.
-/
namespace Go.Proofs.YtplmdmchkaacoaaGreat
open Go.RowKit
set_option linter.unusedVariables false
set_option maxRecDepth 100000

/-- A root. -/
structure Rt where
  m : Int
  b : Int
  g : Int
  s : Int
  n : Int
  l : Int
  gen : Int
  dur : Int
  stale : Int
def Rt.cs (r : Rt) : Array Value := #[.int .i64 r.m, .int .i64 r.b, .int .i64 r.g, .int .i64 r.s, .int .i64 r.n, .int .i64 r.l, .int .u64 r.gen, .int .u64 r.dur, .int .i64 r.stale]
theorem rt_one (r : Rt) : (r.cs.all (·.oneCell')) = true := by
  unfold Rt.cs
  simp
  exact ⟨rfl, rfl, rfl, rfl, rfl, rfl, rfl, rfl, rfl⟩
theorem root_size (r : Rt) : (Tryz.prog.info? 96).map (·.size) = some r.cs.size := by kernel_rfl
def noRoot : Rt := ⟨0, 0, 0, 0, 0, 0, 0, 0, -1⟩

def ncells (p : Nat) (r : Rt) (v : Value) (last : Nat) : Array Value :=
  #[.pointer (some ⟨p, 0, none⟩), .int .i64 r.m, .int .i64 r.b, .int .i64 r.g, .int .i64 r.s, .int .i64 r.n, .int .i64 r.l, .int .u64 r.gen, .int .u64 r.dur, .int .i64 r.stale, v, .int .u64 (last : Int)]

/-- The memory at block g, on the power at p. -/
def Nv (w : World) (g p : Nat) (r : Rt) (v : Value) (last : Nat) : Prop := At w g (ncells p r v last) 114

section
variable {w w' : World} {g p : Nat} {r : Rt} {v : Value} {last : Nat}

theorem new_nv (p : Nat) (w : World) (hp : p < w.heap.size) : Calls Tryz.prog 98 #[.pointer (some ⟨p, 0, none⟩)] w fun e w' => e = .returned (.pointer (some ⟨w.heap.size, 0, none⟩)) ∧ Nv w' w.heap.size p noRoot (.slice none 0 0) 0 ∧ Below w.heap.size w w' := by
  go_enter Tryz.func98, Tryz.ntmps98
  go_wp2
  go_ret
  exact ⟨rfl, At.new _ 114 rfl, (Below.refl _ _).alloc (Nat.le_refl _) _⟩

theorem root_any (h : Nv w g p r v last) : Calls Tryz.prog 40 #[.pointer (some ⟨g, 0, none⟩)] w fun e w' => e = .returned (.agg r.cs) ∧ Below w.heap.size w w' := by
  have H := Lib.hid (At.alloc h (.cells #[.int .i64 0, .int .i64 0, .int .i64 0, .int .i64 0, .int .i64 0, .int .i64 0, .int .u64 0, .int .u64 0, .int .i64 0] 96))
  have hg := At.lt h
  clear h
  go_enter Tryz.func40, Tryz.ntmps40
  go_wp2_with (first
    | (refine wpList_load_part rfl 96 (.tmp 5) rfl g 1 r.cs _ ?_ ?_ Tryz.underlying96 rfl (root_size _) ?_)
    | (refine wpList_store_part rfl 96 (.tmp 2) (.tmp 6) rfl w.heap.size 0 96 #[.int .i64 0, .int .i64 0, .int .i64 0, .int .i64 0, .int .i64 0, .int .i64 0, .int .u64 0, .int .u64 0, .int .i64 0] r.cs ?_ ?_ ?_ (root_size _) ?_ ?_ ?_))
  any_goals first | rfl | exact At.new _ 96 rfl | exact rt_one _ | (show 0 + 9 ≤ 9; omega)
  · intro j hj
    rw [H.out.cell]
    match j, hj with
    | 0, _ => rfl
    | 1, _ => rfl
    | 2, _ => rfl
    | 3, _ => rfl
    | 4, _ => rfl
    | 5, _ => rfl
    | 6, _ => rfl
    | 7, _ => rfl
    | 8, _ => rfl
  · intro w2 hat hb
    have A2 := Lib.hid hat
    have B2 := Lib.hid hb
    clear hat hb
    go_wp2
    refine bodyPost_ret (results_cell_row (p := 2) (ty := 96) rfl _ w2 w.heap.size 96 r.cs (0, 0) _ rfl A2.out Tryz.underlying96 rfl (root_size _)) rfl ?_
    exact ⟨rfl, ((Below.refl _ _).alloc (Nat.le_refl _) _).trans (B2.out.below (fun k e => Nat.le_of_eq e.symm) (by simp))⟩

theorem part_root (r q : Rt) : part (ncells p q v last) 1 r.cs = ncells p r v last := rfl

theorem set_out (u : Int) (q : Rt) (h : Nv w g p r v last) (hp : Pw w p u 0) : Calls Tryz.prog 99 #[.pointer (some ⟨g, 0, none⟩), .agg q.cs] w fun e w' => e = .panicked out ∧ ∃ o, w' = w.alloc o := by
  have c0 : (w.alloc (.cells q.cs 96)).cell? ⟨g, 0, none⟩ = some (.pointer (some ⟨p, 0, none⟩)) := (At.alloc h _).cell 0
  have P1 := Lib.hid (show Pw (w.alloc (.cells q.cs 96)) p u 0 from At.alloc hp _)
  clear h hp
  go_enter Tryz.func99, Tryz.ntmps99
  go_wp2_with fail
  refine (tick_out p u _ P1.out).mono ?_
  rintro e w' ⟨rfl, rfl⟩
  unfold out
  go_wp2
  exact ⟨rfl, rfl, _, rfl⟩

theorem set_go (u l : Int) (q : Rt) (h : Nv w g p r v last) (hp : Pw w p u l) (hgp : ¬ g = p) (hu : 0 ≤ u ∧ u ≤ 1000000) (hl : ¬ l = 0) (hm : l ≤ 9223372036854775807) :
    Calls Tryz.prog 99 #[.pointer (some ⟨g, 0, none⟩), .agg q.cs] w fun e w' => e = .returned (.tuple #[]) ∧ Nv w' g p q v last ∧ Pw w' p (u + 1) (less l) ∧ But (fun k => k = g ∨ k = p) w w' := by
  have c0 : (w.alloc (.cells q.cs 96)).cell? ⟨g, 0, none⟩ = some (.pointer (some ⟨p, 0, none⟩)) := (At.alloc h _).cell 0
  have P1 := Lib.hid (show Pw (w.alloc (.cells q.cs 96)) p u l from At.alloc hp _)
  have A1 := Lib.hid (show At (w.alloc (.cells q.cs 96)) w.heap.size q.cs 96 from At.new _ 96 rfl)
  have N1 := Lib.hid (show Nv (w.alloc (.cells q.cs 96)) g p r v last from At.alloc h _)
  have hpl := Lib.hid hp.lt
  have hgl := Lib.hid (At.lt h)
  have GP := Lib.hid hgp
  have B1 := Lib.hid ((But.refl (fun k => k = g ∨ k = p) w).alloc (.cells q.cs 96))
  clear h hp hgp
  go_enter Tryz.func99, Tryz.ntmps99
  go_wp2_with fail
  refine (tick_go p u l _ P1.out hu hl hm).mono ?_
  rintro e w2 ⟨rfl, hp2, hb2⟩
  have N2 := Lib.hid (show Nv w2 g p r v last from At.but N1.out hb2 GP.out)
  have A2 := Lib.hid (A1.out.but hb2 (by have := hpl.out; omega))
  have P2 := Lib.hid hp2
  have B2 := Lib.hid (B1.out.trans hb2 (fun k e _ => .inr e))
  clear hp2 hb2 c0
  go_wp2_with (first
    | (refine wpList_load_part rfl 96 (.tmp 3) rfl w.heap.size 0 q.cs _ ?_ ?_ Tryz.underlying96 rfl (root_size _) ?_)
    | (refine wpList_store_part rfl 96 (.tmp 12) (.tmp 10) rfl g 1 114 (ncells p r v last) q.cs ?_ ?_ ?_ (root_size _) ?_ ?_ ?_))
  any_goals first | rfl | exact N2.out | exact rt_one _ | (show 1 + 9 ≤ 12; omega)
  · intro j hj
    rw [Nat.zero_add]
    exact A2.out.cell j
  · intro w3 hat hb
    rw [part_root] at hat
    have N3 := Lib.hid (show Nv w3 g p q v last from hat)
    have P3 := Lib.hid (show Pw w3 p (u + 1) (less l) from At.but P2.out hb (fun e => GP.out e.symm))
    have B3 := Lib.hid (B2.out.trans hb (fun k e _ => .inl e))
    clear hat hb
    go_wp2
    go_end0
    exact ⟨rfl, N3.out, P3.out, B3.out⟩
end

end Go.Proofs.YtplmdmchkaacoaaGreat
