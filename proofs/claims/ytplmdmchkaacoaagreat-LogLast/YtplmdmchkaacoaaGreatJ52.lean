/-
  TEXTS JOINED: LgL.
-/
import Derived.Test.YtplmdmchkaacoaaGreatJ51
import Derived.Deep.CutRange
import Derived.Test.YtplmdmchkaacoaaGreatJ02
import Derived.Test.YtplmdmchkaacoaaGreatJ31

/-
  THE WALK OF LogLast.
-/
namespace Go.Proofs.YtplmdmchkaacoaaGreat
open Go.RowKit
open L7 (Rr Rc)
open L12 (Sg)
open L13 (setN)
set_option linter.unusedVariables false
set_option maxRecDepth 100000

theorem valAt_del (D : DataW Value) (i j : Int) : valAt (D.del (key i)) j = if j = i then none else valAt D j := by
  unfold valAt
  by_cases e : j = i
  · subst e
    rw [Go.Maps.atKey_del_same, if_pos rfl]
  · rw [Go.Maps.atKey_del_other (key_ne e), if_neg e]
theorem Mp.drop {w : World} {b : Nat} {f : Int → Option Value} {t e : TypeId} (h : Mp w b f) (ht : Tryz.prog.underlying t = some (.map 3 e)) {i : Int} (hi : In64 i) :
    ∃ w', (∀ ty, (Builtin.delete_ #[t, 3] ty #[.map (some b), .int .i64 i]).run Tryz.prog w = .ok (.tuple #[]) w') ∧ Mp w' b (fun j => if j = i then none else f j) ∧ But (fun k => k = b) w w' := by
  obtain ⟨D, h, hf, h64⟩ := h
  obtain ⟨w', hrun, hown, ht'⟩ := h.drop keyed ht (key_of hi) 0
  refine ⟨w', fun ty => ?_, ⟨D.del (key i), ?_, fun j => ?_, fun j hj => ?_⟩, but_turned ht'⟩
  · exact hrun
  · obtain ⟨es, clock, hb, F, _, hD⟩ := hown
    refine ⟨es, clock, hb, F, ?_, hD⟩
    rw [hD]
    simp [Maps.size, length_sorted]
  · rw [valAt_del, ← hf j]
  · have hj : (if j = i then none else f j) ≠ none := hj
    split at hj
    · exact absurd rfl hj
    · exact h64 j hj
/-- A map from blocks below lb to bytes. -/
def Hb (w : World) (b : Nat) (H : Nat → BitVec 8) (lb : Nat) : Prop := ∃ f, Mp w b f ∧ Under f lb ∧ ∀ i, i < lb → (f (i : Int)).getD (.int .u8 0) = .int .u8 ((H i).toNat : Int)
section
variable {w w' : World} {b lb : Nat} {H : Nat → BitVec 8}
theorem Hb.lt (h : Hb w b H lb) : b < w.heap.size := by obtain ⟨f, h1, _⟩ := h; exact h1.lt
theorem Hb.but {S : Nat → Prop} (h : Hb w b H lb) (hb : But S w w') (hn : ¬ S b) : Hb w' b H lb := by obtain ⟨f, h1, h2⟩ := h; exact ⟨f, h1.but hb hn, h2⟩
theorem Hb.up (h : Hb w b H lb) (hb : Below w.heap.size w w') : Hb w' b H lb := h.but (S := fun _ => False) (But.of_below hb) (fun h => h)
theorem Hb.made (w : World) (lb : Nat) : Hb (w.alloc (.map #[] 0)) w.heap.size (fun _ => 0#8) lb := ⟨_, Mp.made w, fun i h => absurd rfl h, fun i _ => rfl⟩
theorem in64_small {i lb : Nat} (hi : i < lb) (hl : lb ≤ 100) : In64 (i : Int) := by unfold In64; omega
theorem Hb.store (h : Hb w b H lb) (hl : lb ≤ 100) {i : Nat} (hi : i < lb) (v : BitVec 8) :
    ∃ w', (Instr.mapUpdate 91 (.map (some b)) (.int .i64 (i : Int)) (.int .u8 (v.toNat : Int))).run Tryz.prog w = .ok () w' ∧ Hb w' b (fun k => if k = i then v else H k) lb ∧ But (fun k => k = b) w w' := by
  obtain ⟨f, h1, h2, h3⟩ := h
  obtain ⟨w', hr, h4, h5⟩ := h1.store (t := 91) (e := 5) Tryz.underlying91 h2 (by unfold maxLen; omega) (in64_small hi hl) (.int .u8 (v.toNat : Int))
  refine ⟨w', hr, ⟨_, h4, fun k hk => ?_, fun k hk => ?_⟩, h5⟩
  · unfold upd at hk
    split at hk
    · rename_i e; subst e; omega
    · exact h2 k hk
  · show (if (k : Int) = (i : Int) then some (.int .u8 (v.toNat : Int)) else f (k : Int)).getD (.int .u8 0) = .int .u8 ((if k = i then v else H k).toNat : Int)
    by_cases e : k = i
    · subst e
      rw [if_pos rfl, if_pos rfl]
      rfl
    · rw [if_neg (by omega), if_neg e]
      exact h3 k hk
theorem Hb.drop (h : Hb w b H lb) (hl : lb ≤ 100) {i : Nat} (hi : i < lb) :
    ∃ w', (∀ ty, (Builtin.delete_ #[91, 3] ty #[.map (some b), .int .i64 (i : Int)]).run Tryz.prog w = .ok (.tuple #[]) w') ∧ Hb w' b (fun k => if k = i then 0#8 else H k) lb ∧ But (fun k => k = b) w w' := by
  obtain ⟨f, h1, h2, h3⟩ := h
  obtain ⟨w', hr, h4, h5⟩ := h1.drop (t := 91) (e := 5) Tryz.underlying91 (in64_small hi hl)
  refine ⟨w', hr, ⟨_, h4, fun k hk => ?_, fun k hk => ?_⟩, h5⟩
  · have hk : (if k = (i : Int) then none else f k) ≠ none := hk
    split at hk
    · exact absurd rfl hk
    · exact h2 k hk
  · show (if (k : Int) = (i : Int) then none else f (k : Int)).getD (.int .u8 0) = .int .u8 ((if k = i then 0#8 else H k).toNat : Int)
    by_cases e : k = i
    · subst e
      rw [if_pos rfl, if_pos rfl]
      rfl
    · rw [if_neg (by omega), if_neg e]
      exact h3 k hk
theorem Hb.look (h : Hb w b H lb) (hl : lb ≤ 100) {i : Nat} (hi : i < lb) : (Instr.lookup 91 (.map (some b)) (.int .i64 (i : Int)) false).run Tryz.prog w = .ok (.int .u8 ((H i).toNat : Int)) w := by
  obtain ⟨f, h1, h2, h3⟩ := h
  exact h1.look (t := 91) (e := 5) Tryz.underlying91 (z := .int .u8 0) (by kernel_rfl) (in64_small hi hl) (h3 i hi)
end
/-- The log, its rig and the map of what was put last; H: what the map says, H': what each block reads as. -/
def Lc (B : Nat) (w2 wr : World) (R : Nat) (P : Pl) (q : Ql) (hb : Nat) (a0 : AS) (k : Nat) (H H' : Nat → BitVec 8) : Prop :=
  ∃ O x, LF B w2 wr R P q O x k ∧ Alike a0 x.a ∧ Hb wr hb H a0.lb ∧ (∀ i : Nat, i < a0.lb → x.reads (i : Int) = List.replicate a0.nb (H' i)) ∧ ¬ O hb ∧ hb ≠ R ∧ B ≤ hb
def La (B : Nat) (w2 wr : World) (R : Nat) (P : Pl) (q : Ql) (hb : Nat) (a0 : AS) (k : Nat) : Prop := ∃ H, Lc B w2 wr R P q hb a0 k H H
section
variable {B k R hb : Nat} {w2 wr w' : World} {P : Pl} {q : Ql} {a0 : AS} {H H' : Nat → BitVec 8} {O : Nat → Prop} {x y : LS}
theorem La.below (h : La B w2 wr R P q hb a0 k) : Below B w2 wr := by obtain ⟨H, O, x, hF, _⟩ := h; exact hF.ly.below
theorem Lc.up (h : Lc B w2 wr R P q hb a0 k H H') (hb' : Below wr.heap.size wr w') : Lc B w2 w' R P q hb a0 k H H' := by
  obtain ⟨O, x, h1, h2, h3, h4⟩ := h
  exact ⟨O, x, h1.up hb', h2, h3.up hb', h4⟩
theorem Lc.set (h : Lc B w2 wr R P q hb a0 k H H') (hm : Hb w' hb H' a0.lb) (hb' : But (fun k => k = hb) wr w') : La B w2 w' R P q hb a0 k := by
  obtain ⟨O, x, h1, h2, h3, h4, h5, h6, h7⟩ := h
  exact ⟨H', O, x, h1.but hb' (fun k hk => by have hk : k = hb := hk; subst hk; exact ⟨h5, h6, h7⟩), h2, hm, h4, h5, h6, h7⟩
theorem lc_nxt (hN : Nxt B w2 wr R P q O x k w' y) (hal : Alike a0 x.a) (hH : Hb wr hb H a0.lb) (hno : ¬ O hb) (hne : hb ≠ R) (hge : B ≤ hb) (hr : ∀ i : Nat, i < a0.lb → y.reads (i : Int) = List.replicate a0.nb (H' i)) : Lc B w2 w' R P q hb a0 (k + 1) H H' := by
  obtain ⟨O', f, al, sub, but⟩ := hN
  exact ⟨O', y, f, hal.trans al, hH.but but hno, hr, fun h => (sub _ h).elim hno (fun h => by have := hH.lt; omega), hne, hge⟩
theorem lc_dest {e : Ending} (h : FDest B w2 wr R P q O x k w' e) (hal : Alike a0 x.a) (hH : Hb wr hb H a0.lb) (hno : ¬ O hb) (hne : hb ≠ R) (hge : B ≤ hb) (hr : ∀ i : Nat, i < a0.lb → x.reads (i : Int) = List.replicate a0.nb (H i)) : ∃ er, e = .returned (.int .i64 er) ∧ La B w2 w' R P q hb a0 (k + 1) := by
  cases h with
  | none h0 h => exact ⟨0, rfl, H, lc_nxt h hal hH hno hne hge hr⟩
  | room h0 hn h => exact ⟨2, rfl, H, lc_nxt h hal hH hno hne hge hr⟩
  | done h0 hn a hW hd h hrr => exact ⟨0, rfl, H, lc_nxt h hal hH hno hne hge (fun i hi => by rw [hrr i (by rw [hal.lb]; exact hi)]; exact hr i hi)⟩
/-- Behind a record: it was put, or there is no room; what is put is told by the map next. -/
theorem lc_app {kd : Int} {z : Nat} {d : Bytes} {f : BitVec 8} {e : Ending} (h : FApp B w2 wr R P q O x k kd (z : Int) d w' e) (hal : Alike a0 x.a) (hH : Hb wr hb H a0.lb) (hno : ¬ O hb) (hne : hb ≠ R) (hge : B ≤ hb) (hr : ∀ i : Nat, i < a0.lb → x.reads (i : Int) = List.replicate a0.nb (H i))
    (hst : stag a0.nb kd d = List.replicate a0.nb f) : ∃ er, e = .returned (.int .i64 er) ∧ ((er = 7 ∧ La B w2 w' R P q hb a0 (k + 1)) ∨ (er = 0 ∧ Lc B w2 w' R P q hb a0 (k + 1) H (fun i => if i = z then f else H i))) := by
  cases h with
  | full hf h => exact ⟨7, rfl, .inl ⟨rfl, H, lc_nxt h hal hH hno hne hge hr⟩⟩
  | done hf v h =>
    refine ⟨0, rfl, .inr ⟨rfl, lc_nxt h hal hH hno hne hge (fun i hi => ?_)⟩⟩
    rw [app_reads, hal.nb, hst]
    by_cases e : i = z
    · rw [if_pos (by omega), if_pos e]
    · rw [if_neg (by omega), if_neg e]
      exact hr i hi
end
theorem next_val (t : Nat) (h : t ≤ 18) : Value.int .i64 (wrap64 ((t : Int) + 1)) = .int .i64 ((t + 1 : Nat) : Int) := by
  have e := IntWalk.wrap64_in ((t : Int) + 1) (by omega)
  rw [e]
  rfl
theorem next_less (t lb : Nat) (h : t ≤ 18) (hl : t < lb) : lb - (RowKit.intOf (.int .i64 (wrap64 ((t : Int) + 1)))).toNat < lb - (RowKit.intOf (.int .i64 (t : Int))).toNat := by
  have e := IntWalk.wrap64_in ((t : Int) + 1) (by omega)
  rw [e]
  show lb - ((t : Int) + 1).toNat < lb - ((t : Int)).toNat
  omega
/-- What a record's making looks at. -/
def SL (P : Pl) (q : Ql) (a0 : AS) (X bx : Nat) (y : Ac) (w' : World) : Prop := w'.cell? ⟨q.b, 7, none⟩ = some (.pointer (some ⟨P.n, 0, none⟩)) ∧ At w' X #[.int .i64 (a0.M : Int), .int .i64 a0.b, .int .i64 a0.g, .int .i64 a0.s, .int .i64 a0.n, .int .i64 a0.l] 27 ∧ At w' bx #[.int .u8 (y.kind : Int), .int .u8 y.lba, .int .u8 (y.fill.toNat : Int)] 36
theorem fapp_but {B k R : Nat} {w2 wr w' : World} {P : Pl} {q : Ql} {O : Nat → Prop} {x : LS} {kd lba : Int} {d : Bytes} {e : Ending} (h : FApp B w2 wr R P q O x k kd lba d w' e) : But O wr w' ∧ w'.cell? ⟨q.b, 7, none⟩ = some (.pointer (some ⟨P.n, 0, none⟩)) := by
  cases h with
  | full hf h => obtain ⟨O', f, _, _, b⟩ := h; exact ⟨b, f.ly.lg.c7⟩
  | done hf v h => obtain ⟨O', f, _, _, b⟩ := h; exact ⟨b, f.ly.lg.c7⟩
theorem la_start {w2 w3 : World} {R : Nat} {P : Pl} {q : Ql} {O : Nat → Prop} {x : LS} {a0 : AS} (hF : LF w2.heap.size w2 w3 R P q O x 0) (ha : a0 = x.a) (hr : ∀ i, x.reads i = blk x.a.nb []) : La w2.heap.size w2 (w3.alloc (.map #[] 0)) R P q w3.heap.size a0 0 := by
  subst ha
  refine ⟨fun _ => 0#8, O, x, hF.up ((Below.refl _ _).alloc (Nat.le_refl _) _), Alike.refl _, Hb.made _ _, fun i _ => ?_, fun h => ?_, fun e => ?_, hF.ly.size⟩
  · rw [hr]
    unfold blk
    rw [List.nil_append]
    rfl
  · exact absurd (hF.ly.lg.lt _ h) (Nat.lt_irrefl _)
  · obtain ⟨v, hR⟩ := hF.ly.rig
    have := hR.lt
    omega
set_option maxHeartbeats 6400000 in
theorem last_walk (x0 x1 x2 x3 x4 x5 : Int) (h0 : 0 ≤ x0 ∧ x0 ≤ 255) (h1 : 0 ≤ x1 ∧ x1 ≤ 255) (h2 : 0 ≤ x2 ∧ x2 ≤ 255) (h3 : 0 ≤ x3 ∧ x3 ≤ 255) (h4 : 0 ≤ x4 ∧ x4 ≤ 255) (h5 : 0 ≤ x5 ∧ x5 ≤ 255) (A : Option Addr) (n c : Nat) (L : List Ac) (w : World) (h : Acts w A n c L) :
    Calls Tryz.prog 9 #[.agg #[.int .u8 x0, .int .u8 x1, .int .u8 x2, .int .u8 x3, .int .u8 x4, .int .u8 x5], .slice A n c] w fun e w' => e = .returned (.bool true) ∧ Below w.heap.size w w' := by
  obtain ⟨m, b, g, s, nv, l, hsm, hfull⟩ := full_any x0 x1 x2 x3 x4 x5 h0 h1 h2 h3 h4 h5
  obtain ⟨M, rfl⟩ : ∃ M : Nat, m = (M : Int) := ⟨m.toNat, by have := hsm.hm; omega⟩
  have SM := Lib.hid hsm
  have H := Lib.hid h
  clear h hsm h0 h1 h2 h3 h4 h5
  go_enter Tryz.func9, Tryz.ntmps9
  go_wp2_with fail
  have A0 := Lib.hid (show At (w.alloc (.cells #[.int .u8 x0, .int .u8 x1, .int .u8 x2, .int .u8 x3, .int .u8 x4, .int .u8 x5] 23)) w.heap.size #[.int .u8 x0, .int .u8 x1, .int .u8 x2, .int .u8 x3, .int .u8 x4, .int .u8 x5] 23 from At.new _ 23 rfl)
  have B0 := Lib.hid (show Below w.heap.size w (w.alloc (.cells #[.int .u8 x0, .int .u8 x1, .int .u8 x2, .int .u8 x3, .int .u8 x4, .int .u8 x5] 23)) from (Below.refl _ _).alloc (Nat.le_refl _) _)
  obtain ⟨b0, hb0⟩ : ∃ b0, b0 = w.heap.size := ⟨_, rfl⟩
  refine (awake15_any _).mono ?_
  rintro e w0 ⟨rfl, hb⟩
  have A1 := Lib.hid (A0.out.below hb A0.out.lt)
  have B1 := Lib.hid (B0.out.trans (hb.mono B0.out.size))
  clear hb A0 B0
  by_cases hbig : 60 < n
  · have hbi : (60 : Int) < (n : Int) := by omega
    go_wp2
    go_ret
    exact ⟨rfl, B1.out⟩
  have hbi : ¬ (60 : Int) < (n : Int) := by omega
  have k0 := A1.out.cell 0; have k1 := A1.out.cell 1; have k2 := A1.out.cell 2; have k3 := A1.out.cell 3; have k4 := A1.out.cell 4; have k5 := A1.out.cell 5
  simp at k0 k1 k2 k3 k4 k5
  go_wp2_with fail
  refine (hfull _).mono ?_
  rintro e w1 ⟨rfl, hb⟩
  have B2 := Lib.hid (B1.out.trans (hb.mono B1.out.size))
  clear hb k0 k1 k2 k3 k4 k5 A1 B1 hfull
  go_wp2_with fail
  obtain ⟨X, hX⟩ : ∃ X, X = w1.heap.size := ⟨_, rfl⟩
  obtain ⟨w2, hw2⟩ : ∃ w2, w2 = w1.alloc (.cells #[.int .i64 (M : Int), .int .i64 b, .int .i64 g, .int .i64 s, .int .i64 nv, .int .i64 l] 27) := ⟨_, rfl⟩
  have AX := Lib.hid (show At w2 X #[.int .i64 (M : Int), .int .i64 b, .int .i64 g, .int .i64 s, .int .i64 nv, .int .i64 l] 27 by rw [hw2, hX]; exact At.new _ 27 rfl)
  have B3 := Lib.hid (show Below w.heap.size w w2 by rw [hw2]; exact B2.out.alloc B2.out.size _)
  rw [← hX, ← hw2]
  clear hX hw2 B2
  refine (start_fine M b g s nv l SM.out w2).mono ?_
  rintro e w3 ⟨R, P, q, O, x, rfl, hF, hfr, hrd⟩
  obtain ⟨hM, hsh⟩ := (show x.a.M = M ∧ x.a.b = b ∧ x.a.g = g ∧ x.a.s = s ∧ x.a.n = nv ∧ x.a.l = l from ⟨hfr.M, hfr.sh⟩)
  obtain ⟨a0, ha0⟩ : ∃ a0, a0 = x.a := ⟨_, rfl⟩
  have AL := Lib.hid (show a0.M = M ∧ a0.b = b ∧ a0.g = g ∧ a0.s = s ∧ a0.n = nv ∧ a0.l = l by rw [ha0]; exact ⟨hM, hsh⟩)
  have NN := Lib.hid (show (a0.lb : Int) = l ∧ (a0.nb : Int) = b by have h1 := small_nats hF.wf; rw [ha0]; exact ⟨h1.2.2.1.trans hsh.2.2.2.2, h1.2.2.2.2.trans hsh.1⟩)
  have LA := Lib.hid (show La w2.heap.size w2 (w3.alloc (.map #[] 0)) R P q w3.heap.size a0 0 from la_start hF ha0 hrd)
  clear hF hfr hrd hM hsh ha0
  have hmk : (Instr.makeMap 91 none).run Tryz.prog w3 = .ok (.map (some w3.heap.size)) (w3.alloc (.map #[] 0)) := run_makeMap 91 w3
  obtain ⟨e1, e2, e3, e4, e5, e6⟩ := AL.out
  subst e1 e2 e3 e4 e5 e6
  go_wp2_with fail
  clear hmk
  obtain ⟨w4, hw4⟩ : ∃ w4, w4 = w3.alloc (.map #[] 0) := ⟨_, rfl⟩
  obtain ⟨hb, hhb⟩ : ∃ hb, hb = w3.heap.size := ⟨_, rfl⟩
  rw [← hw4, ← hhb] at LA ⊢
  clear hw4 hhb
  go_loopw [34] (fun i wr => ∃ j : Nat, j ≤ n ∧ i = .int .i64 (j : Int) ∧ La w2.heap.size w2 wr R P q hb a0 j) (fun i _ => n - (RowKit.intOf i).toNat)
  case atStart => exact ⟨0, Nat.zero_le _, rfl, LA.out⟩
  case round =>
    obtain ⟨j, hj, rfl, hL⟩ := hrel
    have LJ := Lib.hid hL
    clear hL LA
    by_cases hlt : j < n
    · have hi : (j : Int) < (n : Int) := by omega
      obtain ⟨bA, oA, rfl, hc⟩ := H.out.2.2.2 (by omega)
      have hjl : j < L.length := by rw [H.out.1]; exact hlt
      obtain ⟨y, hy⟩ : ∃ y, y = L[j] := ⟨_, rfl⟩
      have BJ := Lib.hid (B3.out.trans (LJ.out.below.mono B3.out.size))
      have YA := Lib.hid (show y.At wr bA (oA + j * 3) by rw [hy]; exact (hc j hjl).below BJ.out)
      have AJ := Lib.hid (show ∀ o, At (wr.alloc o) X #[.int .i64 (a0.M : Int), .int .i64 a0.b, .int .i64 a0.g, .int .i64 a0.s, .int .i64 a0.n, .int .i64 a0.l] 27 from fun o => (AX.out.below LJ.out.below AX.out.lt).below ((Below.refl _ _).alloc (Nat.le_refl _) o) (by have h1 := AX.out.lt; have h2 : w2.heap.size ≤ wr.heap.size := LJ.out.below.size; omega))
      have x5 : ∀ o, (wr.alloc o).cell? ⟨X, 5, none⟩ = some (.int .i64 a0.l) := fun o => (AJ.out o).cell 5
      have hl0 : ¬ a0.l = 0 := by have := SM.out.hl; omega
      have hl18 := SM.out.hl
      have hyl := YA.out.hl
      obtain ⟨z, hz, hzl⟩ : ∃ z : Nat, (wrap64 y.lba).tmod a0.l = (z : Int) ∧ z < a0.lb := by
        have e1 : wrap64 y.lba = y.lba := IntWalk.wrap64_in _ (by omega)
        have e2 : y.lba.tmod a0.l = y.lba % a0.l := Int.tmod_eq_emod_of_nonneg hyl.1
        have e3 := Int.emod_nonneg y.lba hl0
        have e4 := Int.emod_lt_of_pos y.lba (show 0 < a0.l by omega)
        have := NN.out.1
        exact ⟨(y.lba % a0.l).toNat, by rw [e1, e2]; omega, by omega⟩
      have HZ := Lib.hid hz
      have ZL := Lib.hid hzl
      have c0 := YA.out.c0; have c1 := YA.out.c1; have c2 := YA.out.c2
      obtain ⟨Hm, O, x, hF, hal, hHb, hrd, hno, hne, hge⟩ := LJ.out
      have F1 := Lib.hid (hF.up ((Below.refl _ _).alloc (Nat.le_refl _) (.cells #[.int .u8 (y.kind : Int), .int .u8 y.lba, .int .u8 (y.fill.toNat : Int)] 36)))
      have H1 := Lib.hid (hHb.up ((Below.refl _ _).alloc (Nat.le_refl _) (.cells #[.int .u8 (y.kind : Int), .int .u8 y.lba, .int .u8 (y.fill.toNat : Int)] 36)))
      have AL1 := Lib.hid hal
      have RD := Lib.hid hrd
      have NO := Lib.hid hno
      have NE := Lib.hid hne
      have GE := Lib.hid hge
      have L18 := Lib.hid (show a0.lb ≤ 100 by have := NN.out.1; omega)
      have c7 : ∀ o, (wr.alloc o).cell? ⟨q.b, 7, none⟩ = some (.pointer (some ⟨P.n, 0, none⟩)) := fun o => (hF.up ((Below.refl _ _).alloc (Nat.le_refl _) o)).ly.lg.c7
      have W1 := Lib.hid (hF.ly.lg.lt)
      clear hc hy hF hal hHb hrd hno hne hge hl18 hyl hz hzl
      rcases (show y.kind % 3 = 0 ∨ y.kind % 3 = 1 ∨ y.kind % 3 = 2 by omega) with h3 | h3 | h3
      · have hk : (y.kind : Int) % 3 = 0 := by omega
        go_wp2_with fail
        refine (fdestage_any F1.out (by omega)).mono ?_
        rintro e w5 h5
        obtain ⟨er, rfl, hL⟩ := lc_dest h5 AL1.out H1.out NO.out NE.out GE.out RD.out
        have L5 := Lib.hid hL
        clear h5 hL
        go_wp2_with fail
        go_roundw
        case rel => exact ⟨j + 1, by omega, by go_num, L5.out⟩
        case measure => simp [RowKit.intOf]; omega
      · have hk : (y.kind : Int) % 3 = 1 := by omega
        go_wp2_with fail
        simp only [HZ.out]
        refine (fappend_any F1.out (by omega) 2 (z : Int) none 0 0 [] (Has.nil _ _) (Nat.zero_le _) (by omega) (fun h => absurd h (by omega)) (.inr (.inl rfl)) (by have := ZL.out; have := NN.out.1; have := AL1.out.l; omega)).mono ?_
        rintro e w5 h5
        obtain ⟨er, rfl, ⟨rfl, hL⟩ | ⟨rfl, hL⟩⟩ := lc_app (f := 0#8) h5 AL1.out H1.out NO.out NE.out GE.out RD.out (by unfold stag blk; rw [if_pos rfl, List.nil_append]; rfl)
        · have L5 := Lib.hid hL
          clear h5 hL
          go_wp2_with fail
          go_roundw
          case rel => exact ⟨j + 1, by omega, by go_num, L5.out⟩
          case measure => simp [RowKit.intOf]; omega
        · obtain ⟨_, _, _, _, hm, _⟩ := id hL
          obtain ⟨w6, hrun, hm6, hb6⟩ := hm.drop L18.out ZL.out
          have L6 := Lib.hid (hL.set hm6 hb6)
          clear h5 hL hm hm6 hb6
          go_wp2_with fail
          go_roundw
          case rel => exact ⟨j + 1, by omega, by go_num, L6.out⟩
          case measure => simp [RowKit.intOf]; omega
      · have hk : (y.kind : Int) % 3 = 2 := by omega
        go_wp2_with fail
        simp only [HZ.out]
        have NB := Lib.hid (show a0.b = (a0.nb : Int) from NN.out.2.symm)
        have H48 := Lib.hid (show 32 ≤ a0.nb ∧ a0.nb ≤ 48 by have := SM.out.hb; have := NN.out.2; omega)
        have BX := Lib.hid (show At (wr.alloc (.cells #[.int .u8 (y.kind : Int), .int .u8 y.lba, .int .u8 (y.fill.toNat : Int)] 36)) wr.heap.size #[.int .u8 (y.kind : Int), .int .u8 y.lba, .int .u8 (y.fill.toNat : Int)] 36 from At.new _ 36 rfl)
        have AX1 := Lib.hid (AJ.out (.cells #[.int .u8 (y.kind : Int), .int .u8 y.lba, .int .u8 (y.fill.toNat : Int)] 36))
        have W2 := Lib.hid (show ∀ k, O k → k < (wr.alloc (.cells #[.int .u8 (y.kind : Int), .int .u8 y.lba, .int .u8 (y.fill.toNat : Int)] 36)).heap.size from fun k hk => by have := W1.out k hk; simp; omega)
        have XO := Lib.hid (show ∀ k, O k → k ≠ X ∧ k ≠ wr.heap.size from fun k hk => by have h1 := W1.out k hk; have h2 := F1.out.ly.own k hk; have h3 := AX.out.lt; omega)
        have q7 := c7 (.cells #[.int .u8 (y.kind : Int), .int .u8 y.lba, .int .u8 (y.fill.toNat : Int)] 36)
        generalize wr.heap.size = bx at *
        generalize wr.alloc (.cells #[.int .u8 (y.kind : Int), .int .u8 y.lba, .int .u8 (y.fill.toNat : Int)] 36) = wa at *
        have S0 : SL P q a0 X bx y wa.drew := ⟨q7, AX1.out, BX.out⟩
        clear c7 x5 c0 c1 c2 q7
        refine wp_region_early (fun w' : World => SL P q a0 X bx y w') (fun _ => true) (by kernel_rfl) ?_
        change wpEarly _ _ _ _ _ _ 11 (Array.replicate 11 false) _ _
        refine early_take (i := 0) 47 (.pointer (some ⟨q.b, 0, none⟩)) rfl rfl (by kernel_rfl) (by kernel_rfl) (by kernel_rfl) (by kernel_rfl) rfl (fun _ _ _ h => h) (fun w' hw' => by go_simp) S0 ?_
        simp only [Act.put, List.setIfInBounds_toArray, List.set_cons_zero, List.set_cons_succ]
        refine early_take (i := 1) 48 (.pointer (some ⟨q.b, 0, none⟩)) rfl rfl (by kernel_rfl) (by kernel_rfl) (by kernel_rfl) (by kernel_rfl) rfl (fun _ _ _ h => h) (fun w' hw' => by go_simp) S0 ?_
        simp only [Act.put, List.setIfInBounds_toArray, List.set_cons_zero, List.set_cons_succ]
        refine early_take (i := 2) 49 (.pointer (some ⟨q.b, 7, none⟩)) rfl rfl (by kernel_rfl) (by kernel_rfl) (by kernel_rfl) (by kernel_rfl) rfl (fun _ _ _ h => h) (fun w' hw' => by go_simp) S0 ?_
        simp only [Act.put, List.setIfInBounds_toArray, List.set_cons_zero, List.set_cons_succ]
        refine early_take (i := 3) 50 (.pointer (some ⟨P.n, 0, none⟩)) rfl rfl (by kernel_rfl) (by kernel_rfl) (by kernel_rfl) (by kernel_rfl) rfl (fun _ _ _ h => h) (fun w' hw' => by have k := hw'.1; go_simp) S0 ?_
        simp only [Act.put, List.setIfInBounds_toArray, List.set_cons_zero, List.set_cons_succ]
        refine early_take (i := 4) 51 (.int .i64 (z : Int)) rfl rfl (by kernel_rfl) (by kernel_rfl) (by kernel_rfl) (by kernel_rfl) rfl (fun _ _ _ h => h) (fun w' hw' => by go_simp) S0 ?_
        simp only [Act.put, List.setIfInBounds_toArray, List.set_cons_zero, List.set_cons_succ]
        refine early_take (i := 5) 52 (sv (a0.M : Int) a0.b a0.g a0.s a0.n a0.l) rfl rfl (by kernel_rfl) (by kernel_rfl) (by kernel_rfl) (by kernel_rfl) rfl (fun _ _ _ h => h) (fun w' hw' => exec_shape (x := .tmp 5) rfl rfl (sh_range hw'.2.1)) S0 ?_
        simp only [Act.put, List.setIfInBounds_toArray, List.set_cons_zero, List.set_cons_succ]
        refine early_take (i := 6) 53 (.pointer (some ⟨bx, 2, none⟩)) rfl rfl (by kernel_rfl) (by kernel_rfl) (by kernel_rfl) (by kernel_rfl) rfl (fun _ _ _ h => h) (fun w' hw' => by go_simp) S0 ?_
        simp only [Act.put, List.setIfInBounds_toArray, List.set_cons_zero, List.set_cons_succ]
        refine early_take (i := 7) 54 (.int .u8 (y.fill.toNat : Int)) rfl rfl (by kernel_rfl) (by kernel_rfl) (by kernel_rfl) (by kernel_rfl) rfl (fun _ _ _ h => h) (fun w' hw' => by have k := hw'.2.2.cell 2; simp at k; go_simp) S0 ?_
        simp only [Act.put, List.setIfInBounds_toArray, List.set_cons_zero, List.set_cons_succ]
        refine early_only (i := 8) (by kernel_rfl) rfl (fun K hK => ?_)
        simp only [opWp, List.getElem?_toArray, List.getElem?_cons_succ, List.getElem?_cons_zero]
        go_simp
        go_at_call 36
        refine (Block_any (a0.M : Int) a0.b a0.g a0.s a0.n a0.l a0.nb NB.out H48.out y.fill _ rfl wa.drew).mono ?_
        rintro e w3 ⟨Bk, rfl, ho, hbl⟩
        have F3 := Lib.hid ((F1.out.but (S := fun _ => False) ((But.refl _ _).drew) (fun _ h => h.elim)).up hbl)
        have H3 := Lib.hid ((H1.out.but (S := fun _ => False) ((But.refl _ _).drew) (fun h => h.elim)).up hbl)
        have BK := Lib.hid (block_has ho)
        have BO := Lib.hid (show ¬ O Bk from fun hk => by have h1 := W2.out _ hk; have h2 := block_new ho (by have := H48.out; omega); have h3 : wa.heap.size ≤ Bk := h2; omega)
        have AX3 := Lib.hid (show At w3 X _ 27 from At.below (w := wa.drew) AX1.out hbl (At.lt AX1.out))
        have BX3 := Lib.hid (show At w3 bx _ 36 from At.below (w := wa.drew) BX.out hbl (At.lt BX.out))
        have S2 : SL P q a0 X bx y w3 := ⟨F3.out.ly.lg.c7, AX3.out, BX3.out⟩
        clear ho hbl
        refine hK _ _ (fun _ => S2) ?_
        refine early_only (i := 9) (by kernel_rfl) rfl (fun K hK => ?_)
        simp only [opWp, List.getElem?_toArray, List.getElem?_cons_succ, List.getElem?_cons_zero]
        go_simp
        go_at_call 35
        refine (fappend_any F3.out (by omega) 1 (z : Int) _ a0.nb a0.nb (List.replicate a0.nb y.fill) BK.out (by rw [List.length_replicate, AL1.out.nb]; exact Nat.le_refl _) (by have := H48.out; omega) (fun _ y hy => by injection hy with hy; subst hy; exact BO.out) (.inl rfl) (by have := ZL.out; have := NN.out.1; have := AL1.out.l; omega)).mono ?_
        rintro e w4 h4
        have b4 := fapp_but h4
        obtain ⟨er, rfl, hE⟩ := lc_app (f := y.fill) h4 AL1.out H3.out NO.out NE.out GE.out RD.out (by unfold stag blk; rw [if_neg (by decide), List.length_replicate, Nat.sub_self, List.replicate_zero, List.append_nil])
        have HE := Lib.hid hE
        have AX4 := Lib.hid (AX3.out.but b4.1 (fun h => (XO.out _ h).1 rfl))
        have BX4 := Lib.hid (BX3.out.but b4.1 (fun h => (XO.out _ h).2 rfl))
        have S3 : SL P q a0 X bx y w4 := ⟨b4.2, AX4.out, BX4.out⟩
        clear h4 hE b4
        refine hK _ _ (fun _ => S3) ?_
        refine early_take (i := 10) 57 (.bool (er == 0)) rfl rfl (by kernel_rfl) (by kernel_rfl) (by kernel_rfl) (by kernel_rfl) rfl (fun _ _ _ h => h) (fun w' hw' => by go_simp) S3 ?_
        simp only [Act.put, List.setIfInBounds_toArray, List.set_cons_zero, List.set_cons_succ]
        refine early_done (by kernel_rfl) ?_
        clear S0 S2 S3
        rcases HE.out with ⟨he, hL⟩ | ⟨he, hL⟩
        · have L5 := Lib.hid hL
          have he0 : (er == 0) = false := by rw [he]; rfl
          simp only [he0]
          clear hL HE
          go_wp2_with fail
          go_roundw
          case rel => exact ⟨j + 1, by omega, by go_num, L5.out⟩
          case measure => simp [RowKit.intOf]; omega
        · obtain ⟨_, _, _, _, hm, _⟩ := id hL
          obtain ⟨w6, hrun, hm6, hb6⟩ := hm.store L18.out ZL.out y.fill
          have L6 := Lib.hid (hL.set hm6 hb6)
          have he0 : (er == 0) = true := by rw [he]; rfl
          have f2 : w4.cell? ⟨bx, 2, none⟩ = some (.int .u8 (y.fill.toNat : Int)) := BX4.out.cell 2
          simp only [he0]
          clear hL hm hm6 hb6 HE
          go_wp2_with fail
          go_roundw
          case rel => exact ⟨j + 1, by omega, by go_num, L6.out⟩
          case measure => simp [RowKit.intOf]; omega
    · obtain rfl : j = n := by omega
      have hi : ¬ (j : Int) < (j : Int) := by omega
      have AJ := Lib.hid (AX.out.below LJ.out.below AX.out.lt)
      have BW := Lib.hid (B3.out.trans (LJ.out.below.mono B3.out.size))
      have x5 := AJ.out.cell 5
      simp at x5
      have hl18 := SM.out.hl
      have HBN := Lib.hid hbig
      go_wp2_with fail
      clear x5
      go_loopw [80] (fun i wx => ∃ t : Nat, t ≤ a0.lb ∧ i = .int .i64 (t : Int) ∧ La w2.heap.size w2 wx R P q hb a0 (j + t)) (fun i _ => a0.lb - (RowKit.intOf i).toNat)
      case atStart => exact ⟨0, Nat.zero_le _, rfl, LJ.out⟩
      case round =>
        obtain ⟨t, ht, rfl, hL⟩ := hrel
        have LT := Lib.hid hL
        clear hL
        by_cases hlt2 : t < a0.lb
        · have hi2 : (t : Int) < a0.l := by have := NN.out.1; omega
          obtain ⟨Hm, O, x, hF, hal, hHb, hrd, hno, hne, hge⟩ := LT.out
          have F1 := Lib.hid hF
          have AL1 := Lib.hid hal
          have RD := Lib.hid hrd
          have H1 := Lib.hid hHb
          have NO := Lib.hid (And.intro hno (And.intro hne hge))
          have NT := Lib.hid (show j + t ≤ 900 by have := NN.out.1; have := HBN.out; omega)
          have NB := Lib.hid (show a0.b = (a0.nb : Int) from NN.out.2.symm)
          have H48 := Lib.hid (show 32 ≤ a0.nb ∧ a0.nb ≤ 48 by have := SM.out.hb; have := NN.out.2; omega)
          clear hF hal hHb hrd hno hne hge hl18
          go_wp2_with fail
          refine (fread_any F1.out NT.out (t : Int) (by have := AL1.out.l; omega)).mono ?_
          rintro e w5 ⟨v, a5, rfl, hN, hr5, hv⟩
          rw [RD.out t hlt2] at hv
          unfold NewRow at hv
          rw [List.length_replicate] at hv
          obtain ⟨A5, c5, rfl, _, _, hH5, _⟩ := Has.of_own hv
          have LC := Lib.hid (lc_nxt hN AL1.out H1.out NO.out.1 NO.out.2.1 NO.out.2.2 (fun i hi => by rw [hr5]; exact RD.out i hi))
          have HH := Lib.hid hH5
          have B5 := Lib.hid (show Below w2.heap.size w2 w5 from La.below ⟨Hm, LC.out⟩)
          have AX5 := Lib.hid (AX.out.below B5.out AX.out.lt)
          obtain ⟨_, _, _, _, hm5, _⟩ := id LC.out
          have L18 : a0.lb ≤ 100 := by have := NN.out.1; have := SM.out.hl; omega
          have hlook := hm5.look L18 hlt2
          have k0 := AX5.out.cell 0; have k1 := AX5.out.cell 1; have k2 := AX5.out.cell 2; have k3 := AX5.out.cell 3; have k4 := AX5.out.cell 4; have k5 := AX5.out.cell 5
          simp at k0 k1 k2 k3 k4 k5
          clear hN hr5 hv hH5 hm5 L18
          go_wp2_with fail
          refine (Block_any (a0.M : Int) a0.b a0.g a0.s a0.n a0.l a0.nb NB.out H48.out (Hm t) _ rfl w5).mono ?_
          rintro e w6 ⟨Bk, rfl, ho, hbl⟩
          have L6 := Lib.hid (show La w2.heap.size w2 w6 R P q hb a0 (j + t + 1) from ⟨Hm, LC.out.up hbl⟩)
          have K6 := Lib.hid (block_has ho)
          have H6 := Lib.hid (HH.out.below hbl)
          clear ho hbl k0 k1 k2 k3 k4 k5 hlook
          go_wp2_with fail
          have hnb := H48.out
          refine (L7.equal_any A5 (some ⟨Bk, 0, none⟩) a0.nb a0.nb c5 a0.nb _ _ w6 (by omega) (by omega) H6.out K6.out).mono ?_
          rintro e w7 ⟨rfl, n7, rfl⟩
          rw [decide_eq_true rfl]
          have L7' := Lib.hid (show La w2.heap.size w2 (w6.drewN n7) R P q hb a0 (j + t + 1) by obtain ⟨H, h⟩ := L6.out; exact ⟨H, h.up ⟨rfl, rfl, rfl, Nat.le_refl _, fun _ _ => rfl⟩⟩)
          go_wp2_with fail
          have ht18 : t ≤ 18 := by have := NN.out.1; have := SM.out.hl; omega
          go_roundw
          case rel => exact ⟨t + 1, hlt2, next_val t ht18, L7'.out⟩
          case measure => exact next_less t a0.lb ht18 hlt2
        · obtain rfl : t = a0.lb := by omega
          have hi2 : ¬ ((a0.lb : Nat) : Int) < a0.l := by have := NN.out.1; omega
          go_wp2_with fail
          go_ret
          exact ⟨rfl, B3.out.trans (LT.out.below.mono B3.out.size)⟩
end Go.Proofs.YtplmdmchkaacoaaGreat
