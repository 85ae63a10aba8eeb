/-
  TEXTS JOINED: LgS, LgU.
-/
import Derived.Test.YtplmdmchkaacoaaGreatJ48
import Derived.Test.YtplmdmchkaacoaaGreatJ49
import Derived.Test.YtplmdmchkaacoaaGreatJ28

/-
  A LOG BEHIND A RECORD, A STRIPE, A READING: numbers, and the record put.
-/
namespace Go.Proofs.YtplmdmchkaacoaaGreat
open Go.RowKit
open L7 (Rr Rc)
open L12 (Sg)
open L13 (setN)
set_option linter.unusedVariables false
set_option maxRecDepth 100000

/-- A record was put. -/
def LS.app (x : LS) (k lba : Int) (d : Bytes) (v : Value) : LS := { x with a := { x.a with u := x.a.u + 1, rv := v, rl := x.a.rl + 1 }, recs := x.recs ++ [⟨x.a.rl + 1, k, lba, d⟩] }
/-- What is kept: all is well; how far the numbers have risen in k steps. -/
structure LS.Fine (x : LS) (k : Nat) : Prop where
  wf : x.Wf
  bh : x.Bh x.stripe
  calm : Calm x.a
  u : x.a.u ≤ 1 + 50 * (k : Int)
  dur : x.a.dur ≤ (k : Int)
  rl : x.a.rl ≤ k
theorem LS.Fine.mono {x : LS} {k k' : Nat} (h : x.Fine k) (hk : k ≤ k') : x.Fine k' := ⟨h.wf, h.bh, h.calm, by have := h.u; omega, by have := h.dur; omega, by have := h.rl; omega⟩
section
variable {x : LS} {a : AS} {k : Nat}
theorem app_fine {kd lba : Int} {d : Bytes} {v : Value} (h : x.Fine k) (hk : k ≤ 1000) (hf : ¬ x.a.n ≤ (x.recs.length : Int)) (hd : kd = 1 ∨ kd = 2 ∨ kd = 3) (hb : 0 ≤ lba ∧ lba < x.a.l) (hl : d.length ≤ x.a.nb) : (x.app kd lba d v).Fine (k + 1) := by
  have hw := h.wf
  have hrl := h.rl
  have hu := h.u
  have hdu := h.dur
  refine ⟨⟨hw.T, hw.sg, hw.ix, hw.V, hw.lv, fun r hr => ?_, ?_, ?_, hw.dur, ?_, fun r hr => ?_⟩, ⟨h.bh.cur, h.bh.lie⟩, fun j => ⟨(h.calm j).whole, (h.calm j).stale, (h.calm j).live⟩, ?_, ?_, ?_⟩
  · rcases List.mem_append.1 hr with hr | hr
    · have := hw.ok r hr
      exact ⟨this.kind, this.lba, this.len⟩
    · rw [List.mem_singleton] at hr
      subst hr
      exact ⟨hd, hb, hl⟩
  · show L14.Up Rr.seq (x.recs ++ [_])
    unfold L14.Up
    rw [List.pairwise_append]
    refine ⟨hw.up, List.pairwise_singleton _ _, fun p hp q hq => ?_⟩
    rw [List.mem_singleton] at hq
    subst hq
    have := hw.top p hp
    show p.seq < x.a.rl + 1
    omega
  · show ((x.recs ++ [_]).length : Int) ≤ x.a.n
    rw [List.length_append, List.length_singleton]
    omega
  · show x.a.rl + 1 ≤ 100000
    omega
  · show r.seq ≤ x.a.rl + 1
    rcases List.mem_append.1 hr with hr | hr
    · have := hw.top r hr; omega
    · rw [List.mem_singleton] at hr
      subst hr
      exact Nat.le_refl _
  · show x.a.u + 1 ≤ _
    omega
  · show x.a.dur ≤ _
    omega
  · show x.a.rl + 1 ≤ _
    omega
theorem app_reads {kd lba : Int} {d : Bytes} {v : Value} (i : Int) : (x.app kd lba d v).reads i = if lba = i then stag x.a.nb kd d else x.reads i := by
  unfold LS.reads
  show (match L14.fl Rr.lba i (x.recs ++ [⟨x.a.rl + 1, kd, lba, d⟩]) with | some r => stag x.a.nb r.kind r.l | none => _) = _
  by_cases e : lba = i
  · rw [fl_app_some (x := ⟨x.a.rl + 1, kd, lba, d⟩) (by show (if _ then (if lba = i then some _ else none) else _) = _; rw [if_pos (by rfl), if_pos e]), if_pos e]
  · rw [fl_app_none (by show (if _ then (if lba = i then some _ else none) else _) = _; rw [if_pos (by rfl), if_neg e]), if_neg e]
    rfl
theorem Same.alike {a c : AS} (h : Same a c) (hM : c.M = a.M) : Alike a c := ⟨hM, h.shape.1, h.shape.2.1, h.shape.2.2.1, h.shape.2.2.2.1, h.shape.2.2.2.2.1⟩
theorem Alike.stripes {a c : AS} (h : Alike a c) : c.k = a.k := by unfold AS.k; rw [h.s]
theorem Alike.N {a c : AS} (h : Alike a c) : c.N = a.N := by unfold AS.N; rw [h.g, h.s]
theorem alike_wf (hw : x.Wf) (hk : Alike x.a a) (hd : a.dur = x.a.dur) (hr : a.rl = x.a.rl) : ({ x with a := a } : LS).Wf := by
  refine ⟨?_, ?_, ?_, fun i => ?_, fun i hi => ?_, fun r hr => ?_, hw.up, ?_, ?_, ?_, fun r h => ?_⟩
  · show (x.T.length : Int) = a.g
    rw [hk.g]; exact hw.T
  · show (x.seg : Int) < a.g
    rw [hk.g]; exact hw.sg
  · show (x.idx : Int) < a.s
    rw [hk.s]; exact hw.ix
  · show -1 ≤ x.V i ∧ x.V i < a.N * ((a.M : Int) - 2)
    rw [hk.N, hk.M]; exact hw.V i
  · show x.T[i].lv = (lives x.V a.sl a.k a.lb i : Int)
    rw [hk.sl, hk.stripes, hk.lb]; exact hw.lv i hi
  · have := hw.ok r hr
    exact ⟨this.kind, by show _ ∧ r.lba < a.l; rw [hk.l]; exact this.lba, by show _ ≤ a.nb; rw [hk.nb]; exact this.len⟩
  · show (x.recs.length : Int) ≤ a.n
    rw [hk.n]; exact hw.few
  · show 0 ≤ a.dur ∧ a.dur ≤ _
    rw [hd]; exact hw.dur
  · show a.rl ≤ _
    rw [hr]; exact hw.rl
  · show r.seq ≤ a.rl
    rw [hr]; exact hw.top r h
theorem alike_bh (hb : x.Bh x.stripe) (hk : Alike x.a a) : ({ x with a := a } : LS).Bh ({ x with a := a } : LS).stripe := by
  refine ⟨hb.cur, fun i h1 h2 g h3 => ?_⟩
  have h1 : i < a.lb := h1
  have h3 : x.V i / ((a.M : Int) - 2) / a.s = (g : Int) := h3
  rw [hk.lb] at h1
  rw [hk.M, hk.s] at h3
  have := hb.lie i h1 h2 g h3
  show _ ∧ (g = x.seg → x.V i / ((a.M : Int) - 2) < (x.seg : Int) * a.s + (x.idx : Int))
  rw [hk.M, hk.s]
  exact this
theorem alike_reads (hk : Alike x.a a) (h3 : 3 ≤ x.a.M) (hd : ∀ m, m < x.a.M → (a.d m).read = (x.a.d m).read) (i : Int) : ({ x with a := a } : LS).reads i = x.reads i := by
  have hat : ∀ p, ({ x with a := a } : LS).at_ p = x.at_ p := fun p => by
    unfold LS.at_
    show (a.d ((p / ((a.M : Int) - 2) + 1 + (1 + p % ((a.M : Int) - 2))) % (a.M : Int)).toNat).read (a.at_ (p / ((a.M : Int) - 2))) = _
    rw [hk.M, hk.at_, hd _ (by have := Int.emod_lt_of_pos (p / ((x.a.M : Int) - 2) + 1 + (1 + p % ((x.a.M : Int) - 2))) (show 0 < (x.a.M : Int) by omega); omega)]
  unfold LS.reads
  show (match L14.fl Rr.lba i x.recs with | some r => stag a.nb r.kind r.l | none => if L13.lies a.lb x.V i = -1 then blk a.nb [] else ({ x with a := a } : LS).at_ (L13.lies a.lb x.V i)) = _
  rw [hk.nb, hk.lb, hat]
  rfl
/-- A reading. -/
theorem aged_fine (h : x.Fine k) (ha : x.a.Wf) (hr : Rel (fun _ => Aged) 12 x.a a) : ({ x with a := a } : LS).Fine (k + 1) ∧ ∀ i, ({ x with a := a } : LS).reads i = x.reads i := by
  have hk := hr.same.alike hr.same.M
  have hs := hr.same.shape
  have hu := h.u
  have hdu := h.dur
  have hrl := h.rl
  have := hr.u
  have hm := ha.small.hm
  refine ⟨⟨alike_wf h.wf hk hs.2.2.2.2.2.1 hs.2.2.2.2.2.2.2, alike_bh h.bh hk, h.calm.rel hr, ?_, ?_, ?_⟩, alike_reads hk (by omega) (fun m hm => (hr.disk m hm).read)⟩
  · show a.u ≤ _
    omega
  · show a.dur ≤ _
    rw [hs.2.2.2.2.2.1]
    omega
  · show a.rl ≤ _
    rw [hs.2.2.2.2.2.2.2]
    omega
theorem fine_new {M : Nat} {b g s n l : Int} (h : Fresh0 M b g s n l x) (ha : x.a.Wf) : x.Fine 0 ∧ ∀ i, x.reads i = blk x.a.nb [] := by
  have hd := h.dur
  have hu := h.u
  have hg := ha.small.hg
  have e := h.new
  have hV : ∀ i, x.V i = -1 := fun i => by rw [e]; rfl
  have hT : x.T = (List.replicate x.a.gs Sg.zero).set 0 ⟨1, 0, 0⟩ := by rw [e]; rfl
  have hseg : x.seg = 0 := by rw [e]; rfl
  have hrec : x.recs = [] := by rw [e]; rfl
  refine ⟨⟨h.wf, ⟨?_, fun i _ h2 => absurd (hV i) h2⟩, h.calm, by omega, by omega, by omega⟩, fun i => ?_⟩
  · have hl := h.wf.T
    rw [hseg, stOf_at _ _ (by omega)]
    simp only [hT, List.getElem_set_self]
    decide
  · unfold LS.reads
    rw [hrec]
    show (if L13.lies x.a.lb x.V i = -1 then _ else _) = _
    rw [if_pos (by unfold L13.lies; split; exact hV _; rfl)]
theorem done_fine (h : x.Fine k) (hk : k ≤ 1000) (ha0 : x.a.Wf) (ha : a.Wf) (hn : ¬ x.none_) (h0 : x.recs ≠ []) (hW : Wrote x.a a x.stripe x.chunk) (hd : a.dur = x.a.dur + 1 ∧ a.rl = x.a.rl) : (x.done a).Fine (k + 1) ∧ ∀ i : Nat, i < x.a.lb → (x.done a).reads (i : Int) = x.reads (i : Int) := by
  have hu := h.u
  have hdu := h.dur
  have hrl := h.rl
  have hu2 := hW.u
  have hd0 := h.wf.dur
  have e := (done_as ha0 h.wf hn hW.alike).2.1
  refine ⟨⟨?_, done_bh ha0 h.wf hn hW.alike h.bh, by rw [e]; exact hW.calm, by rw [e]; omega, by rw [e]; omega, by rw [e]; omega⟩, fun i hi => done_reads ha0 h.wf hn h0 hW h.bh i hi⟩
  rw [done_rest]
  exact apply_wf (rest_wf h.wf hW.M hW.same (by omega) hd.2) ha _
end
end Go.Proofs.YtplmdmchkaacoaaGreat

/-
  THE CALLS OF A LOG, all being well: a record is put, a stripe written, a block read.
-/
namespace Go.Proofs.YtplmdmchkaacoaaGreat
open Go.RowKit
open L7 (Rr Rc)
open L12 (Sg)
open L13 (setN)
set_option linter.unusedVariables false
set_option maxRecDepth 100000

section
variable {w w' : World} {P : Pl} {q : Ql} {O : Nat → Prop} {x : LS} {l : Int}
/-- Behind a record that was to be put. -/
inductive AppAs (w : World) (P : Pl) (q : Ql) (O : Nat → Prop) (x : LS) (k lba : Int) (d : Bytes) (w' : World) : Ending → Prop
  | full (hf : x.a.n ≤ (x.recs.length : Int)) (hb : Below w.heap.size w w') : AppAs w P q O x k lba d w' (.returned (.int .i64 7))
  | done (hf : ¬ x.a.n ≤ (x.recs.length : Int)) (v : Value) (hD : Dg w P q O (x.app k lba d v) (-1) w') : AppAs w P q O x k lba d w' (.returned (.int .i64 0))
theorem lappend_any (h : LG w P q O x (-1)) (hw : x.Wf) (k lba : Int) (A : Option Addr) (n c : Nat) (d : Bytes) (hd : Has w A n d) (hn : n ≤ 100) (hA : 0 < n → ∀ y, A = some y → ¬ O y.block) (hu : x.a.u ≤ 700000) :
    Calls Tryz.prog 35 #[.pointer (some ⟨P.n, 0, none⟩), .int .i64 k, .int .i64 lba, .slice A n c] w fun e w' => AppAs w P q O x k lba d w' e := by
  have few := few_recs h.wf hw
  have hu0 := h.wf.u0
  have hrl := hw.rl
  obtain ⟨T, hN, hP, hT, hp, hgo⟩ := h.zoomN
  have hg : O P.n := by
    obtain ⟨X, h2, hO⟩ := h
    exact (hO _).2 ⟨0, h2.arr.own.2.2.2⟩
  by_cases hf : x.a.n ≤ (x.recs.length : Int)
  · refine (L7.append_full k lba A n c hN hf).mono ?_
    rintro e w' ⟨rfl, m, rfl⟩
    exact .full hf ((But.refl (fun _ => False) w).drewN m |>.below (B := w.heap.size) (fun k hk => hk.elim) (Nat.le_refl _))
  · refine (L7.append_go k lba x.a.u (-1) A n c d hN hP hf hd hn (fun h0 y hy => ⟨fun e => hA h0 y hy (e ▸ hg), fun e => hA h0 y hy (e ▸ hp)⟩) (by show x.recs.length ≤ 1000; omega) (by show x.a.rl ≤ 1000000; omega) ⟨hu0, by omega⟩ (by omega) (by omega)).mono ?_
    rintro e w' ⟨T', rfl, h1, h2, h3, h4⟩
    obtain ⟨v, hD⟩ := hgo w' T' x.a.dur (x.a.rl + 1) (x.recs ++ [(⟨x.a.rl + 1, k, lba, d⟩ : Rr)]) (-1) (by exact h1) (by exact h2) h3 h4
    exact .done hf v hD
end
/-- A log and its rig, all being well. -/
structure LF (B : Nat) (w0 w : World) (R : Nat) (P : Pl) (q : Ql) (O : Nat → Prop) (x : LS) (k : Nat) : Prop where
  ly : Ly B w0 w R P q O x (-1)
  fine : x.Fine k
theorem LF.wf {B R k : Nat} {w0 w : World} {P : Pl} {q : Ql} {O : Nat → Prop} {x : LS} (h : LF B w0 w R P q O x k) : x.a.Wf := h.ly.lg.wf
/-- Behind a call: the log is y. -/
def Nxt (B : Nat) (w0 w : World) (R : Nat) (P : Pl) (q : Ql) (O : Nat → Prop) (x : LS) (k : Nat) (w' : World) (y : LS) : Prop :=
  ∃ O', LF B w0 w' R P q O' y (k + 1) ∧ Alike x.a y.a ∧ (∀ k, O' k → O k ∨ w.heap.size ≤ k) ∧ But O w w'
theorem Alike.refl (a : AS) : Alike a a := ⟨rfl, rfl, rfl, rfl, rfl, rfl⟩
theorem Alike.trans {a b c : AS} (h : Alike a b) (g : Alike b c) : Alike a c := ⟨g.M.trans h.M, g.b.trans h.b, g.g.trans h.g, g.s.trans h.s, g.n.trans h.n, g.l.trans h.l⟩
inductive FApp (B : Nat) (w0 w : World) (R : Nat) (P : Pl) (q : Ql) (O : Nat → Prop) (x : LS) (k : Nat) (kd lba : Int) (d : Bytes) (w' : World) : Ending → Prop
  | full (hf : x.a.n ≤ (x.recs.length : Int)) (h : Nxt B w0 w R P q O x k w' x) : FApp B w0 w R P q O x k kd lba d w' (.returned (.int .i64 7))
  | done (hf : ¬ x.a.n ≤ (x.recs.length : Int)) (v : Value) (h : Nxt B w0 w R P q O x k w' (x.app kd lba d v)) : FApp B w0 w R P q O x k kd lba d w' (.returned (.int .i64 0))
inductive FDest (B : Nat) (w0 w : World) (R : Nat) (P : Pl) (q : Ql) (O : Nat → Prop) (x : LS) (k : Nat) (w' : World) : Ending → Prop
  | none (h0 : x.recs = []) (h : Nxt B w0 w R P q O x k w' x) : FDest B w0 w R P q O x k w' (.returned (.int .i64 0))
  | room (h0 : x.recs ≠ []) (hn : x.none_) (h : Nxt B w0 w R P q O x k w' x) : FDest B w0 w R P q O x k w' (.returned (.int .i64 2))
  | done (h0 : x.recs ≠ []) (hn : ¬ x.none_) (a : AS) (hW : Wrote x.a a x.stripe x.chunk) (hd : a.dur = x.a.dur + 1 ∧ a.rl = x.a.rl) (h : Nxt B w0 w R P q O x k w' (x.done a)) (hr : ∀ i : Nat, i < x.a.lb → (x.done a).reads (i : Int) = x.reads (i : Int)) : FDest B w0 w R P q O x k w' (.returned (.int .i64 0))
section
variable {B R k : Nat} {w0 w w' : World} {P : Pl} {q : Ql} {O : Nat → Prop} {x : LS}
theorem LF.up {w' : World} (h : LF B w0 w R P q O x k) (hb : Below w.heap.size w w') : LF B w0 w' R P q O x k := ⟨h.ly.up hb, h.fine⟩
theorem LF.but {S : Nat → Prop} (h : LF B w0 w R P q O x k) (hb : But S w w') (hS : ∀ k, S k → ¬ O k ∧ k ≠ R ∧ B ≤ k) : LF B w0 w' R P q O x k := ⟨h.ly.but hb hS, h.fine⟩
theorem LF.next (h : LF B w0 w R P q O x k) {y : LS} (hy : y.Fine (k + 1)) (hk : Alike x.a y.a) (hD : Dg w P q O y (-1) w') : Nxt B w0 w R P q O x k w' y := by
  obtain ⟨O', a, b, c⟩ := h.ly.dg hD hk.M ⟨hk.b, hk.g, hk.s, hk.n, hk.l⟩
  exact ⟨O', ⟨a, hy⟩, hk, b, c⟩
theorem LF.stay (h : LF B w0 w R P q O x k) (hb : Below w.heap.size w w') : Nxt B w0 w R P q O x k w' x := ⟨O, ⟨h.ly.up hb, h.fine.mono (Nat.le_succ _)⟩, Alike.refl _, fun k hk => .inl hk, But.of_below hb⟩
theorem fappend_any (h : LF B w0 w R P q O x k) (hk : k ≤ 900) (kd lba : Int) (A : Option Addr) (n c : Nat) (d : Bytes) (hd : Has w A n d) (hn : d.length ≤ x.a.nb) (hn' : n ≤ 100) (hA : 0 < n → ∀ y, A = some y → ¬ O y.block) (hkd : kd = 1 ∨ kd = 2 ∨ kd = 3) (hb : 0 ≤ lba ∧ lba < x.a.l) :
    Calls Tryz.prog 35 #[.pointer (some ⟨P.n, 0, none⟩), .int .i64 kd, .int .i64 lba, .slice A n c] w fun e w' => FApp B w0 w R P q O x k kd lba d w' e := by
  have hu := h.fine.u
  refine (lappend_any h.ly.lg h.fine.wf kd lba A n c d hd hn' hA (by omega)).mono ?_
  rintro e w' h2
  cases h2 with
  | full hf hb => exact .full hf (h.stay hb)
  | done hf v hD => exact .done hf v (h.next (app_fine h.fine (by omega) hf hkd hb hn) ⟨rfl, rfl, rfl, rfl, rfl, rfl⟩ hD)
theorem fdestage_any (h : LF B w0 w R P q O x k) (hk : k ≤ 900) : Calls Tryz.prog 31 #[.pointer (some ⟨q.b, 0, none⟩)] w fun e w' => FDest B w0 w R P q O x k w' e := by
  have hu := h.fine.u
  have hd := h.fine.dur
  refine (destage_any h.ly.lg h.fine.wf (by omega) (by omega) (.inl h.fine.calm) (.inl rfl)).mono ?_
  rintro e w' h2
  cases h2 with
  | none h0 hD => exact .none h0 (h.next (h.fine.mono (Nat.le_succ _)) (Alike.refl _) hD)
  | room h0 hn hD => exact .room h0 hn (h.next (h.fine.mono (Nat.le_succ _)) (Alike.refl _) hD)
  | broken h0 hn hb hD => exact absurd hb (by rw [(h.fine.calm 0).whole]; simp)
  | done h0 hn a l' hl hW hd hD =>
    have hl' := hl rfl
    subst hl'
    have ha : a.Wf := by
      obtain ⟨O', g, _⟩ := hD
      have := g.wf
      rw [(done_as h.wf h.fine.wf hn hW.alike).2.1] at this
      exact this
    have f := done_fine h.fine (by omega) h.wf ha hn h0 hW hd
    exact .done h0 hn a hW hd (h.next f.1 (by rw [(done_as h.wf h.fine.wf hn hW.alike).2.1]; exact hW.alike) hD) f.2
  | cut h0 a hl hc hs hD => exact absurd rfl hl
theorem fread_any (h : LF B w0 w R P q O x k) (hk : k ≤ 900) (b : Int) (hb : 0 ≤ b ∧ b < x.a.l) : Calls Tryz.prog 21 #[.pointer (some ⟨q.b, 0, none⟩), .int .i64 b] w fun e w' =>
    ∃ v a', e = .returned (.tuple #[v, .int .i64 0]) ∧ Nxt B w0 w R P q O x k w' { x with a := a' } ∧ (∀ i, ({ x with a := a' } : LS).reads i = x.reads i) ∧ NewRow w w' v (x.reads b) := by
  have hu := h.fine.u
  refine (read_calm h.ly.lg h.fine.wf h.fine.calm (by omega) b hb).mono ?_
  rintro e w' ⟨v, a', rfl, hD, hr, hv⟩
  have f := aged_fine h.fine h.wf hr
  exact ⟨v, a', rfl, h.next f.1 (hr.same.alike hr.same.M) hD, f.2, hv⟩
theorem start_fine (M : Nat) (b g s n l : Int) (hs : Small (M : Int) b g s n l) (w : World) : Calls Tryz.prog 13 #[sv (M : Int) b g s n l] w fun e w' =>
    ∃ R P q O x, e = .returned (.tuple #[.pointer (some ⟨q.b, 0, none⟩), .pointer (some ⟨R, 0, none⟩), .bool true]) ∧ LF w.heap.size w w' R P q O x 0 ∧ Fresh0 M b g s n l x ∧ ∀ i, x.reads i = blk x.a.nb [] := by
  refine (start_any M b g s n l hs w).mono ?_
  rintro e w' ⟨R, P, q, O, x, rfl, h1, h2⟩
  have f := fine_new h2 h1.lg.wf
  exact ⟨R, P, q, O, x, rfl, ⟨h1, f.1⟩, h2, f.2⟩
end
end Go.Proofs.YtplmdmchkaacoaaGreat
