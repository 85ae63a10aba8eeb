/-
  TEXTS JOINED: LgV, LgW, LgI.
-/
import Derived.Test.YtplmdmchkaacoaaGreatJ50
import Derived.Test.YtplmdmchkaacoaaGreatJ31
import Derived.Test.YtplmdmchkaacoaaGreatJ27
import Derived.Test.YtplmdmchkaacoaaGreatJ20
import Derived.Deep.Slices
import Derived.Deep.Fields
import Derived.ChangeSame

/-
  THE LAW'S Awake.
-/
namespace Go.Proofs.YtplmdmchkaacoaaGreat
open Go.RowKit
open L7 (Rr Rc)
open L12 (Sg)
open L13 (setN)
set_option linter.unusedVariables false
set_option maxRecDepth 100000

theorem small0 : Small (3 : Nat) 32 4 2 1 1 := ⟨by decide, by decide, by decide, by decide, by decide, ⟨⟨by decide, by decide, by decide⟩, ⟨by decide, by decide, by decide⟩, ⟨by decide, by decide⟩, ⟨by decide, by decide⟩⟩⟩
theorem shape0 (w : World) : Calls Tryz.prog 41 #[.agg #[.int .u8 0, .int .u8 0, .int .u8 0, .int .u8 0, .int .u8 0, .int .u8 0]] w fun e w' => e = .returned (sv (3 : Nat) 32 4 2 1 1) ∧ Below w.heap.size w w' :=
  shape_any 0 0 0 0 0 0 (by decide) (by decide) (by decide) (by decide) (by decide) (by decide) 3 4 2 32 2 1 (by decide) (by decide) (by decide) (Lib.hid (by decide)) (by decide) (by decide) (by decide) (by decide) (by decide) (by decide) (by decide) (by decide) (by decide) (by decide) (by decide) (by decide) w
theorem fresh_numbers {x : LS} (h : Fresh0 3 32 4 2 1 1 x) : x.usable = 7 ∧ x.stripe = 0 := by
  have e := h.new
  have h1 : x.a.s = 2 := h.sh.2.2.1
  have h2 : x.a.gs = 4 := by unfold AS.gs; rw [h.sh.2.1]; rfl
  have hf : x.free = 3 := by unfold LS.free; rw [e]; show L12.many ((List.replicate x.a.gs Sg.zero).set 0 ⟨1, 0, 0⟩) 0 = 3; rw [h2]; decide
  have hi : x.idx = 0 := by rw [e]; rfl
  have hs : x.seg = 0 := by rw [e]; rfl
  unfold LS.usable LS.stripe
  rw [hf, hi, hs, h1]
  decide
theorem block_has {w' : World} {n B : Nat} {x : BitVec 8} {base : Nat} (h : w'.ownsRow base 5 1 (.slice (some ⟨B, 0, none⟩) n n) n ((List.replicate n x).map val)) : Has w' (some ⟨B, 0, none⟩) n (List.replicate n x) := by
  obtain ⟨A, c, e, _, _, h1, h2⟩ := Has.of_own h
  injection e with e1
  rw [e1]
  exact h1
theorem block_new {w' : World} {n B : Nat} {x : BitVec 8} {base : Nat} (h : w'.ownsRow base 5 1 (.slice (some ⟨B, 0, none⟩) n n) n ((List.replicate n x).map val)) (hn : 0 < n) : base ≤ B := by
  obtain ⟨A, c, e, _, _, h1, h2⟩ := Has.of_own h
  injection e with e1
  obtain ⟨g, e2, h3⟩ := h2 ⟨B, 0, none⟩ e1.symm
  injection e2 with e2
  omega
theorem app_alike (x : LS) (kd lba : Int) (d : Bytes) (v : Value) : Alike x.a (x.app kd lba d v).a := ⟨rfl, rfl, rfl, rfl, rfl, rfl⟩
theorem awake_app {B R : Nat} {w0 w w' : World} {P : Pl} {q : Ql} {O : Nat → Prop} {x : LS} {k : Nat} {kd lba : Int} {d : Bytes} {e : Ending} (h : Fresh0 3 32 4 2 1 1 x) (ha : FApp B w0 w R P q O x k kd lba d w' e) : ∃ v, e = .returned (.int .i64 0) ∧ Nxt B w0 w R P q O x k w' (x.app kd lba d v) := by
  cases ha with
  | full hf _ =>
    have h1 : x.a.n = 1 := h.sh.2.2.2.1
    have h2 : x.recs = [] := by rw [h.new]; rfl
    rw [h1, h2] at hf
    exact absurd hf (by decide)
  | done hf v hN => exact ⟨v, rfl, hN⟩
theorem awake_dest {B R : Nat} {w0 w w' : World} {P : Pl} {q : Ql} {O : Nat → Prop} {x : LS} {k : Nat} {kd lba : Int} {d : Bytes} {v : Value} {e : Ending} (h : Fresh0 3 32 4 2 1 1 x) (ha : FDest B w0 w R P q O (x.app kd lba d v) k w' e) :
    ∃ a, e = .returned (.int .i64 0) ∧ Wrote (x.app kd lba d v).a a (x.app kd lba d v).stripe (x.app kd lba d v).chunk ∧ Nxt B w0 w R P q O (x.app kd lba d v) k w' ((x.app kd lba d v).done a) ∧ ∀ i : Nat, i < x.a.lb → ((x.app kd lba d v).done a).reads (i : Int) = (x.app kd lba d v).reads (i : Int) := by
  cases ha with
  | none h0 _ => exact absurd h0 (by show ¬ x.recs ++ [_] = []; simp)
  | room h0 hn _ =>
    have h1 : x.a.s = 2 := h.sh.2.2.1
    have h2 : x.idx = 0 := by rw [h.new]; rfl
    have h3 : (x.idx : Int) = x.a.s - 1 := of_decide_eq_true hn.1
    omega
  | done h0 hn a hW hd hN hr => exact ⟨a, rfl, hW, hN, hr⟩
theorem awake_pure {B R k : Nat} {w0 w : World} {P : Pl} {q : Ql} {O : Nat → Prop} {x : LS} {v : Value} {a : AS} (h : Fresh0 3 32 4 2 1 1 x) (hF : LF B w0 w R P q O (x.app 1 0 (List.replicate x.a.nb 7#8) v) k)
    (hW : Wrote (x.app 1 0 (List.replicate x.a.nb 7#8) v).a a (x.app 1 0 (List.replicate x.a.nb 7#8) v).stripe (x.app 1 0 (List.replicate x.a.nb 7#8) v).chunk)
    (hr : ∀ i : Nat, i < x.a.lb → ((x.app 1 0 (List.replicate x.a.nb 7#8) v).done a).reads (i : Int) = (x.app 1 0 (List.replicate x.a.nb 7#8) v).reads (i : Int)) :
    ((x.app 1 0 (List.replicate x.a.nb 7#8) v).done a).reads 0 = List.replicate x.a.nb 7#8 ∧ ((x.app 1 0 (List.replicate x.a.nb 7#8) v).done a).V 0 = 0 := by
  have hl : x.a.l = 1 := h.sh.2.2.2.2
  have hM : x.a.M = 3 := h.M
  have hs : x.a.s = 2 := h.sh.2.2.1
  have hi : x.idx = 0 := by rw [h.new]; rfl
  have hg : x.seg = 0 := by rw [h.new]; rfl
  have hrec : x.recs = [] := by rw [h.new]; rfl
  have hlb : 0 < x.a.lb := by unfold AS.lb; omega
  constructor
  · have := hr 0 hlb
    rw [show ((0 : Nat) : Int) = 0 from rfl] at this
    rw [this, app_reads, if_pos rfl]
    unfold stag blk
    rw [if_neg (by decide), List.length_replicate, Nat.sub_self, List.replicate_zero, List.append_nil]
  · have hb : (x.app 1 0 (List.replicate x.a.nb 7#8) v).batch = [⟨x.a.rl + 1, 1, 0, List.replicate x.a.nb 7#8⟩] := by
      unfold LS.batch
      show (L14.vw Rr.lba (x.recs ++ [_])).take x.a.sl = _
      rw [hrec, show x.a.sl = 1 by unfold AS.sl; omega]
      rfl
    have hn : ¬ (x.app 1 0 (List.replicate x.a.nb 7#8) v).none_ := fun hn => by
      have h3 : (x.idx : Int) = x.a.s - 1 := of_decide_eq_true hn.1
      omega
    have := (done_V hF.wf hF.fine.wf hn hW.alike 0).1 0 (by rw [hb]; exact Nat.one_pos) (by simp only [hb]; rfl)
    rw [this]
    simp only [hb]
    show (if (1 : Int) = 2 then -1 else ((x.seg : Int) * x.a.s + (x.idx : Int)) * ((x.a.M : Int) - 2) + ((0 : Nat) : Int)) = 0
    rw [hg, hi, hM, hs]
    decide
/-- What Awake looks at of the log's own block. -/
def SX (P : Pl) (q : Ql) (x : LS) (w' : World) : Prop := w'.cell? ⟨q.b, 7, none⟩ = some (.pointer (some ⟨P.n, 0, none⟩)) ∧ w'.rangeAt q.b 0 x.a.sh
theorem sh_alike {a c : AS} (h : Alike a c) : c.sh = a.sh := by unfold AS.sh; rw [h.M, h.b, h.g, h.s, h.n, h.l]
theorem sx_of {w : World} {P : Pl} {q : Ql} {x y : LS} (h : LB w P q y) (hk : Alike x.a y.a) : SX P q x w := ⟨h.c7, by rw [← sh_alike hk]; exact h.range⟩
set_option maxHeartbeats 3200000 in
theorem awake15_any (w : World) : Calls Tryz.prog 11 #[] w fun e w' => e = .returned (.bool true) ∧ Below w.heap.size w w' := by
  go_enter Tryz.func11, Tryz.ntmps11
  go_wp2_with fail
  refine (shape0 w).mono ?_
  rintro e w1 ⟨rfl, hb⟩
  have B1 := Lib.hid hb
  clear hb
  go_wp2_with fail
  refine (start_fine 3 32 4 2 1 1 small0 w1).mono ?_
  rintro e w2 ⟨R, P, q, O, x, rfl, hF, hfr, hrd⟩
  have F2 := Lib.hid hF
  have FR := Lib.hid hfr
  have RD := Lib.hid hrd
  have US := Lib.hid (fresh_numbers hfr)
  have B1s := Lib.hid B1.out.size
  have B2 := Lib.hid (B1.out.trans (hF.ly.below.mono B1.out.size))
  clear hF hfr hrd B1
  go_wp2_with fail
  refine (usable_any F2.out.ly.lg F2.out.fine.wf).mono ?_
  rintro e w3 ⟨rfl, hb⟩
  have F3 := Lib.hid (F2.out.up hb)
  have B3 := Lib.hid (B2.out.trans (hb.mono B2.out.size))
  clear hb F2 B2
  rw [US.out.1]
  go_wp2_with fail
  refine (stripe_any F3.out.ly.lg F3.out.fine.wf).mono ?_
  rintro e w4 ⟨rfl, n, rfl⟩
  rw [US.out.2]
  go_wp2_with fail
  refine (awake_any _).mono ?_
  rintro e w5 ⟨rfl, hb⟩
  have F5 := Lib.hid ((F3.out.but (S := fun _ => False) ((But.refl _ _).drewN n) (fun _ h => h.elim)).up hb)
  have B5 := Lib.hid (B3.out.trans ((show Below w.heap.size w3 (w3.drewN n) from ⟨rfl, rfl, rfl, Nat.le_refl _, fun _ _ => rfl⟩).trans (hb.mono B3.out.size)))
  clear hb F3 B3
  go_wp2_with fail
  have NB := Lib.hid (show x.a.b = (x.a.nb : Int) from (small_nats F5.out.wf).2.2.2.2.symm)
  have H48 := Lib.hid (show 32 ≤ x.a.nb ∧ x.a.nb ≤ 48 by have := F5.out.wf.small.hb; have := NB.out; omega)
  have S0 : SX P q x w5.drew := sx_of F5.out.ly.lg.lb (Alike.refl _)
  refine wp_region_early (fun w' : World => SX P q x w') (fun _ => true) (by kernel_rfl) ?_
  change wpEarly _ _ _ _ _ _ 14 (Array.replicate 14 false) _ _
  refine early_take (i := 0) 31 (.pointer (some ⟨q.b, 0, none⟩)) rfl rfl (by kernel_rfl) (by kernel_rfl) (by kernel_rfl) (by kernel_rfl) rfl (fun _ _ _ h => h) (fun w' hw' => by go_simp) S0 ?_
  simp only [Act.put, List.setIfInBounds_toArray, List.set_cons_zero, List.set_cons_succ]
  refine early_take (i := 1) 32 (.pointer (some ⟨q.b, 0, none⟩)) rfl rfl (by kernel_rfl) (by kernel_rfl) (by kernel_rfl) (by kernel_rfl) rfl (fun _ _ _ h => h) (fun w' hw' => by go_simp) S0 ?_
  simp only [Act.put, List.setIfInBounds_toArray, List.set_cons_zero, List.set_cons_succ]
  refine early_take (i := 2) 33 (.pointer (some ⟨q.b, 7, none⟩)) rfl rfl (by kernel_rfl) (by kernel_rfl) (by kernel_rfl) (by kernel_rfl) rfl (fun _ _ _ h => h) (fun w' hw' => by go_simp) S0 ?_
  simp only [Act.put, List.setIfInBounds_toArray, List.set_cons_zero, List.set_cons_succ]
  refine early_take (i := 3) 34 (.pointer (some ⟨P.n, 0, none⟩)) rfl rfl (by kernel_rfl) (by kernel_rfl) (by kernel_rfl) (by kernel_rfl) rfl (fun _ _ _ h => h) (fun w' hw' => by have k := hw'.1; go_simp) S0 ?_
  simp only [Act.put, List.setIfInBounds_toArray, List.set_cons_zero, List.set_cons_succ]
  refine early_take (i := 4) 35 (.pointer (some ⟨q.b, 0, none⟩)) rfl rfl (by kernel_rfl) (by kernel_rfl) (by kernel_rfl) (by kernel_rfl) rfl (fun _ _ _ h => h) (fun w' hw' => by go_simp) S0 ?_
  simp only [Act.put, List.setIfInBounds_toArray, List.set_cons_zero, List.set_cons_succ]
  refine early_take (i := 5) 36 (.pointer (some ⟨q.b, 0, none⟩)) rfl rfl (by kernel_rfl) (by kernel_rfl) (by kernel_rfl) (by kernel_rfl) rfl (fun _ _ _ h => h) (fun w' hw' => by go_simp) S0 ?_
  simp only [Act.put, List.setIfInBounds_toArray, List.set_cons_zero, List.set_cons_succ]
  refine early_take (i := 6) 37 (.pointer (some ⟨q.b, 0, none⟩)) rfl rfl (by kernel_rfl) (by kernel_rfl) (by kernel_rfl) (by kernel_rfl) rfl (fun _ _ _ h => h) (fun w' hw' => by go_simp) S0 ?_
  simp only [Act.put, List.setIfInBounds_toArray, List.set_cons_zero, List.set_cons_succ]
  refine early_take (i := 7) 38 (sv (x.a.M : Int) x.a.b x.a.g x.a.s x.a.n x.a.l) rfl rfl (by kernel_rfl) (by kernel_rfl) (by kernel_rfl) (by kernel_rfl) rfl (fun _ _ _ h => h) (fun w' hw' => exec_shape (x := .tmp 37) rfl rfl hw'.2) S0 ?_
  simp only [Act.put, List.setIfInBounds_toArray, List.set_cons_zero, List.set_cons_succ]
  refine early_take (i := 10) 41 (.pointer (some ⟨q.b, 0, none⟩)) rfl rfl (by kernel_rfl) (by kernel_rfl) (by kernel_rfl) (by kernel_rfl) rfl (fun _ _ _ h => h) (fun w' hw' => by go_simp) S0 ?_
  simp only [Act.put, List.setIfInBounds_toArray, List.set_cons_zero, List.set_cons_succ]
  refine early_only (i := 8) (by kernel_rfl) rfl (fun K hK => ?_)
  simp only [opWp, List.getElem?_toArray, List.getElem?_cons_succ, List.getElem?_cons_zero]
  go_simp
  go_at_call 36
  refine (Block_any x.a.M x.a.b x.a.g x.a.s x.a.n x.a.l x.a.nb NB.out H48.out 7#8 _ rfl w5.drew).mono ?_
  rintro e w6 ⟨Bk, rfl, ho, hb⟩
  have F6 := Lib.hid ((F5.out.but (S := fun _ => False) ((But.refl _ _).drew) (fun _ h => h.elim)).up hb)
  have B6 := Lib.hid ((show Below w.heap.size w w5.drew from ⟨B5.out.os, B5.out.tape, B5.out.output, B5.out.size, B5.out.block⟩).trans (hb.mono B5.out.size))
  have BK := Lib.hid (block_has ho)
  have BO := Lib.hid (show ¬ O Bk from fun hk => by have h1 := F5.out.ly.lg.lt _ hk; have h2 := block_new ho (by have := H48.out; omega); have h3 : w5.heap.size ≤ Bk := h2; omega)
  have S6 : SX P q x w6 := sx_of F6.out.ly.lg.lb (Alike.refl _)
  clear ho hb
  refine hK _ _ (fun _ => S6) ?_
  refine early_only (i := 9) (by kernel_rfl) rfl (fun K hK => ?_)
  simp only [opWp, List.getElem?_toArray, List.getElem?_cons_succ, List.getElem?_cons_zero]
  go_simp
  go_at_call 35
  refine (fappend_any F6.out (by omega) 1 0 _ x.a.nb x.a.nb (List.replicate x.a.nb 7#8) BK.out (by simp) (by have := H48.out; omega) (fun _ y hy => by injection hy with hy; subst hy; exact BO.out) (.inl rfl) (by have := F6.out.wf.small.hl; omega)).mono ?_
  rintro e w7 h7
  obtain ⟨vr, rfl, O7, f7, a7, s7, b7⟩ := awake_app FR.out h7
  have F7 := Lib.hid f7
  have B7 := Lib.hid (B6.out.trans (b7.below (fun k hk => Nat.le_trans B1s.out (F6.out.ly.own k hk)) B6.out.size))
  have S7 : SX P q x w7 := sx_of F7.out.ly.lg.lb ⟨rfl, rfl, rfl, rfl, rfl, rfl⟩
  clear h7 f7 a7 s7 b7
  refine hK _ _ (fun _ => S7) ?_
  refine early_only (i := 11) (by kernel_rfl) rfl (fun K hK => ?_)
  simp only [opWp, List.getElem?_toArray, List.getElem?_cons_succ, List.getElem?_cons_zero]
  go_simp
  go_at_call 31
  refine (fdestage_any F7.out (by omega)).mono ?_
  rintro e w8 h8
  obtain ⟨a, rfl, hW, ⟨O8, f8, a8, s8, b8⟩, r8⟩ := awake_dest FR.out h8
  have F8 := Lib.hid f8
  have A8 := Lib.hid (show Alike x.a ((x.app 1 0 (List.replicate x.a.nb 7#8) vr).done a).a from (app_alike x _ _ _ _).trans a8)
  have B8 := Lib.hid (B7.out.trans (b8.below (fun k hk => Nat.le_trans B1s.out (F7.out.ly.own k hk)) B7.out.size))
  have S8 : SX P q x w8 := sx_of F8.out.ly.lg.lb A8.out
  have R8 := Lib.hid r8
  have W8 := Lib.hid hW
  clear h8 hW f8 a8 s8 b8 r8
  refine hK _ _ (fun _ => S8) ?_
  refine early_take (i := 12) 4 (.int .i64 0) rfl rfl (by kernel_rfl) (by kernel_rfl) (by kernel_rfl) (by kernel_rfl) rfl (fun _ _ _ h => h) (fun w' hw' => by go_simp) S8 ?_
  simp only [Act.put, List.setIfInBounds_toArray, List.set_cons_zero, List.set_cons_succ]
  refine early_take (i := 13) 5 (.int .i64 0) rfl rfl (by kernel_rfl) (by kernel_rfl) (by kernel_rfl) (by kernel_rfl) rfl (fun _ _ _ h => h) (fun w' hw' => by go_simp) S8 ?_
  simp only [Act.put, List.setIfInBounds_toArray, List.set_cons_zero, List.set_cons_succ]
  refine early_done (by kernel_rfl) ?_
  clear S0 S6 S7 S8
  obtain ⟨y, hy⟩ : ∃ y, y = (x.app 1 0 (List.replicate x.a.nb 7#8) vr).done a := ⟨_, rfl⟩
  have Y1 := Lib.hid (show y.reads 0 = List.replicate x.a.nb 7#8 ∧ y.V 0 = 0 by rw [hy]; exact awake_pure FR.out F7.out W8.out R8.out)
  rw [← hy] at A8 F8
  clear hy R8 W8 F7 F6 F5
  go_wp2_with fail
  refine (fread_any F8.out (by omega) 0 (by have := A8.out.l; have := F8.out.wf.small.hl; omega)).mono ?_
  rintro e w9 ⟨v9, a9, rfl, ⟨O9, f9, k9, s9, b9⟩, r9, hv9⟩
  rw [Y1.out.1] at hv9
  unfold NewRow at hv9
  rw [List.length_replicate] at hv9
  obtain ⟨A0, c0, rfl, _, _, hH9, hN9⟩ := Has.of_own hv9
  have F9 := Lib.hid f9
  have A9 := Lib.hid (A8.out.trans k9)
  have B9 := Lib.hid (B8.out.trans (b9.below (fun k hk => Nat.le_trans B1s.out (F8.out.ly.own k hk)) B8.out.size))
  have H9 := Lib.hid hH9
  obtain ⟨c0', c1, c2, c3, c4, c5, _, _, c8, _⟩ := F9.out.ly.lg.cells
  have HC := Lib.hid (show a9.b = (x.a.nb : Int) by have h1 : a9.b = x.a.b := A9.out.b; rw [h1, NB.out])
  clear f9 k9 s9 b9 r9 hv9 hH9 hN9 F8
  go_wp2_with fail
  refine (Block_any (a9.M : Int) a9.b a9.g a9.s a9.n a9.l x.a.nb HC.out H48.out 7#8 _ rfl w9).mono ?_
  rintro e w10 ⟨Bk2, rfl, ho, hb⟩
  have F10 := Lib.hid (F9.out.up hb)
  have B10 := Lib.hid (B9.out.trans (hb.mono B9.out.size))
  have K10 := Lib.hid (block_has ho)
  have H10 := Lib.hid (H9.out.below hb)
  clear ho hb c0' c1 c2 c3 c4 c5 c8 H9 F9 B9
  go_wp2_with fail
  have hnb := H48.out
  refine (L7.equal_any A0 (some ⟨Bk2, 0, none⟩) x.a.nb x.a.nb c0 x.a.nb _ _ w10 (by omega) (by omega) H10.out K10.out).mono ?_
  rintro e w11 ⟨rfl, n11, rfl⟩
  rw [decide_eq_true rfl]
  have F11 := Lib.hid (F10.out.but (S := fun _ => False) ((But.refl _ _).drewN n11) (fun _ h => h.elim))
  have c8 := F11.out.ly.lg.c8
  clear F10 H10 K10
  go_wp2_with fail
  obtain ⟨T, A, ⟨r, Q, hl, _⟩, _⟩ := F11.out.ly.lg.zoomM
  refine (L13.get_any 0 hl).mono ?_
  rintro e w12 ⟨rfl, rfl⟩
  have hz : L13.lies a9.lb y.V 0 = 0 := by
    have h1 := L13.lies_in (n := a9.lb) (k := 0) y.V (by have := F11.out.wf.small.hl; have h2 : 1 ≤ a9.l := this.1; unfold AS.lb; omega)
    exact h1.trans Y1.out.2
  simp only [hz]
  clear hz hl
  go_wp2_with fail
  go_ret
  exact ⟨rfl, B10.out.trans (⟨rfl, rfl, rfl, Nat.le_refl _, fun _ _ => rfl⟩ : Below w.heap.size w10 (w10.drewN n11))⟩
end Go.Proofs.YtplmdmchkaacoaaGreat

/-
  THE LAW'S Full: a shape, its number of blocks as large as it may be.
-/
namespace Go.Proofs.YtplmdmchkaacoaaGreat
open Go.RowKit
open L7 (Rr Rc)
open L12 (Sg)
open L13 (setN)
set_option linter.unusedVariables false
set_option maxRecDepth 100000

set_option maxHeartbeats 1600000 in
theorem full_any (x0 x1 x2 x3 x4 x5 : Int) (h0 : 0 ≤ x0 ∧ x0 ≤ 255) (h1 : 0 ≤ x1 ∧ x1 ≤ 255) (h2 : 0 ≤ x2 ∧ x2 ≤ 255) (h3 : 0 ≤ x3 ∧ x3 ≤ 255) (h4 : 0 ≤ x4 ∧ x4 ≤ 255) (h5 : 0 ≤ x5 ∧ x5 ≤ 255) :
    ∃ m b g s n l : Int, Small m b g s n l ∧ ∀ w, Calls Tryz.prog 12 #[.agg #[.int .u8 x0, .int .u8 x1, .int .u8 x2, .int .u8 x3, .int .u8 x4, .int .u8 x5]] w fun e w' => e = .returned (sv m b g s n l) ∧ Below w.heap.size w w' := by
  obtain ⟨m, b, g, s, n, l, hs, hw⟩ := shape_small x0 x1 x2 x3 x4 x5 h0 h1 h2 h3 h4 h5
  obtain ⟨L, hL⟩ : ∃ L, (g - 3) * (s - 1) * (m - 2) = L := ⟨_, rfl⟩
  have bm := hs.hm
  have bg := hs.hg
  have bs := hs.hs
  have hgs : 1 ≤ (g - 3) * (s - 1) ∧ (g - 3) * (s - 1) ≤ 6 := by
    rcases (show s = 2 ∨ s = 3 by omega) with e | e <;> rw [e] <;> omega
  have bL : 1 ≤ L ∧ L ≤ 18 := by
    rw [← hL]
    rcases (show m = 3 ∨ m = 4 ∨ m = 5 by omega) with e | e | e <;> rw [e] <;> omega
  refine ⟨m, b, g, s, n, L, ⟨hs.hm, hs.hb, hs.hg, hs.hs, bL, ⟨hs.ok.1, hs.ok.2.1, hs.ok.2.2.1, ⟨by omega, by rw [hL]; omega⟩⟩⟩, fun w => ?_⟩
  have e1 : IntKind.i64.wrap (g - 3) = g - 3 := wrap_of (by omega) (by omega)
  have e2 : IntKind.i64.wrap (s - 1) = s - 1 := wrap_of (by omega) (by omega)
  have e3 : IntKind.i64.wrap ((g - 3) * (s - 1)) = (g - 3) * (s - 1) := wrap_of (by omega) (by omega)
  have e4 : IntKind.i64.wrap (m - 2) = m - 2 := wrap_of (by omega) (by omega)
  have e5 : IntKind.i64.wrap ((g - 3) * (s - 1) * (m - 2)) = L := by rw [hL]; exact wrap_of (by omega) (by omega)
  have E1 := Lib.hid e1; have E2 := Lib.hid e2; have E3 := Lib.hid e3; have E4 := Lib.hid e4; have E5 := Lib.hid e5
  clear hs bm bg bs hgs bL hL e1 e2 e3 e4 e5
  go_enter Tryz.func12, Tryz.ntmps12
  go_wp2_with fail
  have A0 := Lib.hid (show At ((w.alloc (.cells #[.int .u8 x0, .int .u8 x1, .int .u8 x2, .int .u8 x3, .int .u8 x4, .int .u8 x5] 23)).alloc (.cells #[.int .i64 0, .int .i64 0, .int .i64 0, .int .i64 0, .int .i64 0, .int .i64 0] 27)) (w.heap.size + 1) #[.int .i64 0, .int .i64 0, .int .i64 0, .int .i64 0, .int .i64 0, .int .i64 0] 27 from At.new _ 27 (by simp))
  have B0 := Lib.hid (show Below w.heap.size w ((w.alloc (.cells #[.int .u8 x0, .int .u8 x1, .int .u8 x2, .int .u8 x3, .int .u8 x4, .int .u8 x5] 23)).alloc (.cells #[.int .i64 0, .int .i64 0, .int .i64 0, .int .i64 0, .int .i64 0, .int .i64 0] 27)) from ((Below.refl _ _).alloc (Nat.le_refl _) _).alloc (by simp) _)
  refine (hw _).mono ?_
  rintro e w1 ⟨rfl, hb⟩
  have A1 := Lib.hid (A0.out.below hb A0.out.lt)
  have B1 := Lib.hid (B0.out.trans (hb.mono B0.out.size))
  obtain ⟨r, hr⟩ : ∃ r, r = w.heap.size + 1 := ⟨_, rfl⟩
  rw [← hr] at A1 ⊢
  have HR := Lib.hid hr
  clear hb A0 B0 hr
  have AO := Lib.hid (show ∀ o, At (w1.alloc o) r #[.int .i64 0, .int .i64 0, .int .i64 0, .int .i64 0, .int .i64 0, .int .i64 0] 27 from fun o => A1.out.below ((Below.refl w1.heap.size w1).alloc (Nat.le_refl _) o) A1.out.lt)
  have k0 : ∀ o, (w1.alloc o).cell? ⟨r, 0, none⟩ = some (.int .i64 0) := fun o => (AO.out o).cell 0
  have k1 : ∀ o, (w1.alloc o).cell? ⟨r, 1, none⟩ = some (.int .i64 0) := fun o => (AO.out o).cell 1
  have k2 : ∀ o, (w1.alloc o).cell? ⟨r, 2, none⟩ = some (.int .i64 0) := fun o => (AO.out o).cell 2
  have k3 : ∀ o, (w1.alloc o).cell? ⟨r, 3, none⟩ = some (.int .i64 0) := fun o => (AO.out o).cell 3
  have k4 : ∀ o, (w1.alloc o).cell? ⟨r, 4, none⟩ = some (.int .i64 0) := fun o => (AO.out o).cell 4
  have k5 : ∀ o, (w1.alloc o).cell? ⟨r, 5, none⟩ = some (.int .i64 0) := fun o => (AO.out o).cell 5
  have f0 : ∀ o j, (w1.alloc o).frozen? ⟨r, j, none⟩ = false := fun o j => (AO.out o).frozen j
  go_wp2_with fail
  have hX : wrap64 (wrap64 (wrap64 (g - 3) * wrap64 (s - 1)) * wrap64 (m - 2)) = L := by
    have h1 := E1.out; have h2 := E2.out; have h3 := E3.out; have h4 := E4.out; have h5 := E5.out
    rw [IntWalk.i64_left] at h1 h2 h3 h4 h5
    rw [h1, h2, h3, h4, h5]
  rw [hX]
  clear k0 k1 k2 k3 k4 k5 f0
  have A2 := (((((((AO.out (.cells #[.int .i64 m, .int .i64 b, .int .i64 g, .int .i64 s, .int .i64 n, .int .i64 L] 27)).set 0 (.int .i64 m)).set 1 (.int .i64 b)).set 2 (.int .i64 g)).set 3 (.int .i64 s)).set 4 (.int .i64 n)).set 5 (.int .i64 L))
  have B2 : Below w.heap.size w (((((((w1.alloc (.cells #[.int .i64 m, .int .i64 b, .int .i64 g, .int .i64 s, .int .i64 n, .int .i64 L] 27)).setCell ⟨r, 0, none⟩ (.int .i64 m)).setCell ⟨r, 1, none⟩ (.int .i64 b)).setCell ⟨r, 2, none⟩ (.int .i64 g)).setCell ⟨r, 3, none⟩ (.int .i64 s)).setCell ⟨r, 4, none⟩ (.int .i64 n)).setCell ⟨r, 5, none⟩ (.int .i64 L)) := by
    have hr : w.heap.size ≤ r := by have := HR.out; omega
    exact ((((((B1.out.alloc B1.out.size _).setCell hr _).setCell hr _).setCell hr _).setCell hr _).setCell hr _).setCell hr _
  refine bodyPost_ret (results_cell_row (p := 2) (ty := 27) rfl _ _ r 27 #[.int .i64 m, .int .i64 b, .int .i64 g, .int .i64 s, .int .i64 n, .int .i64 L] (0, 0) _ rfl A2 Tryz.underlying27 rfl shape_size) rfl ?_
  exact ⟨rfl, B2⟩
end Go.Proofs.YtplmdmchkaacoaaGreat

/-
  ACTS THAT CAME IN.
-/
namespace Go.Proofs.YtplmdmchkaacoaaGreat
open Go.RowKit
set_option linter.unusedVariables false
set_option maxRecDepth 100000

/-- An act that came in. -/
structure Ac where
  kind : Nat
  lba : Int
  fill : BitVec 8
/-- The act's three cells lie at (b, o). -/
structure Ac.At (x : Ac) (w : World) (b o : Nat) : Prop where
  c0 : w.cell? ⟨b, o, none⟩ = some (.int .u8 (x.kind : Int))
  c1 : w.cell? ⟨b, o + 1, none⟩ = some (.int .u8 x.lba)
  c2 : w.cell? ⟨b, o + 2, none⟩ = some (.int .u8 (x.fill.toNat : Int))
  hk : x.kind ≤ 255
  hl : 0 ≤ x.lba ∧ x.lba ≤ 255
  lt : b < w.heap.size
theorem Ac.At.below {x : Ac} {w w' : World} {b o : Nat} (h : x.At w b o) (hb : Below w.heap.size w w') : x.At w' b o :=
  ⟨(hb.cell (p := ⟨b, o, none⟩) h.lt).trans h.c0, (hb.cell (p := ⟨b, o + 1, none⟩) h.lt).trans h.c1, (hb.cell (p := ⟨b, o + 2, none⟩) h.lt).trans h.c2, h.hk, h.hl, Nat.lt_of_lt_of_le h.lt hb.size⟩
/-- Acts that came in. -/
def Acts (w : World) (A : Option Addr) (n cap : Nat) (L : List Ac) : Prop :=
  L.length = n ∧ n ≤ cap ∧ cap ≤ maxLen ∧ (0 < n → ∃ b off, A = some ⟨b, off, none⟩ ∧ ∀ i (h : i < L.length), L[i].At w b (off + i * 3))
theorem Acts.below {w w' : World} {A : Option Addr} {n cap : Nat} {L : List Ac} (h : Acts w A n cap L) (hb : Below w.heap.size w w') : Acts w' A n cap L :=
  ⟨h.1, h.2.1, h.2.2.1, fun hn => by
    obtain ⟨b, off, e, hc⟩ := h.2.2.2 hn
    exact ⟨b, off, e, fun i hi => (hc i hi).below hb⟩⟩

section
open Go.ChangeShapes Go.WideShapes Go.ChangeAt Go.Deep
variable {H : Type} {enc : TypeId × Value → H} {w : World}
theorem cells36 : Tryz.prog.cellsOf 36 = 3 := by kernel_rfl
theorem three_in {P : Program} {t : TypeId} {f0 f1 f2 : Field} {fuel : Nat} {cs : List Value} {y : DataW H × List MemPlace} {base : Nat} {spare : Nat → Bool} {held : Bool} (hs : P.underlying t = some (.struct #[f0, f1, f2]))
    (hone : oneCellFields P #[f0, f1, f2] = true) (hC : P.cellsOf t = 3) (h : DataW.trod enc P w base spare held fuel t cs = some y) :
    ∃ v0 v1 v2 n z0 z1 z2, cs = [v0, v1, v2] ∧ DataW.trod enc P w base spare held n f0.type [v0] = some z0 ∧ DataW.trod enc P w base spare held n f1.type [v1] = some z1 ∧ DataW.trod enc P w base spare held n f2.type [v2] = some z2 := by
  obtain ⟨xs, n, _, _, hlen, hxl, hf⟩ := DataW.trod_struct hs h
  rw [hC] at hlen
  obtain ⟨o0, k0⟩ := hone_of hone 0 f0 rfl
  obtain ⟨o1, k1⟩ := hone_of hone 1 f1 rfl
  obtain ⟨o2, k2⟩ := hone_of hone 2 f2 rfl
  match cs, xs, hlen, hxl with
  | [v0, v1, v2], [z0, z1, z2], _, _ =>
    exact ⟨v0, v1, v2, n, z0, z1, z2, rfl, by simpa [o0, k0] using hf 0 f0 rfl, by simpa [o1, k1] using hf 1 f1 rfl, by simpa [o2, k2] using hf 2 f2 rfl⟩

theorem act_in {fuel : Nat} {cs : List Value} {y : DataW H × List MemPlace} {b o : Nat} (h : DataW.trod enc Tryz.prog w 0 (fun _ => true) true fuel 36 cs = some y)
    (hc : ∀ j, j < 3 → w.cell? ⟨b, o + j, none⟩ = cs[j]?) : ∃ x : Ac, x.At w b o := by
  obtain ⟨v0, v1, v2, n, z0, z1, z2, rfl, t0, t1, t2⟩ := three_in Tryz.underlying36 (by kernel_rfl) cells36 h
  obtain ⟨a0, e0, _, w0⟩ := DataW.trod_int Tryz.underlying5 t0
  obtain ⟨a1, e1, _, w1⟩ := DataW.trod_int Tryz.underlying5 t1
  obtain ⟨a2, e2, _, w2⟩ := DataW.trod_int Tryz.underlying5 t2
  injection e0 with e0
  injection e1 with e1
  injection e2 with e2
  subst e0 e1 e2
  have b0 : 0 ≤ a0 ∧ a0 ≤ 255 := by simpa [Lit.wf, IntKind.min, IntKind.max, IntKind.signed, IntKind.bits] using w0
  have b1 : 0 ≤ a1 ∧ a1 ≤ 255 := by simpa [Lit.wf, IntKind.min, IntKind.max, IntKind.signed, IntKind.bits] using w1
  have b2 : 0 ≤ a2 ∧ a2 ≤ 255 := by simpa [Lit.wf, IntKind.min, IntKind.max, IntKind.signed, IntKind.bits] using w2
  obtain ⟨k, rfl⟩ : ∃ k : Nat, a0 = (k : Int) := ⟨a0.toNat, by omega⟩
  have c0 := hc 0 (by omega)
  have c2 := hc 2 (by omega)
  refine ⟨⟨k, a1, BitVec.ofInt 8 a2⟩, ⟨c0, hc 1 (by omega), ?_, by show k ≤ 255; omega, b1, World.block_lt_of_cell? w _ c0⟩⟩
  rw [c2, BitVec.toNat_ofInt]
  simp only [List.getElem?_cons_succ, List.getElem?_cons_zero]
  congr 2
  omega

/-- The acts that came in. -/
theorem acts_in {a : Option Addr} {len cap : Nat} {d : DataW H} {p : List MemPlace} (h : DataW.Trod enc Tryz.prog w 0 (fun _ => true) true 24 (.slice a len cap) d p) : ∃ L, Acts w a len cap L := by
  obtain ⟨fuel, hf⟩ := h
  rcases open_slice Tryz.underlying24 hf with ⟨hcs, _⟩ | ⟨x, len', cap', m, n, D, Pl, hcs, _, hl, hm, hmm, _, hi⟩
  · simp [Value.cells] at hcs
    obtain ⟨rfl, rfl, rfl⟩ := hcs
    exact ⟨[], rfl, Nat.le_refl _, by unfold maxLen; omega, fun h => absurd h (by omega)⟩
  · simp [Value.cells] at hcs
    obtain ⟨rfl, rfl, rfl⟩ := hcs
    simp only [if_true] at hmm
    subst hmm
    have key : ∀ i, i < len → ∃ (y : Ac), ∃ b o, x = ⟨b, o, none⟩ ∧ y.At w b (o + i * 3) := by
      intro i hil
      obtain ⟨cs', hc, ht⟩ := hi i (by omega)
      rw [cells36] at hc
      obtain ⟨_, hcl, hat⟩ := World.cells?_some hc
      obtain ⟨b, o, spot⟩ := x
      have hs : spot = none := by
        obtain ⟨cs0, hc0, _⟩ := hi 0 (by omega)
        rw [cells36] at hc0
        obtain ⟨_, hcl0, hat0⟩ := World.cells?_some hc0
        have h0 := hat0 0 (by omega)
        rw [List.getElem?_eq_getElem (by omega)] at h0
        have := World.cell?_spot h0
        simpa [Addr.add] using this
      subst hs
      obtain ⟨y, hy⟩ := act_in (b := b) (o := o + i * 3) ht (fun j hj => by have := hat j hj; rw [add_lit, add_lit] at this; exact this)
      exact ⟨y, b, o, rfl, hy⟩
    rcases Nat.eq_zero_or_pos len with h0 | h0
    · subst h0
      exact ⟨[], rfl, hl, hm, fun h => absurd h (by omega)⟩
    · obtain ⟨_, b, o, rfl, _⟩ := key 0 h0
      have key2 : ∀ k, k ≤ len → ∃ L : List Ac, L.length = k ∧ ∀ i (h : i < L.length), L[i].At w b (o + i * 3) := by
        intro k
        induction k with
        | zero => exact fun _ => ⟨[], rfl, fun i h => absurd h (by simp)⟩
        | succ k ih =>
          intro hk
          obtain ⟨L, hL, hat⟩ := ih (by omega)
          obtain ⟨y, b', o', e, hy⟩ := key k (by omega)
          injection e with e1 e2
          subst e1 e2
          refine ⟨L ++ [y], by simp [hL], fun i h => ?_⟩
          rcases Nat.lt_or_ge i L.length with h' | h'
          · rw [List.getElem_append_left h']
            exact hat i h'
          · have e : i = L.length := by simp at h; omega
            subst e
            rw [List.getElem_append_right (Nat.le_refl _)]
            simpa [hL] using hy
      obtain ⟨L, hL, hat⟩ := key2 len (Nat.le_refl _)
      exact ⟨L, hL, hl, hm, fun _ => ⟨b, o, rfl, hat⟩⟩
end
end Go.Proofs.YtplmdmchkaacoaaGreat
