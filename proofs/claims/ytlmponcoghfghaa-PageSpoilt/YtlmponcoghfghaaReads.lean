/-
  THE WALK OF reads, its loop over the pages: the closure, what each page says.
-/
import Derived.Test.YtlmponcoghfghaaTells
import Derived.Deep.CutRange
import Derived.Deep.CutBlock
import Derived.Deep.DeepCutAuto
namespace Go.Proofs.Ytlmponcoghfghaa
open Go.RowKit
set_option linter.unusedVariables false
set_option maxRecDepth 100000

theorem num_step (L : List (BitVec 8)) (i s j : Nat) (hj : j + 1 ≤ s) (h : i + j < L.length) : num ((L.drop (i + j)).take (s - j)) = num ((L.drop (i + (j + 1))).take (s - (j + 1))) * 256 + L[i + j].toNat := by
  rw [List.drop_eq_getElem_cons h, show s - j = (s - (j + 1)) + 1 by omega, List.take_succ_cons]
  simp only [num]
  rw [show i + j + 1 = i + (j + 1) by omega]
  omega

set_option maxHeartbeats 400000 in
theorem at_any (bx : Nat) (A : Option Addr) (n c : Nat) (L : List (BitVec 8)) (i s : Nat) (w : World) (hn : n ≤ 1000000) (hs : s ≤ 8) (his : i + s ≤ n) (hbx : At w bx #[.slice A n c] 42) (h : Has w A n L) :
    Calls Try.prog 41 #[.int .i64 i, .int .i64 s, .pointer (some ⟨bx, 0, none⟩)] w fun e w' => e = .returned (.int .u64 (fld L i s : Nat)) ∧ w = w' := by
  have hc0 := hbx.cell 0
  have H := Lib.hid h
  have HL := Lib.hid h.1
  clear h hbx
  go_enter Try.func41, Try.ntmps41
  go_wp2
  go_loop [6, 7] (fun v kk => ∃ (j y : Nat) (z : Int), j ≤ s ∧ z + 1 = (j : Int) ∧ kk = .int .i64 z ∧ v = .int .u64 (y : Int) ∧ y < 18446744073709551616 ∧ Hid (y = num ((L.drop (i + j)).take (s - j)))) (fun _ kk => (intOf kk + 1).toNat)
  case atStart => exact ⟨s, 0, (s : Int) - 1, Nat.le_refl _, by omega, rfl, rfl, by omega, Lib.hid (by simp [num])⟩
  case round =>
    obtain ⟨j, y, z, hj, hz, rfl, rfl, hy, HY⟩ := hrel
    by_cases hlt : j = 0
    · subst hlt
      obtain rfl : z = -1 := by omega
      go_wp2
      go_ret
      refine ⟨?_, rfl⟩
      rw [HY.out]
      rfl
    · obtain ⟨q, rfl⟩ : ∃ q, j = q + 1 := ⟨j - 1, by omega⟩
      obtain rfl : z = (q : Int) := by omega
      obtain ⟨b, off, rfl⟩ := H.out.some_ (by omega)
      have hq : i + q < L.length := by rw [HL.out]; omega
      have hc : w.cell? ⟨b, off + (i + q), none⟩ = some (.int .u8 (L[i + q].toNat : Int)) := H.out.cell (i + q) (by omega)
      have hx := lt8 L[i + q]
      have HS := Lib.hid (num_step L i s q hj hq)
      have hyb : y < 72057594037927936 := by
        rw [HY.out]
        refine Nat.lt_of_lt_of_le (num_take_lt _ _) ?_
        exact Nat.le_trans (Nat.pow_le_pow_right (by omega) (show s - (q + 1) ≤ 7 by omega)) (by decide)
      generalize hX : L[i + q].toNat = X at hc hx HS
      clear hX hz
      go_wp2
      refine ⟨⟨q, y * 256 + X, (q : Int) - 1, by omega, by omega, rfl, by simp, by omega, Lib.hid ?_⟩, ?_⟩
      · rw [HS.out, ← HY.out]
      · simp [intOf]

theorem BB3 (w : World) (o p q : Obj) : Below w.heap.size w (((w.alloc o).alloc p).alloc q) := (((Below.refl _ _).alloc (Nat.le_refl _) _).alloc (by simp) _).alloc (by simp; omega) _
theorem sealed_eq {b : Nat} {B : List (BitVec 8)} (hb : 4 ≤ b) (h : B.length = b) : B = sealL (B.take (b - 4)) ↔ Sealed b B := by
  have h1 := sealed_iff B (b - 4) (by omega)
  rw [show b - 4 + 4 = b by omega, List.take_of_length_le (by omega)] at h1
  exact h1
theorem marked_eq {gen i : Nat} {B : List (BitVec 8)} (hg : gen < 18446744073709551616) (hi : i < 65536) (h : 11 ≤ B.length) : B.take 11 = mark gen i ↔ Marked gen i B := by
  have e : B.take 11 = low (fld B 0 1) 1 ++ low (fld B 1 8) 8 ++ low (fld B 9 2) 2 := by
    rw [← fld_low (D := B) (i := 0) (s := 1) (by omega), ← fld_low (D := B) (i := 1) (s := 8) (by omega), ← fld_low (D := B) (i := 9) (s := 2) (by omega), List.drop_zero]
    rw [show (11 : Nat) = 1 + 8 + 2 from rfl, List.take_add, List.take_add]
  constructor
  · intro h1
    have f : ∀ i s, i + s ≤ 11 → fld B i s = fld (mark gen i) i s ∨ True := fun _ _ _ => .inr trivial
    have g0 := fld_take B 0 1 11 (by omega)
    have g1 := fld_take B 1 8 11 (by omega)
    have g2 := fld_take B 9 2 11 (by omega)
    rw [h1] at g0 g1 g2
    refine ⟨?_, ?_, ?_⟩
    · rw [← g0]; exact fld_at (R := low gen 8 ++ low i 2) (by simp [mark]) (by decide)
    · rw [← g1]; exact fld_at (R := low i 2) (by unfold mark; rw [List.append_assoc]; exact List.drop_left' (low_len 80 1)) hg
    · rw [← g2]; exact fld_at (R := []) (by unfold mark; rw [List.append_nil]; exact List.drop_left' (by rw [List.length_append, low_len, low_len])) hi
  · rintro ⟨h1, h2, h3⟩
    rw [e, h1, h2, h3]
    rfl
/-- Shape, answer and none in their boxes; the box of the bytes at gg, whose row holds M. -/
structure Rdl (w0 w : World) (sc : Array Value) (gg : Nat) (v : Value) (M : List (BitVec 8)) : Prop where
  shp : At w w0.heap.size sc 32
  res : At w (w0.heap.size + 1) zcs 37
  non : At w (w0.heap.size + 1 + 1) zcs 37
  bx : At w gg #[v] 42
  own : w.ownsRow (w0.heap.size + 1 + 1 + 1) 5 1 v M.length (M.map val)
  off : v.ownBlock ≠ some gg
  gl : w0.heap.size + 1 + 1 < gg
  bel : Below w0.heap.size w0 w
section
variable {w0 w w' : World} {sc : Array Value} {gg : Nat} {v v' : Value} {M M' : List (BitVec 8)}
theorem Rdl.up (h : Rdl w0 w sc gg v M) (hb : Below w.heap.size w w') : Rdl w0 w' sc gg v M :=
  ⟨h.shp.below hb h.shp.lt, h.res.below hb h.res.lt, h.non.below hb h.non.lt, h.bx.below hb h.bx.lt, own_below h.own hb, h.off, h.gl, h.bel.trans (hb.mono h.bel.size)⟩
theorem Rdl.base (h : Rdl w0 w sc gg v M) : w0.heap.size + 1 + 1 + 1 ≤ w.heap.size := h.non.lt
/-- More bytes, and the box holds them. -/
theorem Rdl.push {n : Nat} (h : Rdl w0 w sc gg v M) (hown : w'.ownsRow (w0.heap.size + 1 + 1 + 1) 5 1 v' n (M'.map val)) (hg : w.grownBy w' v.ownBlock) (hf : ∀ g, v'.ownBlock = some g → v.ownBlock = some g ∨ w.heap.size ≤ g) :
    At w' gg #[v] 42 ∧ Rdl w0 (w'.setCell ⟨gg, 0, none⟩ v') sc gg v' M' := by
  have lo : ∀ k, v.ownBlock = some k → w0.heap.size + 1 + 1 + 1 ≤ k := fun k hk => (h.own.lt k hk).1
  have bt : But (fun k => v.ownBlock = some k) w w' := (But.refl _ _).grown hg (fun k hk _ => hk)
  have hn : M'.length = n := by have := hown.1; simpa using this
  have hb2 := h.bx.but bt (fun e => h.off e)
  have bs : But (fun k => k = gg) w' (w'.setCell ⟨gg, 0, none⟩ v') := (But.refl (fun k => k = gg) w').setCell (p := ⟨gg, 0, none⟩) (fun _ => rfl) _
  have gl := h.gl
  have ho : v'.ownBlock ≠ some gg := fun e => (hf gg e).elim h.off (fun h2 => by have := h.bx.lt; omega)
  refine ⟨hb2, (h.shp.but bt (fun e => by have := lo _ e; omega)).but bs (by omega), (h.res.but bt (fun e => by have := lo _ e; omega)).but bs (by omega), (h.non.but bt (fun e => by have := lo _ e; omega)).but bs (by omega), hb2.set 0 _, ?_, ho, gl, ?_⟩
  · rw [hn]
    exact own_but hown bs (fun k hk e => ho (e ▸ hk))
  · exact (h.bel.trans (bt.below (fun k e => by have := lo k e; omega) h.bel.size)).trans (bs.below (fun k e => by omega) (Nat.le_trans h.bel.size bt.size))
end

/-- And the image in block P0 with its two rows, which lie behind it. -/
structure Rdx (w0 w : World) (sc : Array Value) (gg P0 : Nat) (vD : Value) (D : List (BitVec 8)) (q z ix : Nat) (vG vM : Value) (gs : List Sg) (mp : List Nat) : Prop where
  r : Rdl w0 w sc gg vD D
  box : At w P0 #[.int .u64 (q : Int), .int .i64 ((z : Int) - 1), .int .i64 (ix : Int), vG, vM] 37
  og : w.ownsRow (P0 + 1) 58 2 vG gs.length (flat gs)
  om : w.ownsRow (P0 + 1) 3 1 vM mp.length (ints mp)
  apart : ∀ k, vG.ownBlock = some k → vM.ownBlock ≠ some k
  lt : gg < P0 ∧ ∀ j, vD.ownBlock = some j → j < P0
section
variable {w0 w : World} {sc : Array Value} {gg P0 : Nat} {vD : Value} {D : List (BitVec 8)} {q z ix : Nat} {vG vM : Value} {gs : List Sg} {mp : List Nat}
theorem Rdx.up {w' : World} (h : Rdx w0 w sc gg P0 vD D q z ix vG vM gs mp) (hb : Below w.heap.size w w') : Rdx w0 w' sc gg P0 vD D q z ix vG vM gs mp :=
  ⟨h.r.up hb, h.box.below hb h.box.lt, own_below h.og hb, own_below h.om hb, h.apart, h.lt⟩
theorem Rdl.but {w' : World} {S : Nat → Prop} (h : Rdl w0 w sc gg vD D) (hb : But S w w') (hs : ∀ k, S k → P0 ≤ k) (hp : gg < P0 ∧ ∀ j, vD.ownBlock = some j → j < P0) : Rdl w0 w' sc gg vD D := by
  have gl := h.gl
  exact ⟨h.shp.but hb (fun e => by have := hs _ e; omega), h.res.but hb (fun e => by have := hs _ e; omega), h.non.but hb (fun e => by have := hs _ e; omega), h.bx.but hb (fun e => by have := hs _ e; omega), own_but h.own hb (fun k hk e => by have := hs k e; have := hp.2 k hk; omega), h.off, gl, h.bel.trans (hb.below (fun k e => by have := hs k e; omega) h.bel.size)⟩
theorem Rdx.pushG {wa w2 : World} {x : Sg} {n c : Nat} {A : Option Addr} (h : Rdx w0 w sc gg P0 vD D q z ix vG vM gs mp) (ha : Below w.heap.size w wa) (hown : w2.ownsRow (P0 + 1) 58 2 (.slice A n c) n (flat (gs ++ [x]))) (hg : wa.grownBy w2 vG.ownBlock)
    (hf : ∀ g, (Value.slice A n c).ownBlock = some g → vG.ownBlock = some g ∨ wa.heap.size ≤ g) :
    At w2 P0 #[.int .u64 (q : Int), .int .i64 ((z : Int) - 1), .int .i64 (ix : Int), vG, vM] 37 ∧ Rdx w0 (w2.setCell ⟨P0, 3, none⟩ (.slice A n c)) sc gg P0 vD D q z ix (.slice A n c) vM (gs ++ [x]) mp := by
  have h1 := h.up ha
  have lo : ∀ k, vG.ownBlock = some k → P0 + 1 ≤ k := fun k hk => (h.og.lt k hk).1
  have lm : ∀ k, vM.ownBlock = some k → P0 + 1 ≤ k ∧ k < wa.heap.size := fun k hk => h1.om.lt k hk
  have bt : But (fun k => vG.ownBlock = some k) wa w2 := (But.refl _ _).grown hg (fun k hk _ => hk)
  have hn : n = (gs ++ [x]).length := by have := hown.1; rw [flat_len] at this; omega
  have bs : But (fun k => k = P0) w2 (w2.setCell ⟨P0, 3, none⟩ (.slice A n c)) := (But.refl (fun k => k = P0) w2).setCell (p := ⟨P0, 3, none⟩) (fun _ => rfl) _
  have hx2 := h1.box.but bt (fun e => by have := lo _ e; omega)
  refine ⟨hx2, (h1.r.but bt (fun k e => by have := lo k e; omega) h.lt).but bs (fun k e => by omega) h.lt, hx2.set 3 _, ?_, ?_, ?_, h.lt⟩
  · rw [← hn]
    exact own_but hown bs (fun k hk e => by have := (hown.lt k hk).1; omega)
  · exact own_but (own_but h1.om bt (fun k hk e => h.apart k e hk)) bs (fun k hk e => by have := (lm k hk).1; omega)
  · intro k hk e
    rcases hf k hk with h2 | h2
    · exact h.apart k h2 e
    · have := (lm k e).2; omega
theorem Rdx.pushM {wa w2 : World} {x : Nat} {n c : Nat} {A : Option Addr} (h : Rdx w0 w sc gg P0 vD D q z ix vG vM gs mp) (ha : Below w.heap.size w wa) (hown : w2.ownsRow (P0 + 1) 3 1 (.slice A n c) n (ints (mp ++ [x]))) (hg : wa.grownBy w2 vM.ownBlock)
    (hf : ∀ g, (Value.slice A n c).ownBlock = some g → vM.ownBlock = some g ∨ wa.heap.size ≤ g) :
    At w2 P0 #[.int .u64 (q : Int), .int .i64 ((z : Int) - 1), .int .i64 (ix : Int), vG, vM] 37 ∧ Rdx w0 (w2.setCell ⟨P0, 4, none⟩ (.slice A n c)) sc gg P0 vD D q z ix vG (.slice A n c) gs (mp ++ [x]) := by
  have h1 := h.up ha
  have lo : ∀ k, vM.ownBlock = some k → P0 + 1 ≤ k := fun k hk => (h.om.lt k hk).1
  have lm : ∀ k, vG.ownBlock = some k → P0 + 1 ≤ k ∧ k < wa.heap.size := fun k hk => h1.og.lt k hk
  have bt : But (fun k => vM.ownBlock = some k) wa w2 := (But.refl _ _).grown hg (fun k hk _ => hk)
  have hn : n = (mp ++ [x]).length := by have := hown.1; rw [ints_len] at this; omega
  have bs : But (fun k => k = P0) w2 (w2.setCell ⟨P0, 4, none⟩ (.slice A n c)) := (But.refl (fun k => k = P0) w2).setCell (p := ⟨P0, 4, none⟩) (fun _ => rfl) _
  have hx2 := h1.box.but bt (fun e => by have := lo _ e; omega)
  refine ⟨hx2, (h1.r.but bt (fun k e => by have := lo k e; omega) h.lt).but bs (fun k e => by omega) h.lt, hx2.set 4 _, ?_, ?_, ?_, h.lt⟩
  · exact own_but (own_but h1.og bt (fun k hk e => h.apart k hk e)) bs (fun k hk e => by have := (lm k hk).1; omega)
  · rw [← hn]
    exact own_but hown bs (fun k hk e => by have := (hown.lt k hk).1; omega)
  · intro k hk e
    rcases hf k e with h2 | h2
    · exact h.apart k hk h2
    · have := (lm k hk).2; omega
end
theorem own_has {w : World} {B n c : Nat} {A : Option Addr} {l : List (BitVec 8)} (h : w.ownsRow B 5 1 (.slice A n c) n (l.map val)) : Has w A n l := by
  obtain ⟨A', c', e, _, _, hh, _⟩ := Has.of_own h
  injection e with e1 _ _
  rw [e1]
  exact hh
theorem low_push (D : List (BitVec 8)) (k : Nat) : Low (sgUpto D (k + 1)) ↔ Low (sgUpto D k) ∧ fld D (12 + 9 * k) 1 ≤ 2 := by
  rw [sgUpto_next]
  constructor
  · intro h
    exact ⟨fun x hx => h x (List.mem_append_left _ hx), h (sgAt D k) (List.mem_append_right _ (by simp))⟩
  · rintro ⟨h1, h2⟩ x hx
    rcases List.mem_append.1 hx with hx | hx
    · exact h1 x hx
    · simp at hx; subst hx; exact h2
theorem under_push (D : List (BitVec 8)) (o T k : Nat) : Under T (mpUpto D o (k + 1)) ↔ Under T (mpUpto D o k) ∧ fld D (o + 4 * k) 4 ≤ T := by
  rw [mpUpto_next]
  constructor
  · intro h
    exact ⟨fun x hx => h x (List.mem_append_left _ hx), h _ (List.mem_append_right _ (by simp [mpAt]))⟩
  · rintro ⟨h1, h2⟩ x hx
    rcases List.mem_append.1 hx with hx | hx
    · exact h1 x hx
    · simp at hx; subst hx; exact h2
theorem none0_push (L : List (BitVec 8)) (j : Nat) (h : j < L.length) : None0 (L.take (j + 1)) ↔ None0 (L.take j) ∧ L[j] = 0#8 := by
  unfold None0
  rw [List.take_succ_eq_append_getElem h]
  constructor
  · intro h1
    exact ⟨fun x hx => h1 x (List.mem_append_left _ hx), h1 _ (List.mem_append_right _ (by simp))⟩
  · rintro ⟨h1, h2⟩ x hx
    rcases List.mem_append.1 hx with hx | hx
    · exact h1 x hx
    · simp at hx; subst hx; exact h2
theorem fld_byte (D : List (BitVec 8)) (i : Nat) (h : i < D.length) : fld D i 1 = D[i].toNat := by
  unfold fld
  rw [List.drop_eq_getElem_cons h, List.take_succ_cons, List.take_zero]
  rfl

set_option maxHeartbeats 8000000 in
theorem reads_any (m b g s n l : Nat) (gen : Nat) (A : Option Addr) (na c : Nat) (L : List Sl) (w : World) (ok : OkN m b g s n l) (hgen : gen < 18446744073709551616) (hna : na ≤ 1000000) (h : Lns w A na L) :
    Calls Try.prog 16 #[.agg #[.int .i64 (m : Int), .int .i64 (b : Int), .int .i64 (g : Int), .int .i64 (s : Int), .int .i64 (n : Int), .int .i64 (l : Int)], .int .u64 (gen : Int), .slice A na c] w fun e w' => ∃ r, Dec m b g s l (npg b g l) gen (byts L) r ∧ Answer w r e w' := by
  have BN := Lib.hid ok.bnd
  have hb := ok.bnd.b; have hg := ok.bnd.g; have hl := ok.bnd.l; have hs := ok.bnd.s; have hm := ok.bnd.m
  have hnp := npg_few ok.bnd
  have NG := Lib.hid (npg_ge ok.bnd)
  have NM := Lib.hid (npg_max ok.bnd)
  have HL := Lib.hid h
  have LL := Lib.hid h.len
  have LB := Lib.hid (show (byts L).length = na by rw [byts_len, h.len])
  obtain ⟨np, hnpe⟩ : ∃ y, y = npg b g l := ⟨_, rfl⟩
  rw [← hnpe] at hnp NG NM ⊢
  have NE := Lib.hid hnpe
  clear ok h hnpe
  go_enter Try.func16, Try.ntmps16
  go_wp2_with fail
  refine (pages_nat BN.out _).mono ?_
  rintro e w2 ⟨rfl, hb2⟩
  rw [← NE.out]
  have BW := Lib.hid (show Below w.heap.size w w2 from (BB3 w _ _ _).trans (hb2.mono (BB3 w _ _ _).size))
  have SH := Lib.hid (show At w2 w.heap.size #[.int .i64 (m : Int), .int .i64 (b : Int), .int .i64 (g : Int), .int .i64 (s : Int), .int .i64 (n : Int), .int .i64 (l : Int)] 32 from (((At.new _ _ rfl).alloc _).alloc _).below hb2 (by simp; omega))
  have RS := Lib.hid (show At w2 (w.heap.size + 1) zcs 37 from ((At.new _ _ (by simp)).alloc _).below hb2 (by simp))
  have NO := Lib.hid (show At w2 (w.heap.size + 1 + 1) zcs 37 from (At.new _ _ (by simp)).below hb2 (by simp))
  clear hb2
  by_cases hne : na = np
  · subst hne
    go_wp2
    have E := Lib.hid (show Rdl w (w2.alloc (.cells #[.slice none 0 0] 42)) #[.int .i64 (m : Int), .int .i64 (b : Int), .int .i64 (g : Int), .int .i64 (s : Int), .int .i64 (n : Int), .int .i64 (l : Int)] w2.heap.size (.slice none 0 0) [] from ⟨SH.out.alloc _, RS.out.alloc _, NO.out.alloc _, At.new _ _ rfl, World.ownsRow_nil _ _ _ _, by simp [Value.ownBlock], NO.out.lt, BW.out.alloc BW.out.size _⟩)
    generalize w2.alloc (.cells #[.slice none 0 0] 42) = w3 at *
    generalize w2.heap.size = gg at *
    clear SH RS BW NO
    clear w2
    go_loopw [28] (fun i wr => ∃ (k : Nat) (v : Value), k ≤ na ∧ i = .int .i64 k ∧ Rdl w wr #[.int .i64 (m : Int), .int .i64 (b : Int), .int .i64 (g : Int), .int .i64 (s : Int), .int .i64 (n : Int), .int .i64 (l : Int)] gg v (inners b ((byts L).take k)) ∧ ∀ j (h : j < (byts L).length), j < k → wrong b gen j (byts L)[j] = 0) (fun i _ => na - (intOf i).toNat)
    case atStart => exact ⟨0, _, Nat.zero_le _, rfl, by simpa [inners] using E.out, fun j h hj => by omega⟩
    case round =>
      clear E
      obtain ⟨k, v, hk, rfl, hE, hall⟩ := hrel
      have E := Lib.hid hE
      have AL := Lib.hid hall
      have HH := Lib.hid (HL.out.below hE.bel)
      clear hE hall
      by_cases hlt : k < na
      · obtain ⟨hkl, bb, off, rfl, hc, hh, hx1, hx2, hx3⟩ := HH.out.one hlt
        have hkb : k < (byts L).length := by rw [LB.out]; exact hlt
        have EB := Lib.hid (byts_get L k hkl)
        have hkB : L[k].l = (byts L)[k] := EB.out.symm
        rw [hkB] at hh
        have IN := Lib.hid (inners_next b (byts L) k hkb)
        have IL := Lib.hid (show (inners b ((byts L).take k)).length ≤ 60000 from by
          have h9 := inners_len b ((byts L).take k) (fun B hB => by
            obtain ⟨j, hj, e⟩ := List.getElem_of_mem hB
            rw [List.length_take] at hj
            rw [List.getElem_take] at e
            rw [← e]
            exact right_len (AL.out j (by omega) (by omega)))
          rw [h9, List.length_take, Nat.min_eq_left (by omega)]
          exact Nat.le_trans (Nat.mul_le_mul_right _ (Nat.le_of_lt hlt)) NM.out)
        generalize inners b ((byts L).take k) = M at *
        have DP := Lib.hid (show ¬ wrong b gen k (byts L)[k] = 0 → Dec m b g s l na gen (byts L) (Im.zero, wrong b gen k (byts L)[k]) from fun h0 => Dec.page k hkb LB.out AL.out h0)
        have AN := Lib.hid (show wrong b gen k (byts L)[k] = 0 → ∀ j (h : j < (byts L).length), j < k + 1 → wrong b gen j (byts L)[j] = 0 from fun h0 j h hj => by
          rcases Nat.lt_or_ge j k with h2 | h2
          · exact AL.out j h h2
          · obtain rfl : j = k := by omega
            exact h0)
        generalize (byts L)[k] = Bk at *
        generalize hsl : L[k] = x at hc hh hx1 hx2 hx3
        obtain ⟨xA, xn, xc, xl⟩ := x
        simp only at hc hh hx1 hx2 hx3
        have H := Lib.hid hh
        have X := Lib.hid (And.intro hx1 (And.intro hx2 hx3))
        have k1 := E.out.shp.cell 1
        have LBk := Lib.hid hh.1
        unfold maxLen at hx3
        clear hsl hkB hh EB AL
        by_cases hxb : xn = b
        · subst hxb
          obtain ⟨ba, oa, rfl⟩ := H.out.some_ (by omega)
          have hT := Lib.hid (H.out.take (xn - 4) (by omega))
          have hb4 : (xn : Int) - 4 = ((xn - 4 : Nat) : Int) := by omega
          have c4 : ((xn - 4 : Nat) : Int) ≤ (xc : Int) := by omega
          go_wp2_with fail
          clear hc k1
          refine (sealed_any (some ⟨ba, oa, none⟩) (xn - 4) xc (Bk.take (xn - 4)) wr (by omega) hT.out).mono ?_
          rintro e w6 ⟨v6, rfl, hf6⟩
          rw [show xn - 4 + 4 = xn by omega] at hf6
          obtain ⟨A6, c6, rfl, _, _, _, hh6, _⟩ := own_slice hf6.1
          have E := Lib.hid (E.out.up hf6.2)
          have H := Lib.hid (H.out.below hf6.2)
          have H6 := Lib.hid hh6
          clear hf6 hh6 hT
          go_wp2_with fail
          refine (equal_any (some ⟨ba, oa, none⟩) A6 xn xn xc c6 Bk (sealL (Bk.take (xn - 4))) w6 (by omega) (by omega) H.out H6.out).mono ?_
          rintro e w7 ⟨rfl, p7, hw7⟩
          have E := Lib.hid (show Rdl w w7 #[.int .i64 (m : Int), .int .i64 (xn : Int), .int .i64 (g : Int), .int .i64 (s : Int), .int .i64 (n : Int), .int .i64 (l : Int)] gg v M by rw [hw7]; exact E.out.up (below_drewN (Below.refl _ _) p7))
          have H := Lib.hid (show Has w7 (some ⟨ba, oa, none⟩) xn Bk by rw [hw7]; exact H.out.drewN p7)
          clear hw7 H6
          by_cases hse : Sealed xn Bk
          · have SE := Lib.hid hse
            rw [decide_eq_true ((sealed_eq (by omega) LBk.out).2 hse)]
            clear hse
            go_upto_region 12 with (fail)
            go_cut [51] (fun s51 wc => ∃ o : Bool, s51 = .bool o ∧ (o = true ↔ ¬ Marked gen k Bk) ∧ Rdl w wc #[.int .i64 (m : Int), .int .i64 (xn : Int), .int .i64 (g : Int), .int .i64 (s : Int), .int .i64 (n : Int), .int .i64 (l : Int)] gg v M ∧ Has wc (some ⟨ba, oa, none⟩) xn Bk)
            case first =>
              refine wp_region_early (fun _ : World => True) (fun _ => true) (by kernel_rfl) ?_
              change wpEarly _ _ _ _ _ _ 13 (Array.replicate 13 false) _ w7.drew
              have E := Lib.hid (E.out.up (below_drew (Below.refl _ _)))
              have H := Lib.hid (H.out.below (below_drew (Below.refl _ _)))
              generalize w7.drew = wa at *
              obtain ⟨H0, hH0⟩ : ∃ y, y = wa.heap.size := ⟨_, rfl⟩
              have BB := Lib.hid (show Below H0 wa wa from Below.refl _ _)
              have HE := Lib.hid hH0
              have HS := Lib.hid (show H0 ≤ wa.heap.size by omega)
              clear hH0
              refine early_take (i := 0) 52 (.slice (some ⟨ba, oa, none⟩) xn xc) rfl rfl (by kernel_rfl) (by kernel_rfl) (by kernel_rfl) (by kernel_rfl) rfl (fun _ _ _ h => h) (fun w' hw' => by go_simp) trivial ?_
              simp only [Act.put, List.setIfInBounds_toArray, List.set_cons_zero, List.set_cons_succ]
              refine early_take (i := 1) 53 (.slice (some ⟨ba, oa, none⟩) 11 xc) rfl rfl (by kernel_rfl) (by kernel_rfl) (by kernel_rfl) (by kernel_rfl) rfl (fun _ _ _ h => h) (fun w' hw' => by go_simp <;> (intro h9; omega)) trivial ?_
              simp only [Act.put, List.setIfInBounds_toArray, List.set_cons_zero, List.set_cons_succ]
              refine early_take (i := 3) 55 (.int .u64 (gen : Int)) rfl rfl (by kernel_rfl) (by kernel_rfl) (by kernel_rfl) (by kernel_rfl) rfl (fun _ _ _ h => h) (fun w' hw' => by go_simp) trivial ?_
              simp only [Act.put, List.setIfInBounds_toArray, List.set_cons_zero, List.set_cons_succ]
              refine early_take (i := 6) 58 (.int .i64 (k : Int)) rfl rfl (by kernel_rfl) (by kernel_rfl) (by kernel_rfl) (by kernel_rfl) rfl (fun _ _ _ h => h) (fun w' hw' => by go_simp) trivial ?_
              simp only [Act.put, List.setIfInBounds_toArray, List.set_cons_zero, List.set_cons_succ]
              refine early_take (i := 7) 59 (.int .u64 (k : Int)) rfl rfl (by kernel_rfl) (by kernel_rfl) (by kernel_rfl) (by kernel_rfl) rfl (fun _ _ _ h => h) (fun w' hw' => by go_simp; exact wrap64 (by omega)) trivial ?_
              simp only [Act.put, List.setIfInBounds_toArray, List.set_cons_zero, List.set_cons_succ]
              refine early_two (i := 2) (j := 4) (by kernel_rfl) ⟨rfl, fun K hK => ?_⟩ ⟨rfl, fun K hK => ?_⟩
              · simp only [opWp, List.getElem?_toArray, List.getElem?_cons_succ, List.getElem?_cons_zero]
                go_simp
                have HSU := Lib.hid (show H0 ≤ wa.heap.size by have := BB.out.size; have := HS.out; omega)
                have OB := Lib.hid (show (wa.alloc (.cells #[.int .u8 80] 5)).ownsRow H0 5 1 (.slice (some ⟨wa.heap.size, 0, none⟩) 1 1) 1 ((low 80 1).map val) from own_base (own_byte (w := wa) (k := 80) (by omega)) (fun j hj => by simp [Value.ownBlock] at hj; have := HSU.out; omega))
                have BB := Lib.hid (BB.out.alloc HSU.out (.cells #[.int .u8 80] 5))
                refine hK _ _ (fun _ => trivial) ?_
                clear hK HSU
                generalize wa.alloc (.cells #[.int .u8 80] 5) = ub at *
                generalize wa.heap.size = ob at OB ⊢
                refine early_only (i := 4) (by kernel_rfl) rfl (fun K hK => ?_)
                simp only [opWp, List.getElem?_toArray, List.getElem?_cons_succ, List.getElem?_cons_zero]
                go_simp
                go_at_call 32
                refine (put_any 8 gen _ (by omega) (by omega)).mono ?_
                rintro e uz ⟨vz, rfl, hf⟩
                obtain ⟨Az, cz, rfl, _, _, _, hh, _⟩ := own_slice hf.1
                obtain ⟨Sz, rfl⟩ := some_of hh (by omega)
                have OB := Lib.hid (own_below OB.out hf.2)
                have BB := Lib.hid (BB.out.trans (hf.2.mono (Nat.le_trans HS.out BB.out.size)))
                have HH := Lib.hid hh
                clear hf hh
                refine hK _ _ (fun _ => trivial) ?_
                clear hK
                refine early_only (i := 5) (by kernel_rfl) rfl (fun K hK => ?_)
                simp only [opWp, List.getElem?_toArray, List.getElem?_cons_succ, List.getElem?_cons_zero]
                refine wp_append_has (.tmp 54) (.tmp 56) rfl H0 (.slice (some ⟨ob, 0, none⟩) 1 1) 1 (low 80 1) rfl OB.out Sz 8 cz (low gen 8) rfl HH.out (by omega) (Nat.le_trans HS.out BB.out.size) ?_
                intro A8 c8 u8 hown hgr hwh
                have BB := Lib.hid (BB.out.grown hgr (Nat.le_trans HS.out BB.out.size) (fun j hj => (OB.out.lt j hj).1))
                have OB := Lib.hid hown
                clear hown hgr hwh HH
                refine hK _ _ (fun _ => trivial) ?_
                clear hK
                simp only [Act.put, List.setIfInBounds_toArray, List.set_cons_zero, List.set_cons_succ]
                refine early_only (i := 8) (by kernel_rfl) rfl (fun K hK => ?_)
                simp only [opWp, List.getElem?_toArray, List.getElem?_cons_succ, List.getElem?_cons_zero]
                go_simp
                go_at_call 32
                refine (put_any 2 k _ (by omega) (by omega)).mono ?_
                rintro e uz ⟨vz, rfl, hf⟩
                obtain ⟨Az, cz, rfl, _, _, _, hh, _⟩ := own_slice hf.1
                obtain ⟨Sz, rfl⟩ := some_of hh (by omega)
                have OB := Lib.hid (own_below OB.out hf.2)
                have BB := Lib.hid (BB.out.trans (hf.2.mono (Nat.le_trans HS.out BB.out.size)))
                have HH := Lib.hid hh
                clear hf hh
                refine hK _ _ (fun _ => trivial) ?_
                clear hK
                refine early_only (i := 9) (by kernel_rfl) rfl (fun K hK => ?_)
                simp only [opWp, List.getElem?_toArray, List.getElem?_cons_succ, List.getElem?_cons_zero]
                refine wp_append_has (.tmp 57) (.tmp 60) rfl H0 (.slice A8 (1 + 8) c8) 9 (low 80 1 ++ low gen 8) rfl OB.out Sz 2 cz (low k 2) rfl HH.out (by omega) (Nat.le_trans HS.out BB.out.size) ?_
                intro A8 c8 u8 hown hgr hwh
                have BB := Lib.hid (BB.out.grown hgr (Nat.le_trans HS.out BB.out.size) (fun j hj => (OB.out.lt j hj).1))
                have OB := Lib.hid hown
                clear hown hgr hwh HH
                refine hK _ _ (fun _ => trivial) ?_
                clear hK
                simp only [Act.put, List.setIfInBounds_toArray, List.set_cons_zero, List.set_cons_succ]
                refine early_only (i := 10) (by kernel_rfl) rfl (fun K hK => ?_)
                simp only [opWp, List.getElem?_toArray, List.getElem?_cons_succ, List.getElem?_cons_zero]
                go_simp
                go_at_call 12
                obtain ⟨A9, c9, e9, _, _, hh9, _⟩ := Has.of_own OB.out
                injection e9 with e9a e9b e9c
                refine (equal_any (some ⟨ba, oa, none⟩) _ 11 _ xc _ (Bk.take 11) (mark gen k) _ (by omega) (by omega) ((H.out.below (HE.out ▸ BB.out)).take 11 (by omega)) (by rw [e9a]; exact hh9)).mono ?_
                rintro e u9 ⟨rfl, p9, hu9⟩
                have BB := Lib.hid (show Below wa.heap.size wa u9 by rw [hu9, ← HE.out]; exact below_drewN BB.out p9)
                clear hh9 hu9 e9a e9b e9c
                refine hK _ _ (fun _ => trivial) ?_
                clear hK
                refine early_take (i := 11) 63 (.bool (!decide (Bk.take 11 = mark gen k))) rfl rfl (by kernel_rfl) (by kernel_rfl) (by kernel_rfl) (by kernel_rfl) rfl (fun _ _ _ h => h) (fun w' hw' => by go_simp) trivial ?_
                simp only [Act.put, List.setIfInBounds_toArray, List.set_cons_zero, List.set_cons_succ]
                refine early_take (i := 12) 51 (.bool (!decide (Bk.take 11 = mark gen k))) rfl rfl (by kernel_rfl) (by kernel_rfl) (by kernel_rfl) (by kernel_rfl) rfl (fun _ _ _ h => h) (fun w' hw' => by go_simp) trivial ?_
                simp only [Act.put, List.setIfInBounds_toArray, List.set_cons_zero, List.set_cons_succ]
                refine early_done (by kernel_rfl) ?_
                go_wp2_with fail
                go_meet
                refine ⟨_, rfl, ?_, E.out.up BB.out, H.out.below BB.out⟩
                have h9 := marked_eq (gen := gen) (i := k) (B := Bk) hgen (by omega) (by rw [LBk.out]; omega)
                by_cases e : Bk.take 11 = mark gen k
                · rw [decide_eq_true e]
                  exact ⟨fun h => (by simp at h), fun h => (h (h9.1 e)).elim⟩
                · rw [decide_eq_false e]
                  exact ⟨fun _ h => e (h9.2 h), fun _ => rfl⟩
              · simp only [opWp, List.getElem?_toArray, List.getElem?_cons_succ, List.getElem?_cons_zero]
                go_simp
                go_at_call 32
                refine (put_any 8 gen _ (by omega) (by omega)).mono ?_
                rintro e uz ⟨vz, rfl, hf⟩
                obtain ⟨Az, cz, rfl, _, _, _, hh, _⟩ := own_slice hf.1
                obtain ⟨Sz, rfl⟩ := some_of hh (by omega)
                have BB := Lib.hid (BB.out.trans (hf.2.mono (Nat.le_trans HS.out BB.out.size)))
                have HH := Lib.hid hh
                clear hf hh
                refine hK _ _ (fun _ => trivial) ?_
                clear hK
                refine early_only (i := 2) (by kernel_rfl) rfl (fun K hK => ?_)
                simp only [opWp, List.getElem?_toArray, List.getElem?_cons_succ, List.getElem?_cons_zero]
                go_simp
                have HSU := Lib.hid (show H0 ≤ uz.heap.size by have := BB.out.size; have := HS.out; omega)
                have OB := Lib.hid (show (uz.alloc (.cells #[.int .u8 80] 5)).ownsRow H0 5 1 (.slice (some ⟨uz.heap.size, 0, none⟩) 1 1) 1 ((low 80 1).map val) from own_base (own_byte (w := uz) (k := 80) (by omega)) (fun j hj => by simp [Value.ownBlock] at hj; have := HSU.out; omega))
                have HH := Lib.hid (HH.out.below (BB1 uz (.cells #[.int .u8 80] 5)))
                have BB := Lib.hid (BB.out.alloc HSU.out (.cells #[.int .u8 80] 5))
                refine hK _ _ (fun _ => trivial) ?_
                clear hK HSU
                generalize uz.alloc (.cells #[.int .u8 80] 5) = ub at *
                generalize uz.heap.size = ob at OB ⊢
                refine early_only (i := 5) (by kernel_rfl) rfl (fun K hK => ?_)
                simp only [opWp, List.getElem?_toArray, List.getElem?_cons_succ, List.getElem?_cons_zero]
                refine wp_append_has (.tmp 54) (.tmp 56) rfl H0 (.slice (some ⟨ob, 0, none⟩) 1 1) 1 (low 80 1) rfl OB.out Sz 8 cz (low gen 8) rfl HH.out (by omega) (Nat.le_trans HS.out BB.out.size) ?_
                intro A8 c8 u8 hown hgr hwh
                have BB := Lib.hid (BB.out.grown hgr (Nat.le_trans HS.out BB.out.size) (fun j hj => (OB.out.lt j hj).1))
                have OB := Lib.hid hown
                clear hown hgr hwh HH
                refine hK _ _ (fun _ => trivial) ?_
                clear hK
                simp only [Act.put, List.setIfInBounds_toArray, List.set_cons_zero, List.set_cons_succ]
                refine early_only (i := 8) (by kernel_rfl) rfl (fun K hK => ?_)
                simp only [opWp, List.getElem?_toArray, List.getElem?_cons_succ, List.getElem?_cons_zero]
                go_simp
                go_at_call 32
                refine (put_any 2 k _ (by omega) (by omega)).mono ?_
                rintro e uz ⟨vz, rfl, hf⟩
                obtain ⟨Az, cz, rfl, _, _, _, hh, _⟩ := own_slice hf.1
                obtain ⟨Sz, rfl⟩ := some_of hh (by omega)
                have OB := Lib.hid (own_below OB.out hf.2)
                have BB := Lib.hid (BB.out.trans (hf.2.mono (Nat.le_trans HS.out BB.out.size)))
                have HH := Lib.hid hh
                clear hf hh
                refine hK _ _ (fun _ => trivial) ?_
                clear hK
                refine early_only (i := 9) (by kernel_rfl) rfl (fun K hK => ?_)
                simp only [opWp, List.getElem?_toArray, List.getElem?_cons_succ, List.getElem?_cons_zero]
                refine wp_append_has (.tmp 57) (.tmp 60) rfl H0 (.slice A8 (1 + 8) c8) 9 (low 80 1 ++ low gen 8) rfl OB.out Sz 2 cz (low k 2) rfl HH.out (by omega) (Nat.le_trans HS.out BB.out.size) ?_
                intro A8 c8 u8 hown hgr hwh
                have BB := Lib.hid (BB.out.grown hgr (Nat.le_trans HS.out BB.out.size) (fun j hj => (OB.out.lt j hj).1))
                have OB := Lib.hid hown
                clear hown hgr hwh HH
                refine hK _ _ (fun _ => trivial) ?_
                clear hK
                simp only [Act.put, List.setIfInBounds_toArray, List.set_cons_zero, List.set_cons_succ]
                refine early_only (i := 10) (by kernel_rfl) rfl (fun K hK => ?_)
                simp only [opWp, List.getElem?_toArray, List.getElem?_cons_succ, List.getElem?_cons_zero]
                go_simp
                go_at_call 12
                obtain ⟨A9, c9, e9, _, _, hh9, _⟩ := Has.of_own OB.out
                injection e9 with e9a e9b e9c
                refine (equal_any (some ⟨ba, oa, none⟩) _ 11 _ xc _ (Bk.take 11) (mark gen k) _ (by omega) (by omega) ((H.out.below (HE.out ▸ BB.out)).take 11 (by omega)) (by rw [e9a]; exact hh9)).mono ?_
                rintro e u9 ⟨rfl, p9, hu9⟩
                have BB := Lib.hid (show Below wa.heap.size wa u9 by rw [hu9, ← HE.out]; exact below_drewN BB.out p9)
                clear hh9 hu9 e9a e9b e9c
                refine hK _ _ (fun _ => trivial) ?_
                clear hK
                refine early_take (i := 11) 63 (.bool (!decide (Bk.take 11 = mark gen k))) rfl rfl (by kernel_rfl) (by kernel_rfl) (by kernel_rfl) (by kernel_rfl) rfl (fun _ _ _ h => h) (fun w' hw' => by go_simp) trivial ?_
                simp only [Act.put, List.setIfInBounds_toArray, List.set_cons_zero, List.set_cons_succ]
                refine early_take (i := 12) 51 (.bool (!decide (Bk.take 11 = mark gen k))) rfl rfl (by kernel_rfl) (by kernel_rfl) (by kernel_rfl) (by kernel_rfl) rfl (fun _ _ _ h => h) (fun w' hw' => by go_simp) trivial ?_
                simp only [Act.put, List.setIfInBounds_toArray, List.set_cons_zero, List.set_cons_succ]
                refine early_done (by kernel_rfl) ?_
                go_wp2_with fail
                go_meet
                refine ⟨_, rfl, ?_, E.out.up BB.out, H.out.below BB.out⟩
                have h9 := marked_eq (gen := gen) (i := k) (B := Bk) hgen (by omega) (by rw [LBk.out]; omega)
                by_cases e : Bk.take 11 = mark gen k
                · rw [decide_eq_true e]
                  exact ⟨fun h => (by simp at h), fun h => (h (h9.1 e)).elim⟩
                · rw [decide_eq_false e]
                  exact ⟨fun _ h => e (h9.2 h), fun _ => rfl⟩
            case rest =>
              clear E H
              obtain ⟨o, rfl, hO, hE, hH⟩ := hcut
              have E := Lib.hid hE
              have H := Lib.hid hH
              by_cases hmk : Marked gen k Bk
              · obtain rfl : o = false := Bool.eq_false_iff.2 (fun e => hO.1 e hmk)
                have W0 := Lib.hid (wrong_none LBk.out SE.out hmk)
                clear hO hE hH hmk
                go_wp2_with fail
                refine wp_region_early (fun w' : World => At w' w.heap.size #[.int .i64 (m : Int), .int .i64 (xn : Int), .int .i64 (g : Int), .int .i64 (s : Int), .int .i64 (n : Int), .int .i64 (l : Int)] 32 ∧ At w' gg #[v] 42) (fun i => i != 7) (by kernel_rfl) ?_
                change wpEarly _ _ _ _ _ _ 8 (Array.replicate 8 false) _ wc.drew
                have E := Lib.hid (E.out.up (below_drew (Below.refl _ _)))
                have H := Lib.hid (H.out.below (below_drew (Below.refl _ _)))
                generalize wc.drew = wa at *
                have S0 := Lib.hid (And.intro E.out.shp E.out.bx)
                refine early_take (i := 0) 65 v rfl rfl (by kernel_rfl) (by kernel_rfl) (by kernel_rfl) (by kernel_rfl) rfl (fun _ _ _ h => h) (fun w' hw' => by have hc0 := hw'.2.cell 0; go_simp) S0.out ?_
                simp only [Act.put, List.setIfInBounds_toArray, List.set_cons_zero, List.set_cons_succ]
                refine early_take (i := 1) 66 (.slice (some ⟨ba, oa, none⟩) xn xc) rfl rfl (by kernel_rfl) (by kernel_rfl) (by kernel_rfl) (by kernel_rfl) rfl (fun _ _ _ h => h) (fun w' hw' => by go_simp) S0.out ?_
                simp only [Act.put, List.setIfInBounds_toArray, List.set_cons_zero, List.set_cons_succ]
                refine early_take (i := 2) 67 (.pointer (some ⟨w.heap.size, 1, none⟩)) rfl rfl (by kernel_rfl) (by kernel_rfl) (by kernel_rfl) (by kernel_rfl) rfl (fun _ _ _ h => h) (fun w' hw' => by go_simp) S0.out ?_
                simp only [Act.put, List.setIfInBounds_toArray, List.set_cons_zero, List.set_cons_succ]
                refine early_take (i := 3) 68 (.int .i64 (xn : Int)) rfl rfl (by kernel_rfl) (by kernel_rfl) (by kernel_rfl) (by kernel_rfl) rfl (fun _ _ _ h => h) (fun w' hw' => by have hc0 := hw'.1.cell 1; go_simp) S0.out ?_
                simp only [Act.put, List.setIfInBounds_toArray, List.set_cons_zero, List.set_cons_succ]
                refine early_take (i := 4) 69 (.int .i64 ((xn - 4 : Nat) : Int)) rfl rfl (by kernel_rfl) (by kernel_rfl) (by kernel_rfl) (by kernel_rfl) rfl (fun _ _ _ h => h) (fun w' hw' => by go_simp; exact wrap_of (by omega) (by omega)) S0.out ?_
                simp only [Act.put, List.setIfInBounds_toArray, List.set_cons_zero, List.set_cons_succ]
                refine early_take (i := 5) 70 (.slice (some ⟨ba, oa + 11, none⟩) (xn - 4 - 11) (xc - 11)) rfl rfl (by kernel_rfl) (by kernel_rfl) (by kernel_rfl) (by kernel_rfl) rfl (fun _ _ _ h => h) (fun w' hw' => by go_simp; rw [if_pos (by omega), if_neg (by omega)]) S0.out ?_
                simp only [Act.put, List.setIfInBounds_toArray, List.set_cons_zero, List.set_cons_succ]
                refine early_only (i := 6) (by kernel_rfl) rfl (fun K hK => ?_)
                simp only [opWp, List.getElem?_toArray, List.getElem?_cons_succ, List.getElem?_cons_zero]
                refine wp_append_has (.tmp 65) (.tmp 70) rfl (w.heap.size + 1 + 1 + 1) v M.length M rfl E.out.own ⟨ba, oa + 11, none⟩ (xn - 4 - 11) (xc - 11) (inner xn Bk) rfl (by have h9 := (H.out.take (xn - 4) (by omega)).drop 11 (by omega); exact h9) (by have := IL.out; omega) E.out.base ?_
                intro A8 c8 u8 hown hgr hwh
                obtain ⟨hbx, hE8⟩ := E.out.push hown hgr hwh
                have E8 := Lib.hid hE8
                have sh8 := Lib.hid (show At u8 w.heap.size #[.int .i64 (m : Int), .int .i64 (xn : Int), .int .i64 (g : Int), .int .i64 (s : Int), .int .i64 (n : Int), .int .i64 (l : Int)] 32 ∧ At u8 gg #[v] 42 from ⟨E.out.shp.but ((But.refl (fun j => v.ownBlock = some j) _).grown hgr (fun j hj _ => hj)) (fun e => by have := (E.out.own.lt _ e).1; omega), hbx⟩)
                clear hown hgr hwh hE8 hbx
                refine hK _ _ (fun _ => sh8.out) ?_
                clear hK
                simp only [Act.put, List.setIfInBounds_toArray, List.set_cons_zero, List.set_cons_succ]
                refine early_only (i := 7) (by kernel_rfl) rfl (fun K hK => ?_)
                simp only [opWp, List.getElem?_toArray, List.getElem?_cons_succ, List.getElem?_cons_zero]
                have ca := sh8.out.2.cell 0
                have fa := sh8.out.2.frozen 0
                go_simp
                clear ca fa
                refine hK _ _ (fun h => by cases h) ?_
                refine early_done (by kernel_rfl) ?_
                clear hK S0 sh8
                go_wp2_with fail
                have E2 := E8.out
                rw [← IN.out] at E2
                exact ⟨⟨k + 1, _, by omega, by go_num, E2, AN.out W0.out⟩, by simp [intOf]; omega⟩
              · obtain rfl : o = true := hO.2 hmk
                have MK := Lib.hid hmk
                clear hO hE hH hmk
                have n0 := E.out.non.cell 0; have n1 := E.out.non.cell 1; have n2 := E.out.non.cell 2; have n3 := E.out.non.cell 3; have n4 := E.out.non.cell 4
                go_wp2_with (refine wpList_store_part rfl 37 (.tmp 6) (.tmp 64) rfl (w.heap.size + 1) 0 37 zcs zcs rfl rfl E.out.res size37 (by simp) (by simp [Value.oneCell']) ?_; intro w5 hat5 hb5; have R := Lib.hid (show At w5 (w.heap.size + 1) zcs 37 from hat5); have BB := Lib.hid hb5; clear hat5 hb5)
                refine bodyPost_ret (results_cell_slot (p := 6) (u := 7) (ty := 37) rfl _ _ (w.heap.size + 1) zcs _ rfl R.out Try.underlying37 size37) rfl ?_
                have WW := wrong_form (gen := gen) (i := k) LBk.out SE.out MK.out
                exact ⟨(Im.zero, 4), by have h9 := DP.out (by rw [WW]; decide); rw [WW] at h9; exact h9, Answer.empty (E.out.bel.trans (BB.out.below (fun x e => by omega) E.out.bel.size))⟩
          · have SE := Lib.hid hse
            rw [decide_eq_false (fun e => hse ((sealed_eq (by omega) LBk.out).1 e))]
            clear hse
            have n0 := E.out.non.cell 0; have n1 := E.out.non.cell 1; have n2 := E.out.non.cell 2; have n3 := E.out.non.cell 3; have n4 := E.out.non.cell 4
            go_wp2_with (refine wpList_store_part rfl 37 (.tmp 6) (.tmp 50) rfl (w.heap.size + 1) 0 37 zcs zcs rfl rfl E.out.res size37 (by simp) (by simp [Value.oneCell']) ?_; intro w5 hat5 hb5; have R := Lib.hid (show At w5 (w.heap.size + 1) zcs 37 from hat5); have BB := Lib.hid hb5; clear hat5 hb5)
            refine bodyPost_ret (results_cell_slot (p := 6) (u := 7) (ty := 37) rfl _ _ (w.heap.size + 1) zcs _ rfl R.out Try.underlying37 size37) rfl ?_
            have WW := wrong_sum (gen := gen) (i := k) LBk.out SE.out
            exact ⟨(Im.zero, 5), by have h9 := DP.out (by rw [WW]; decide); rw [WW] at h9; exact h9, Answer.empty (E.out.bel.trans (BB.out.below (fun x e => by omega) E.out.bel.size))⟩
        · have hx0 : ((xn : Int) != (b : Int)) = true := by simp; omega
          have n0 := E.out.non.cell 0; have n1 := E.out.non.cell 1; have n2 := E.out.non.cell 2; have n3 := E.out.non.cell 3; have n4 := E.out.non.cell 4
          go_wp2_with (refine wpList_store_part rfl 37 (.tmp 6) (.tmp 39) rfl (w.heap.size + 1) 0 37 zcs zcs rfl rfl E.out.res size37 (by simp) (by simp [Value.oneCell']) ?_; intro w5 hat5 hb5; have R := Lib.hid (show At w5 (w.heap.size + 1) zcs 37 from hat5); have BB := Lib.hid hb5; clear hat5 hb5)
          refine bodyPost_ret (results_cell_slot (p := 6) (u := 7) (ty := 37) rfl _ _ (w.heap.size + 1) zcs _ rfl R.out Try.underlying37 size37) rfl ?_
          have WW := wrong_size (gen := gen) (i := k) (show ¬ Bk.length = b by rw [LBk.out]; exact hxb)
          exact ⟨(Im.zero, 6), by have h9 := DP.out (by rw [WW]; decide); rw [WW] at h9; exact h9, Answer.empty (E.out.bel.trans (BB.out.below (fun x e => by omega) E.out.bel.size))⟩
      · obtain rfl : k = na := by omega
        have ALL := Lib.hid (show ∀ j (h : j < (byts L).length), wrong b gen j (byts L)[j] = 0 from fun j h => AL.out j h (by have := LB.out; omega))
        have DL := Lib.hid (show (inners b (byts L)).length = k * (b - 15) from by
          rw [inners_len b (byts L) (fun B hB => by
            obtain ⟨j, hj, e⟩ := List.getElem_of_mem hB
            rw [← e]
            exact right_len (ALL.out j hj)), LB.out])
        have E := Lib.hid (show Rdl w wr #[.int .i64 (m : Int), .int .i64 (b : Int), .int .i64 (g : Int), .int .i64 (s : Int), .int .i64 (n : Int), .int .i64 (l : Int)] gg v (inners b (byts L)) by have := E.out; rw [List.take_of_length_le (by rw [LB.out]; omega)] at this; exact this)
        have DG := Lib.hid (show ∀ x : Im × Nat, ((img (inners b (byts L)) g l).fine m g s ∧ None0 ((inners b (byts L)).drop (12 + 9 * g + 4 * l)) → x = (img (inners b (byts L)) g l, 0)) → (¬ ((img (inners b (byts L)) g l).fine m g s ∧ None0 ((inners b (byts L)).drop (12 + 9 * g + 4 * l))) → x = (Im.zero, 4)) → Dec m b g s l k gen (byts L) x from fun x h1 h2 => by
          by_cases hf : (img (inners b (byts L)) g l).fine m g s ∧ None0 ((inners b (byts L)).drop (12 + 9 * g + 4 * l))
          · rw [h1 hf]; exact Dec.good LB.out ALL.out hf.1 hf.2
          · rw [h2 hf]; exact Dec.form LB.out ALL.out hf)
        generalize inners b (byts L) = D at *
        clear AL ALL HH
        have hDl : 12 + 9 * g + 4 * l ≤ D.length ∧ D.length ≤ 60000 := ⟨by rw [DL.out]; exact NG.out, by rw [DL.out]; exact NM.out⟩
        obtain ⟨AD, cD, hv, hcD, hmD, _, hhD, hxD⟩ := own_slice E.out.own
        subst hv
        have HD := Lib.hid hhD
        have CD := Lib.hid (And.intro hcD hmD)
        have XD := Lib.hid hxD
        clear hcD hmD hhD hxD DL
        have hq : fld D 0 8 < 18446744073709551616 := fld_lt D 0 8
        have hz : fld D 8 2 < 65536 := fld_lt D 8 2
        have hix : fld D 10 2 < 65536 := fld_lt D 10 2
        go_wp2_with fail
        refine (at_any gg AD D.length cD D 0 8 wr (by omega) (by omega) (by omega) E.out.bx HD.out).mono ?_
        rintro e w2 ⟨rfl, rfl⟩
        go_wp2_with fail
        refine (at_any gg AD D.length cD D 8 2 wr (by omega) (by omega) (by omega) E.out.bx HD.out).mono ?_
        rintro e w2 ⟨rfl, rfl⟩
        go_wp2_with fail
        refine (at_any gg AD D.length cD D 10 2 wr (by omega) (by omega) (by omega) E.out.bx HD.out).mono ?_
        rintro e w2 ⟨rfl, rfl⟩
        obtain ⟨q, hqe⟩ : ∃ y, y = fld D 0 8 := ⟨_, rfl⟩
        obtain ⟨z, hze⟩ : ∃ y, y = fld D 8 2 := ⟨_, rfl⟩
        obtain ⟨ix, hxe⟩ : ∃ y, y = fld D 10 2 := ⟨_, rfl⟩
        rw [← hqe] at hq ⊢
        rw [← hze] at hz ⊢
        rw [← hxe] at hix ⊢
        have QQ := Lib.hid hqe
        have ZZ := Lib.hid hze
        have XX := Lib.hid hxe
        clear hqe hze hxe
        go_upto_region 18 with (fail)
        have RX := Lib.hid (show Rdx w (wr.alloc (.cells #[.int .u64 (q : Int), .int .i64 ((z : Int) - 1), .int .i64 (ix : Int), .slice none 0 0, .slice none 0 0] 37)) #[.int .i64 (m : Int), .int .i64 (b : Int), .int .i64 (g : Int), .int .i64 (s : Int), .int .i64 (n : Int), .int .i64 (l : Int)] gg wr.heap.size (.slice AD D.length cD) D q z ix (.slice none 0 0) (.slice none 0 0) [] [] from ⟨E.out.up (BB1 _ _), At.new _ _ rfl, World.ownsRow_nil _ _ _ _, World.ownsRow_nil _ _ _ _, fun j hj => by simp [Value.ownBlock] at hj, E.out.bx.lt, fun j hj => (E.out.own.lt j hj).2⟩)
        have HD := Lib.hid (HD.out.below (BB1 wr (.cells #[.int .u64 (q : Int), .int .i64 ((z : Int) - 1), .int .i64 (ix : Int), .slice none 0 0, .slice none 0 0] 37)))
        go_cut [14, 15] (fun s14 s15 wx => ∃ o : Bool, s14 = .bool o ∧ s15 = .int .i64 12 ∧ (o = true ↔ (z ≤ g ∧ ix < s)) ∧ wx = wr.alloc (.cells #[.int .u64 (q : Int), .int .i64 ((z : Int) - 1), .int .i64 (ix : Int), .slice none 0 0, .slice none 0 0] 37))
        case first =>
          have k2 := RX.out.r.shp.cell 2; have k3 := RX.out.r.shp.cell 3
          by_cases h1 : z ≤ g
          · have q1 : decide ((z : Int) - 1 < (g : Int)) = true := decide_eq_true (by omega)
            by_cases h2 : ix < s
            · have q2 : decide ((ix : Int) < (s : Int)) = true := decide_eq_true (by omega)
              go_wp2
              go_meet
              exact ⟨true, rfl, rfl, ⟨fun _ => ⟨h1, h2⟩, fun _ => rfl⟩, rfl⟩
            · have q2 : decide ((ix : Int) < (s : Int)) = false := decide_eq_false (by omega)
              go_wp2
              go_meet
              exact ⟨false, rfl, rfl, ⟨fun h => (by cases h), fun h => (h2 h.2).elim⟩, rfl⟩
          · have q1 : decide ((z : Int) - 1 < (g : Int)) = false := decide_eq_false (by omega)
            go_wp2
            go_meet
            exact ⟨false, rfl, rfl, ⟨fun h => (by cases h), fun h => (h1 h.1).elim⟩, rfl⟩
        case rest =>
          obtain ⟨o, rfl, rfl, hO, rfl⟩ := hcut
          have OO := Lib.hid hO
          clear hO E
          generalize wr.alloc (.cells #[.int .u64 (q : Int), .int .i64 ((z : Int) - 1), .int .i64 (ix : Int), .slice none 0 0, .slice none 0 0] 37) = w3 at *
          generalize wr.heap.size = P0 at *
          have k2 := RX.out.r.shp.cell 2
          go_wp2
          clear k2
          go_loopw [14, 15, 98] (fun s14 s15 i wr => ∃ (j : Nat) (o : Bool) (vG : Value), j ≤ g ∧ i = .int .i64 j ∧ s14 = .bool o ∧ (∃ kk : Nat, s15 = .int .i64 (kk : Int) ∧ Hid (kk = 12 + 9 * j)) ∧ (o = true ↔ ((z ≤ g ∧ ix < s) ∧ Low (sgUpto D j))) ∧ Rdx w wr #[.int .i64 (m : Int), .int .i64 (b : Int), .int .i64 (g : Int), .int .i64 (s : Int), .int .i64 (n : Int), .int .i64 (l : Int)] gg P0 (.slice AD D.length cD) D q z ix vG (.slice none 0 0) (sgUpto D j) []) (fun _ _ i _ => g - (intOf i).toNat)
          case atStart => exact ⟨0, o, _, Nat.zero_le _, rfl, rfl, ⟨12, rfl, Lib.hid rfl⟩, ⟨fun e => ⟨OO.out.1 e, fun x hx => (by cases hx)⟩, fun e => OO.out.2 e.1⟩, RX.out⟩
          case round =>
            clear RX HD OO
            obtain ⟨j, o, vG, hj, rfl, rfl, ⟨kk, rfl, KE⟩, hO, hX⟩ := hrel
            have RX := Lib.hid hX
            have HD := Lib.hid (own_has hX.r.own)
            have OO := Lib.hid hO
            clear hX hO
            by_cases hlt2 : j < g
            · have hjd : 12 + 9 * j < D.length := by omega
              have hkb : kk + 9 ≤ D.length := by rw [KE.out]; omega
              obtain ⟨bd, od, rfl⟩ := HD.out.some_ (by omega)
              have hc := HD.out.cell kk (by omega)
              have FB := Lib.hid (fld_byte D (12 + 9 * j) hjd)
              have hX1 := lt8 D[12 + 9 * j]
              have hY1 : fld D (12 + 9 * j + 1) 8 < 18446744073709551616 := fld_lt D _ 8
              have eD : D[kk]'(by omega) = D[12 + 9 * j] := by simp only [KE.out]
              rw [eD] at hc
              obtain ⟨X, hXX⟩ : ∃ y, D[12 + 9 * j].toNat = y := ⟨_, rfl⟩
              rw [hXX] at hc FB hX1
              have HXX := Lib.hid hXX
              clear eD hXX
              have EN := Lib.hid (sgUpto_next D j)
              have LP := Lib.hid (low_push D j)
              have SA := Lib.hid (show sgAt D j = ⟨X, fld D (12 + 9 * j + 1) 8⟩ by unfold sgAt; rw [FB.out])
              rw [FB.out] at LP
              obtain ⟨Y, hYe⟩ : ∃ y, y = fld D (12 + 9 * j + 1) 8 := ⟨_, rfl⟩
              rw [← hYe] at hY1 SA
              have YE := Lib.hid (show fld D (kk + 1) 8 = Y by rw [KE.out, hYe])
              have hcD := CD.out.1
              have hcD2 := CD.out.2
              unfold maxLen at hcD2
              clear hYe FB
              go_wp2_with fail
              refine wp_region_early (fun w' : World => At w' P0 #[.int .u64 (q : Int), .int .i64 ((z : Int) - 1), .int .i64 (ix : Int), vG, .slice none 0 0] 37 ∧ At w' gg #[.slice (some ⟨bd, od, none⟩) D.length cD] 42 ∧ w'.cell? ⟨bd, od + kk, none⟩ = some (.int .u8 (X : Int))) (fun i => i != 15) (by kernel_rfl) ?_
              change wpEarly _ _ _ _ _ _ 16 (Array.replicate 16 false) _ wr.drew
              have RX := Lib.hid (RX.out.up (below_drew (Below.refl _ _)))
              have HD := Lib.hid (HD.out.below (below_drew (Below.refl _ _)))
              have S0 := Lib.hid (show At wr.drew P0 #[.int .u64 (q : Int), .int .i64 ((z : Int) - 1), .int .i64 (ix : Int), vG, .slice none 0 0] 37 ∧ At wr.drew gg #[.slice (some ⟨bd, od, none⟩) D.length cD] 42 ∧ wr.drew.cell? ⟨bd, od + kk, none⟩ = some (.int .u8 (X : Int)) from ⟨RX.out.box, RX.out.r.bx, hc⟩)
              generalize wr.drew = wa at *
              have BDL := Lib.hid (HD.out.lt (by omega))
              clear hc
              refine early_take (i := 0) 100 (.pointer (some ⟨P0, 3, none⟩)) rfl rfl (by kernel_rfl) (by kernel_rfl) (by kernel_rfl) (by kernel_rfl) rfl (fun _ _ _ h => h) (fun w' hw' => by go_simp) S0.out ?_
              simp only [Act.put, List.setIfInBounds_toArray, List.set_cons_zero, List.set_cons_succ]
              refine early_take (i := 1) 101 vG rfl rfl (by kernel_rfl) (by kernel_rfl) (by kernel_rfl) (by kernel_rfl) rfl (fun _ _ _ h => h) (fun w' hw' => by have hc0 := hw'.1.cell 3; go_simp) S0.out ?_
              simp only [Act.put, List.setIfInBounds_toArray, List.set_cons_zero, List.set_cons_succ]
              refine early_take (i := 2) 102 (.slice (some ⟨bd, od, none⟩) D.length cD) rfl rfl (by kernel_rfl) (by kernel_rfl) (by kernel_rfl) (by kernel_rfl) rfl (fun _ _ _ h => h) (fun w' hw' => by have hc0 := hw'.2.1.cell 0; go_simp) S0.out ?_
              simp only [Act.put, List.setIfInBounds_toArray, List.set_cons_zero, List.set_cons_succ]
              refine early_take (i := 3) 103 (.int .i64 (kk : Int)) rfl rfl (by kernel_rfl) (by kernel_rfl) (by kernel_rfl) (by kernel_rfl) rfl (fun _ _ _ h => h) (fun w' hw' => by go_simp) S0.out ?_
              simp only [Act.put, List.setIfInBounds_toArray, List.set_cons_zero, List.set_cons_succ]
              refine early_take (i := 4) 104 (.pointer (some ⟨bd, od + kk, none⟩)) rfl rfl (by kernel_rfl) (by kernel_rfl) (by kernel_rfl) (by kernel_rfl) rfl (fun _ _ _ h => h) (fun w' hw' => by go_simp; intro h9; omega) S0.out ?_
              simp only [Act.put, List.setIfInBounds_toArray, List.set_cons_zero, List.set_cons_succ]
              refine early_take (i := 5) 105 (.int .u8 (X : Int)) rfl rfl (by kernel_rfl) (by kernel_rfl) (by kernel_rfl) (by kernel_rfl) rfl (fun _ _ _ h => h) (fun w' hw' => by have hc0 := hw'.2.2; go_simp) S0.out ?_
              simp only [Act.put, List.setIfInBounds_toArray, List.set_cons_zero, List.set_cons_succ]
              refine early_take (i := 6) 106 (.int .i64 (X : Int)) rfl rfl (by kernel_rfl) (by kernel_rfl) (by kernel_rfl) (by kernel_rfl) rfl (fun _ _ _ h => h) (fun w' hw' => by go_simp; exact wrap_of (by omega) (by omega)) S0.out ?_
              simp only [Act.put, List.setIfInBounds_toArray, List.set_cons_zero, List.set_cons_succ]
              refine early_take (i := 7) 107 (.func (.func 41) #[] #[.pointer (some ⟨gg, 0, none⟩)]) rfl rfl (by kernel_rfl) (by kernel_rfl) (by kernel_rfl) (by kernel_rfl) rfl (fun _ _ _ h => h) (fun w' hw' => by go_simp) S0.out ?_
              simp only [Act.put, List.setIfInBounds_toArray, List.set_cons_zero, List.set_cons_succ]
              refine early_take (i := 8) 108 (.int .i64 (kk : Int)) rfl rfl (by kernel_rfl) (by kernel_rfl) (by kernel_rfl) (by kernel_rfl) rfl (fun _ _ _ h => h) (fun w' hw' => by go_simp) S0.out ?_
              simp only [Act.put, List.setIfInBounds_toArray, List.set_cons_zero, List.set_cons_succ]
              refine early_take (i := 9) 109 (.int .i64 ((kk + 1 : Nat) : Int)) rfl rfl (by kernel_rfl) (by kernel_rfl) (by kernel_rfl) (by kernel_rfl) rfl (fun _ _ _ h => h) (fun w' hw' => by go_simp; exact wrap_of (by omega) (by omega)) S0.out ?_
              simp only [Act.put, List.setIfInBounds_toArray, List.set_cons_zero, List.set_cons_succ]
              refine early_only (i := 10) (by kernel_rfl) rfl (fun K hK => ?_)
              simp only [opWp, List.getElem?_toArray, List.getElem?_cons_succ, List.getElem?_cons_zero]
              go_simp
              go_at_call 41
              refine (at_any gg (some ⟨bd, od, none⟩) D.length cD D (kk + 1) 8 wa (by omega) (by omega) (by omega) RX.out.r.bx HD.out).mono ?_
              rintro e wz ⟨rfl, rfl⟩
              rw [YE.out]
              refine hK _ _ (fun _ => S0.out) ?_
              clear hK
              refine early_take (i := 11) 111 (.agg #[.int .i64 (X : Int), .int .u64 (Y : Int)]) rfl rfl (by kernel_rfl) (by kernel_rfl) (by kernel_rfl) (by kernel_rfl) rfl (fun _ _ _ h => h) (fun w' hw' => by go_simp) S0.out ?_
              simp only [Act.put, List.setIfInBounds_toArray, List.set_cons_zero, List.set_cons_succ]
              refine early_only (i := 12) (by kernel_rfl) rfl (fun K hK => ?_)
              simp only [opWp, List.getElem?_toArray, List.getElem?_cons_succ, List.getElem?_cons_zero]
              go_simp
              have SR := Lib.hid (seg_src (w := wa.alloc (.cells #[.int .i64 (X : Int), .int .u64 (Y : Int)] 58)) ⟨X, Y⟩ (At.new (w := wa) (g := wa.heap.size) _ 58 rfl))
              have BA := Lib.hid (BB1 wa (.cells #[.int .i64 (X : Int), .int .u64 (Y : Int)] 58))
              have S0 := Lib.hid (show At (wa.alloc (.cells #[.int .i64 (X : Int), .int .u64 (Y : Int)] 58)) P0 #[.int .u64 (q : Int), .int .i64 ((z : Int) - 1), .int .i64 (ix : Int), vG, .slice none 0 0] 37 ∧ At (wa.alloc (.cells #[.int .i64 (X : Int), .int .u64 (Y : Int)] 58)) gg #[.slice (some ⟨bd, od, none⟩) D.length cD] 42 ∧ (wa.alloc (.cells #[.int .i64 (X : Int), .int .u64 (Y : Int)] 58)).cell? ⟨bd, od + kk, none⟩ = some (.int .u8 (X : Int)) from ⟨S0.out.1.alloc _, S0.out.2.1.alloc _, (BA.out.cell (p := ⟨bd, od + kk, none⟩) BDL.out).trans S0.out.2.2⟩)
              have OG := Lib.hid (show (wa.alloc (.cells #[.int .i64 (X : Int), .int .u64 (Y : Int)] 58)).ownsRow (P0 + 1) 58 2 vG j (flat (sgUpto D j)) by have := own_below RX.out.og BA.out; rw [sgUpto_len] at this; exact this)
              have PW := Lib.hid (show P0 + 1 ≤ (wa.alloc (.cells #[.int .i64 (X : Int), .int .u64 (Y : Int)] 58)).heap.size by have := RX.out.box.lt; simp; omega)
              refine hK _ _ (fun _ => S0.out) ?_
              clear hK
              refine early_only (i := 13) (by kernel_rfl) rfl (fun K hK => ?_)
              simp only [opWp, List.getElem?_toArray, List.getElem?_cons_succ, List.getElem?_cons_zero]
              refine wp_append_seg (.tmp 101) (.tmp 112) rfl (P0 + 1) vG j (sgUpto D j) rfl OG.out ⟨wa.heap.size, 0, none⟩ 1 1 [⟨X, Y⟩] rfl rfl SR.out (by omega) PW.out ?_
              intro A8 c8 u8 hown hgr hwh
              obtain ⟨hbx, hR8⟩ := RX.out.pushG BA.out hown hgr hwh
              have R8 := Lib.hid hR8
              have bt := (But.refl (fun x => vG.ownBlock = some x) _).grown hgr (fun x hx _ => hx)
              have S8 := Lib.hid (show At u8 P0 #[.int .u64 (q : Int), .int .i64 ((z : Int) - 1), .int .i64 (ix : Int), vG, .slice none 0 0] 37 ∧ At u8 gg #[.slice (some ⟨bd, od, none⟩) D.length cD] 42 ∧ u8.cell? ⟨bd, od + kk, none⟩ = some (.int .u8 (X : Int)) from ⟨hbx, S0.out.2.1.but bt (fun e => by have := (OG.out.lt _ e).1; have := RX.out.lt.1; omega), (bt.cell (p := ⟨bd, od + kk, none⟩) (by have := BA.out.size; have := BDL.out; show bd < _; omega) (fun e => by have := (OG.out.lt _ e).1; have h9 : bd < P0 := RX.out.lt.2 bd rfl; have : P0 + 1 ≤ bd := this; omega)).trans S0.out.2.2⟩)
              clear hown hgr hwh hR8 hbx bt
              refine hK _ _ (fun _ => S8.out) ?_
              clear hK
              simp only [Act.put, List.setIfInBounds_toArray, List.set_cons_zero, List.set_cons_succ]
              refine early_take (i := 14) 114 (.pointer (some ⟨P0, 3, none⟩)) rfl rfl (by kernel_rfl) (by kernel_rfl) (by kernel_rfl) (by kernel_rfl) rfl (fun _ _ _ h => h) (fun w' hw' => by go_simp) S8.out ?_
              simp only [Act.put, List.setIfInBounds_toArray, List.set_cons_zero, List.set_cons_succ]
              refine early_only (i := 15) (by kernel_rfl) rfl (fun K hK => ?_)
              simp only [opWp, List.getElem?_toArray, List.getElem?_cons_succ, List.getElem?_cons_zero]
              have ca := S8.out.1.cell 3
              have fa := S8.out.1.frozen 3
              go_simp
              clear ca fa
              refine hK _ _ (fun h => by cases h) ?_
              refine early_done (by kernel_rfl) ?_
              clear hK S0 S8 OG SR BA PW RX HD BDL
              generalize u8.setCell ⟨P0, 3, none⟩ (.slice A8 (j + 1) c8) = w5 at *
              have hxr : Rdx w w5 #[.int .i64 (m : Int), .int .i64 (b : Int), .int .i64 (g : Int), .int .i64 (s : Int), .int .i64 (n : Int), .int .i64 (l : Int)] gg P0 (.slice (some ⟨bd, od, none⟩) D.length cD) D q z ix (.slice A8 (j + 1) c8) (.slice none 0 0) (sgUpto D (j + 1)) [] := by have h9 := R8.out; rw [← SA.out, ← EN.out] at h9; exact h9
              have RX := Lib.hid hxr
              have HD := Lib.hid (own_has hxr.r.own)
              have hc := HD.out.cell kk (by omega)
              have b0 := hxr.r.bx.cell 0
              clear hxr
              have eD : D[kk]'(by omega) = D[12 + 9 * j] := by simp only [KE.out]
              rw [eD, HXX.out] at hc
              clear eD
              cases o
              · have B2 := Lib.hid (show ¬ ((z ≤ g ∧ ix < s) ∧ Low (sgUpto D j)) from fun h => by have := OO.out.2 h; cases this)
                clear OO
                go_wp2_with fail
                refine ⟨⟨j + 1, false, _, by omega, by go_num, rfl, ⟨kk + 9, by go_num, Lib.hid (by rw [KE.out]; omega)⟩, ⟨fun h => (by cases h), fun h => (B2.out ⟨h.1, (LP.out.1 h.2).1⟩).elim⟩, RX.out⟩, by simp [intOf]; omega⟩
              · have B2 := Lib.hid (OO.out.1 rfl)
                clear OO
                by_cases hx3 : X < 3
                · have q3 : decide ((X : Int) < 3) = true := decide_eq_true (by omega)
                  go_wp2_with fail
                  refine ⟨⟨j + 1, true, _, by omega, by go_num, rfl, ⟨kk + 9, by go_num, Lib.hid (by rw [KE.out]; omega)⟩, ⟨fun _ => ⟨B2.out.1, LP.out.2 ⟨B2.out.2, by omega⟩⟩, fun _ => rfl⟩, RX.out⟩, by simp [intOf]; omega⟩
                · have q3 : decide ((X : Int) < 3) = false := decide_eq_false (by omega)
                  go_wp2_with fail
                  refine ⟨⟨j + 1, false, _, by omega, by go_num, rfl, ⟨kk + 9, by go_num, Lib.hid (by rw [KE.out]; omega)⟩, ⟨fun h => (by cases h), fun h => (by have := (LP.out.1 h.2).2; omega)⟩, RX.out⟩, by simp [intOf]; omega⟩
            · obtain rfl : j = g := by omega
              have B3 := Lib.hid (show (o = true ↔ ((z ≤ j ∧ ix < s) ∧ Low (sgUpto D j))) from OO.out)
              clear OO HD
              obtain ⟨GS, hGS⟩ : ∃ y, y = j * s := ⟨_, rfl⟩
              obtain ⟨T, hT⟩ : ∃ y, y = GS * (m - 2) := ⟨_, rfl⟩
              have hgs : (j : Int) * (s : Int) = (GS : Int) := by rw [hGS, Int.natCast_mul]
              have hGSb : GS ≤ 1024 := by rw [hGS]; exact Nat.le_trans (Nat.mul_le_mul (show j ≤ 64 by omega) (show s ≤ 16 by omega)) (by decide)
              have hTi : (GS : Int) * ((m : Int) - 2) = (T : Int) := by rw [hT, Int.natCast_mul, show ((m - 2 : Nat) : Int) = (m : Int) - 2 by omega]
              have hTb : T ≤ 14336 := by rw [hT]; exact Nat.le_trans (Nat.mul_le_mul hGSb (show m - 2 ≤ 14 by omega)) (by decide)
              have TE := Lib.hid (show T = j * s * (m - 2) by rw [hT, hGS])
              clear hGS hT
              have k5 := RX.out.r.shp.cell 5
              go_wp2
              clear k5
              go_loopw [14, 15, 128] (fun s14 s15 i wr => ∃ (j2 : Nat) (o2 : Bool) (vM : Value), j2 ≤ l ∧ i = .int .i64 j2 ∧ s14 = .bool o2 ∧ (∃ kk : Nat, s15 = .int .i64 (kk : Int) ∧ Hid (kk = 12 + 9 * j + 4 * j2)) ∧ (o2 = true ↔ (((z ≤ j ∧ ix < s) ∧ Low (sgUpto D j)) ∧ Under T (mpUpto D (12 + 9 * j) j2))) ∧ Rdx w wr #[.int .i64 (m : Int), .int .i64 (b : Int), .int .i64 (j : Int), .int .i64 (s : Int), .int .i64 (n : Int), .int .i64 (l : Int)] gg P0 (.slice AD D.length cD) D q z ix vG vM (sgUpto D j) (mpUpto D (12 + 9 * j) j2)) (fun _ _ i _ => l - (intOf i).toNat)
              case atStart => exact ⟨0, o, _, Nat.zero_le _, rfl, rfl, ⟨kk, rfl, Lib.hid (by rw [KE.out]; omega)⟩, ⟨fun e => ⟨B3.out.1 e, fun x hx => (by cases hx)⟩, fun e => B3.out.2 e.1⟩, RX.out⟩
              case round =>
                clear RX B3 KE hlt2
                obtain ⟨j2, o2, vM, hj2, rfl, rfl, ⟨kk, rfl, KE⟩, hO, hX⟩ := hrel
                have RX := Lib.hid hX
                have HD := Lib.hid (own_has hX.r.own)
                have OO := Lib.hid hO
                clear hX hO
                by_cases hlt2 : j2 < l
                · have hkb : kk + 4 ≤ D.length := by rw [KE.out]; omega
                  have hY1 : fld D kk 4 < 4294967296 := fld_lt D _ 4
                  have EN := Lib.hid (mpUpto_next D (12 + 9 * j) j2)
                  have UP := Lib.hid (under_push D (12 + 9 * j) T j2)
                  have MA := Lib.hid (show mpAt D (12 + 9 * j) j2 = fld D kk 4 by unfold mpAt; rw [KE.out])
                  rw [← KE.out] at UP
                  have OM := Lib.hid (show wr.ownsRow (P0 + 1) 3 1 vM j2 (ints (mpUpto D (12 + 9 * j) j2)) by have := RX.out.om; rw [mpUpto_len] at this; exact this)
                  go_wp2_with fail
                  refine (at_any gg AD D.length cD D kk 4 wr (by omega) (by omega) (by omega) RX.out.r.bx HD.out).mono ?_
                  rintro e wz ⟨rfl, rfl⟩
                  obtain ⟨Y, hYe⟩ : ∃ y, y = fld D kk 4 := ⟨_, rfl⟩
                  rw [← hYe] at hY1 UP MA ⊢
                  clear hYe
                  have b4 := RX.out.box.cell 4
                  have PW := Lib.hid (show P0 + 1 ≤ wr.heap.size from RX.out.box.lt)
                  cases o2
                  · have B2 := Lib.hid (show ¬ (((z ≤ j ∧ ix < s) ∧ Low (sgUpto D j)) ∧ Under T (mpUpto D (12 + 9 * j) j2)) from fun h => by have := OO.out.2 h; cases this)
                    clear OO
                    go_wp2_with (at_builtin; refine wpList_append_int rfl (.tmp 136) (.tmp 138) rfl (P0 + 1) vM j2 (mpUpto D (12 + 9 * j) j2) rfl (own_below OM.out (BB1 _ _)) ⟨wr.heap.size, 0, none⟩ 1 1 [Y] rfl rfl (int_src _ (At.new _ 3 rfl) rfl) (by omega) (by have := PW.out; simp; omega) ?_; intro A3 c3 w3 hown3 hg3 hf3; obtain ⟨at3, hR⟩ := RX.out.pushM (BB1 wr _) hown3 hg3 hf3; have ce3 := at3.cell 4; have f3 := at3.frozen 4; have R := Lib.hid hR; have e0 := hR.r.shp.cell 0; have e2 := hR.r.shp.cell 2; have e3 := hR.r.shp.cell 3; clear hown3 hg3 hf3 at3 hR)
                    have R2 := R.out
                    rw [← MA.out, ← EN.out] at R2
                    exact ⟨⟨j2 + 1, false, _, by omega, by go_num, rfl, ⟨kk + 4, by go_num, Lib.hid (by rw [KE.out]; omega)⟩, ⟨fun h => (by cases h), fun h => (B2.out ⟨h.1, (UP.out.1 h.2).1⟩).elim⟩, R2⟩, by simp [intOf]; omega⟩
                  · have B2 := Lib.hid (OO.out.1 rfl)
                    clear OO
                    by_cases hy : Y ≤ T
                    · have q3 : decide ((Y : Int) - 1 < (T : Int)) = true := decide_eq_true (by omega)
                      go_wp2_with (at_builtin; refine wpList_append_int rfl (.tmp 136) (.tmp 138) rfl (P0 + 1) vM j2 (mpUpto D (12 + 9 * j) j2) rfl (own_below OM.out (BB1 _ _)) ⟨wr.heap.size, 0, none⟩ 1 1 [Y] rfl rfl (int_src _ (At.new _ 3 rfl) rfl) (by omega) (by have := PW.out; simp; omega) ?_; intro A3 c3 w3 hown3 hg3 hf3; obtain ⟨at3, hR⟩ := RX.out.pushM (BB1 wr _) hown3 hg3 hf3; have ce3 := at3.cell 4; have f3 := at3.frozen 4; have R := Lib.hid hR; have e0 := hR.r.shp.cell 0; have e2 := hR.r.shp.cell 2; have e3 := hR.r.shp.cell 3; clear hown3 hg3 hf3 at3 hR)
                      have R2 := R.out
                      rw [← MA.out, ← EN.out] at R2
                      exact ⟨⟨j2 + 1, true, _, by omega, by go_num, rfl, ⟨kk + 4, by go_num, Lib.hid (by rw [KE.out]; omega)⟩, ⟨fun _ => ⟨B2.out.1, UP.out.2 ⟨B2.out.2, hy⟩⟩, fun _ => rfl⟩, R2⟩, by simp [intOf]; omega⟩
                    · have q3 : decide ((Y : Int) - 1 < (T : Int)) = false := decide_eq_false (by omega)
                      go_wp2_with (at_builtin; refine wpList_append_int rfl (.tmp 136) (.tmp 138) rfl (P0 + 1) vM j2 (mpUpto D (12 + 9 * j) j2) rfl (own_below OM.out (BB1 _ _)) ⟨wr.heap.size, 0, none⟩ 1 1 [Y] rfl rfl (int_src _ (At.new _ 3 rfl) rfl) (by omega) (by have := PW.out; simp; omega) ?_; intro A3 c3 w3 hown3 hg3 hf3; obtain ⟨at3, hR⟩ := RX.out.pushM (BB1 wr _) hown3 hg3 hf3; have ce3 := at3.cell 4; have f3 := at3.frozen 4; have R := Lib.hid hR; have e0 := hR.r.shp.cell 0; have e2 := hR.r.shp.cell 2; have e3 := hR.r.shp.cell 3; clear hown3 hg3 hf3 at3 hR)
                      have R2 := R.out
                      rw [← MA.out, ← EN.out] at R2
                      exact ⟨⟨j2 + 1, false, _, by omega, by go_num, rfl, ⟨kk + 4, by go_num, Lib.hid (by rw [KE.out]; omega)⟩, ⟨fun h => (by cases h), fun h => (hy (UP.out.1 h.2).2).elim⟩, R2⟩, by simp [intOf]; omega⟩
                · obtain rfl : j2 = l := by omega
                  have B4 := Lib.hid (show (o2 = true ↔ (img D j j2).fine m j s) from by
                    rw [fine_iff]
                    show _ ↔ ((fld D 8 2 ≤ j ∧ fld D 10 2 < s) ∧ Low (sgUpto D j) ∧ Under (j * s * (m - 2)) (mpUpto D (12 + 9 * j) j2))
                    rw [← ZZ.out, ← XX.out, ← TE.out, OO.out, and_assoc])
                  have hkk : kk ≤ D.length := by rw [KE.out]; omega
                  have hcD := CD.out.1
                  have hcD2 := CD.out.2
                  unfold maxLen at hcD2
                  clear OO hgs hGSb hTi hTb TE
                  go_upto_region 32 with (fail)
                  go_cut [160, 161, 162] (fun s160 s161 s162 wx => ∃ A2 c2, s160 = .slice A2 (D.length - kk) c2 ∧ s161 = .int .i64 ((D.length - kk : Nat) : Int) ∧ s162 = .int .i64 0 ∧ Has wr A2 (D.length - kk) (D.drop kk) ∧ wx = wr)
                  case first =>
                    have b0 := RX.out.r.bx.cell 0
                    obtain ⟨bd, od, rfl⟩ := HD.out.some_ (by omega)
                    by_cases e0 : cD = kk
                    · have e1 : D.length - kk = 0 := by omega
                      go_wp2
                      go_meet
                      exact ⟨some ⟨bd, od, none⟩, cD - kk, by simp [e0, e1], by simp [e1], rfl, by rw [e1, List.drop_of_length_le (by omega)]; exact Has.nil _ _, rfl⟩
                    · go_wp2
                      go_meet
                      exact ⟨some ⟨bd, od + kk, none⟩, cD - kk, by simp, rfl, rfl, HD.out.drop kk hkk, rfl⟩
                  case rest =>
                    obtain ⟨A2, c2, rfl, rfl, rfl, hR2, rfl⟩ := hcut
                    have HR := Lib.hid hR2
                    have LR := Lib.hid hR2.1
                    have hN : D.length - kk ≤ 60000 := by omega
                    obtain ⟨N, hNe⟩ : ∃ y, y = D.length - kk := ⟨_, rfl⟩
                    rw [← hNe] at HR LR hN ⊢
                    have DGE := Lib.hid (show D.drop (12 + 9 * j + 4 * j2) = D.drop kk by rw [KE.out])
                    rw [DGE.out] at DG
                    have KLEN := Lib.hid (show (D.drop kk).length = N from LR.out)
                    obtain ⟨Rs, hRs⟩ : ∃ y, y = D.drop kk := ⟨_, rfl⟩
                    rw [← hRs] at HR LR DG KLEN
                    clear hNe hRs hR2 DGE HD
                    go_wp2_with fail
                    go_loop [14, 162] (fun s14 i => ∃ (j3 : Nat) (o3 : Bool), j3 ≤ N ∧ i = .int .i64 j3 ∧ s14 = .bool o3 ∧ (o3 = true ↔ ((img D j j2).fine m j s ∧ None0 (Rs.take j3)))) (fun _ i => N - (intOf i).toNat)
                    case atStart => exact ⟨0, o2, Nat.zero_le _, rfl, rfl, ⟨fun e => ⟨B4.out.1 e, fun x hx => (by simp at hx)⟩, fun e => B4.out.2 e.1⟩⟩
                    case round =>
                      obtain ⟨j3, o3, hj3, rfl, rfl, hO⟩ := hrel
                      have OO := Lib.hid hO
                      clear hO
                      by_cases hlt3 : j3 < N
                      · obtain ⟨br, or, rfl⟩ := HR.out.some_ (by omega)
                        have hjr : j3 < Rs.length := by rw [KLEN.out]; exact hlt3
                        have hc := HR.out.cell j3 hlt3
                        have NP := Lib.hid (none0_push Rs j3 hjr)
                        obtain ⟨Xb, hXb⟩ : ∃ y, Rs[j3] = y := ⟨_, rfl⟩
                        rw [hXb] at hc NP
                        clear hXb
                        have hX8 := lt8 Xb
                        cases o3
                        · have B2 := Lib.hid (show ¬ ((img D j j2).fine m j s ∧ None0 (Rs.take j3)) from fun h => by have := OO.out.2 h; cases this)
                          clear OO
                          go_wp2
                          go_round
                          case rel => exact ⟨j3 + 1, false, by omega, by go_num, rfl, ⟨fun h => (by cases h), fun h => (B2.out ⟨h.1, (NP.out.1 h.2).1⟩).elim⟩⟩
                          case measure => simp [intOf]; omega
                        · have B2 := Lib.hid (OO.out.1 rfl)
                          clear OO
                          by_cases h0 : Xb = 0#8
                          · have q0 : ((Xb.toNat : Int) == 0) = true := by subst h0; rfl
                            go_wp2
                            go_round
                            case rel => exact ⟨j3 + 1, true, by omega, by go_num, rfl, ⟨fun _ => ⟨B2.out.1, NP.out.2 ⟨B2.out.2, h0⟩⟩, fun _ => rfl⟩⟩
                            case measure => simp [intOf]; omega
                          · have q0 : ((Xb.toNat : Int) == 0) = false := by
                              simp
                              intro e
                              exact h0 (BitVec.eq_of_toNat_eq (by simpa using e))
                            go_wp2
                            go_round
                            case rel => exact ⟨j3 + 1, false, by omega, by go_num, rfl, ⟨fun h => (by cases h), fun h => (h0 (NP.out.1 h.2).2).elim⟩⟩
                            case measure => simp [intOf]; omega
                      · obtain rfl : j3 = N := by omega
                        rw [List.take_of_length_le (by rw [KLEN.out]; omega)] at OO
                        cases o3
                        · have B2 := Lib.hid (show ¬ ((img D j j2).fine m j s ∧ None0 Rs) from fun h => by have := OO.out.2 h; cases this)
                          clear OO
                          have n0 := RX.out.r.non.cell 0; have n1 := RX.out.r.non.cell 1; have n2 := RX.out.r.non.cell 2; have n3 := RX.out.r.non.cell 3; have n4 := RX.out.r.non.cell 4
                          go_wp2_with (refine wpList_store_part rfl 37 (.tmp 6) (.tmp 174) rfl (w.heap.size + 1) 0 37 zcs zcs rfl rfl RX.out.r.res size37 (by simp) (by simp [Value.oneCell']) ?_; intro w5 hat5 hb5; have R := Lib.hid (show At w5 (w.heap.size + 1) zcs 37 from hat5); have BB := Lib.hid hb5; clear hat5 hb5)
                          refine bodyPost_ret (results_cell_slot (p := 6) (u := 7) (ty := 37) rfl _ _ (w.heap.size + 1) zcs _ rfl R.out Try.underlying37 size37) rfl ?_
                          exact ⟨Im.zero, 4, DG.out _ (fun h => (B2.out h).elim) (fun _ => rfl), Answer.empty (RX.out.r.bel.trans (BB.out.below (fun x e => by omega) RX.out.r.bel.size))⟩
                        · have B2 := Lib.hid (OO.out.1 rfl)
                          clear OO
                          obtain ⟨AG, cG, rfl, hSG, hAG⟩ := Sgs.of_own (show wc.ownsRow (P0 + 1) 58 2 vG j (flat (sgUpto D j)) by have := RX.out.og; rw [sgUpto_len] at this; exact this)
                          have OMX := Lib.hid (show wc.ownsRow (P0 + 1) 3 1 vM j2 (ints (mpUpto D (12 + 9 * j) j2)) by have := RX.out.om; rw [mpUpto_len] at this; exact this)
                          obtain ⟨AM, cM, rfl, _, _, hRM, _⟩ := Row.of_own OMX.out
                          have HA := Lib.hid hAG
                          have HB := Lib.hid (show ∀ x, AM = some x → P0 + 1 ≤ x.block from fun x e => by subst e; exact (OMX.out.lt x.block rfl).1)
                          have IM := Lib.hid (show Img wc AG j AM j2 (img D j j2) from ⟨hSG, hRM⟩)
                          clear hSG hRM hAG OMX
                          have n0 := RX.out.box.cell 0; have n1 := RX.out.box.cell 1; have n2 := RX.out.box.cell 2; have n3 := RX.out.box.cell 3; have n4 := RX.out.box.cell 4
                          have LTX := Lib.hid (show w.heap.size + 1 < P0 by have := RX.out.lt.1; have := RX.out.r.gl; omega)
                          go_wp2_with (refine wpList_store_part rfl 37 (.tmp 6) (.tmp 175) rfl (w.heap.size + 1) 0 37 zcs (ics q z ix AG j cG AM j2 cM) rfl rfl RX.out.r.res size37 (by simp) (ics_one _ _ _ _ _ _ _ _ _) ?_; intro w5 hat5 hb5; have R := Lib.hid (show At w5 (w.heap.size + 1) (ics q z ix AG j cG AM j2 cM) 37 from hat5); have BB := Lib.hid hb5; clear hat5 hb5)
                          refine bodyPost_ret (results_cell_slot (p := 6) (u := 7) (ty := 37) rfl _ _ (w.heap.size + 1) (ics q z ix AG j cG AM j2 cM) _ rfl R.out Try.underlying37 size37) rfl ?_
                          refine ⟨img D j j2, 0, DG.out _ (fun _ => rfl) (fun h => (h B2.out).elim), ?_⟩
                          have h9 := Answer.good (w := w) (x := img D j j2) (c := cG) (d := cM) (IM.out.but BB.out (fun h0 x hx e => by have := HA.out x hx; have := LTX.out; omega) (fun h0 x hx e => by have := HB.out x hx; have := LTX.out; omega)) (RX.out.r.bel.trans (BB.out.below (fun x e => by omega) RX.out.r.bel.size))
                          rw [QQ.out, ZZ.out, XX.out]
                          exact h9
  · have hne2 : ((na : Int) != (np : Int)) = true := by simp; omega
    have n0 := NO.out.cell 0; have n1 := NO.out.cell 1; have n2 := NO.out.cell 2; have n3 := NO.out.cell 3; have n4 := NO.out.cell 4
    go_wp2_with (refine wpList_store_part rfl 37 (.tmp 6) (.tmp 25) rfl (w.heap.size + 1) 0 37 zcs zcs rfl rfl RS.out size37 (by simp) (by simp [Value.oneCell']) ?_; intro w4 hat4 hb4; have R := Lib.hid (show At w4 (w.heap.size + 1) zcs 37 from hat4); have BB := Lib.hid hb4; clear hat4 hb4)
    refine bodyPost_ret (results_cell_slot (p := 6) (u := 7) (ty := 37) rfl _ _ (w.heap.size + 1) zcs _ rfl R.out Try.underlying37 size37) rfl ?_
    exact ⟨(Im.zero, 6), Dec.size (by rw [LB.out]; exact hne), Answer.empty (BW.out.trans (BB.out.below (fun k e => by omega) BW.out.size))⟩
end Go.Proofs.Ytlmponcoghfghaa
