/-
  THE WALK OF tells: an image's pages, as the document has them.
-/
import Derived.Test.YtlmponcoghfghaaIn
namespace Go.Proofs.Ytlmponcoghfghaa
open Go.RowKit
set_option linter.unusedVariables false
set_option maxRecDepth 100000

/-- 'append' of bytes to a row of the call's own, as one operation. -/
theorem wp_append_has {w : World} {o : Oper} {a : Act} {K : Act → World → Prop} {Q : Exit → Act → World → Prop} (s x : Operand)
    (ho : o.op = .call { callee := .builtin .append, args := #[s, x], argTypes := #[42, 42] }) (base : Nat) (v : Value) (n : Nat) (l : List (BitVec 8)) (hs : a.eval s = v) (hown : w.ownsRow base 5 1 v n (l.map val))
    (S : Addr) (m c : Nat) (k : List (BitVec 8)) (hx : a.eval x = .slice (some S) m c) (hk : Has w (some S) m k) (hm : n + m ≤ 100000000) (hbase : base ≤ w.heap.size)
    (h : ∀ A cap w', w'.ownsRow base 5 1 (.slice A (n + m) cap) (n + m) ((l ++ k).map val) → w.grownBy w' v.ownBlock → (∀ g, (Value.slice A (n + m) cap).ownBlock = some g → v.ownBlock = some g ∨ w.heap.size ≤ g) → K (a.put o.dst (.slice A (n + m) cap)) w') :
    Oper.wp Try.prog o a w K Q := by
  obtain ⟨i0, hi, hz0, hz1, hz2⟩ := info_parts byte_info
  obtain ⟨v', w', hr, h2, h3, h4, h5⟩ := run_append_own_at (P := Try.prog) w base 42 o.type 5 i0 _ 1 1 Try.underlying42 hi hz0 hz1 hz2 rfl (by decide) v n (l.map val) hown S m c (k.map val) (by simp [hk.1]) hk.cells (val_one k) (by unfold maxLen; omega) (by omega) hbase
  obtain ⟨A, cap, rfl⟩ : ∃ A cap, v' = .slice A (n + m) cap := by
    rcases h2.2 with ⟨rfl, e⟩ | ⟨g, cap, cur, rfl, _⟩
    · exact ⟨none, 0, by rw [e]⟩
    · exact ⟨_, cap, rfl⟩
  unfold Oper.wp execOp
  simp only [ho, resolve, invoke, builtin, Sem.run_bind, Sem.run_pure, Result.andThen_ok, List.map_toArray, List.map_cons, List.map_nil, hs, hx, hr]
  exact h A cap w' (by rw [List.map_append]; exact h2) h3 (grown_at h5)

theorem own_len {w : World} {base n m : Nat} {v : Value} {L : List (BitVec 8)} (h : w.ownsRow base 5 1 v n (L.map val)) (e : L.length = m) : w.ownsRow base 5 1 v m (L.map val) := by
  have := h.1
  simp at this
  have e2 : n = m := by omega
  rw [← e2]
  exact h
theorem wrap8 {N : Nat} (h : N < 256) : IntKind.u8.wrap (N : Int) = (N : Int) := by
  simp [IntKind.wrap, IntKind.signed, IntKind.bits]
  omega
theorem one_nought (w : World) : Has (w.alloc (.cells #[.int .u8 0] 5)) (some ⟨w.heap.size, 0, none⟩) 1 [0#8] :=
  Has.of_block (cs := #[.int .u8 0]) (heap_alloc_new w _) rfl fun j hj => by
    have hj' : j < 1 := hj
    match j, hj' with
    | 0, _ => rfl
def lenV : Value → Nat
  | .slice _ n _ => n
  | _ => 0
theorem fill_next (L : List (BitVec 8)) (j : Nat) (h : L.length ≤ j) : pad L j ++ [0#8] = pad L (j + 1) := by
  unfold pad
  rw [List.append_assoc, show j + 1 - L.length = (j - L.length) + 1 by omega, List.replicate_succ']
theorem some_of {w : World} {A : Option Addr} {n : Nat} {l : List (BitVec 8)} (h : Has w A n l) (hn : 0 < n) : ∃ S, A = some S := by
  obtain ⟨b, o, e⟩ := h.some_ hn
  exact ⟨_, e⟩

theorem val_byte (N : Nat) (h : N < 256) : val (byteAt N 0) = .int .u8 (N : Int) := by
  unfold val byteAt
  rw [BitVec.toNat_ofNat]
  congr 1
  simp
  omega
theorem one_byte {w : World} {k : Nat} (hk : k < 256) : Has (w.alloc (.cells #[.int .u8 (k : Int)] 5)) (some ⟨w.heap.size, 0, none⟩) 1 (low k 1) := by
  refine Has.of_block (cs := #[.int .u8 (k : Int)]) (heap_alloc_new w _) rfl fun j hj => ?_
  have hj' : j < 1 := hj
  match j, hj' with
  | 0, _ => exact (congrArg some (val_byte k hk)).symm
theorem own_byte {w : World} {k : Nat} (hk : k < 256) : (w.alloc (.cells #[.int .u8 (k : Int)] 5)).ownsRow w.heap.size 5 1 (.slice (some ⟨w.heap.size, 0, none⟩) 1 1) 1 ((low k 1).map val) := by
  refine own_of_row (l := low k 1) ?_ rfl (by unfold maxLen; omega) (Nat.le_refl _)
  rw [heap_alloc_new]
  show _ = some (Obj.cells #[val (byteAt k 0)] 5 (0, 0))
  rw [val_byte k hk]

/-- The shape in the first block, the image in the second; a row of the call's own that holds L. -/
structure Tel (w0 w : World) (sc ic : Array Value) (v : Value) (L : List (BitVec 8)) : Prop where
  shp : At w w0.heap.size sc 32
  box : At w (w0.heap.size + 1) ic 37
  own : w.ownsRow (w0.heap.size + 1 + 1) 5 1 v L.length (L.map val)
  bel : Below w0.heap.size w0 w
section
variable {w0 w w' : World} {sc ic : Array Value} {v v' : Value} {L M : List (BitVec 8)}
theorem Tel.up (h : Tel w0 w sc ic v L) (hb : Below w.heap.size w w') : Tel w0 w' sc ic v L :=
  ⟨h.shp.below hb h.shp.lt, h.box.below hb h.box.lt, own_below h.own hb, h.bel.trans (hb.mono h.bel.size)⟩
theorem Tel.base (h : Tel w0 w sc ic v L) : w0.heap.size + 1 + 1 ≤ w.heap.size := h.box.lt
theorem Tel.grow {n : Nat} (h : Tel w0 w sc ic v L) (hown : w'.ownsRow (w0.heap.size + 1 + 1) 5 1 v' n (M.map val)) (hg : w.grownBy w' v.ownBlock) : Tel w0 w' sc ic v' M := by
  have lo : ∀ k, v.ownBlock = some k → w0.heap.size + 1 + 1 ≤ k := fun k hk => (h.own.lt k hk).1
  have bt : But (fun k => v.ownBlock = some k) w w' := (But.refl _ _).grown hg (fun k hk _ => hk)
  have hn : M.length = n := by have := hown.1; simpa using this
  exact ⟨h.shp.but bt (fun e => by have := lo _ e; omega), h.box.but bt (fun e => by have := lo _ e; omega), by rw [hn]; exact hown, h.bel.trans (bt.below (fun k e => by have := lo k e; omega) (by have := h.base; omega))⟩
theorem Tel.keep {xs : Array Value} {g : Nat} {t : TypeId} (h : Tel w0 w sc ic v L) (hg : w.grownBy w' v.ownBlock) (ha : At w g xs t) (hn : v.ownBlock ≠ some g) : At w' g xs t :=
  ha.but (S := fun k => v.ownBlock = some k) ((But.refl _ _).grown hg (fun k hk _ => hk)) hn
theorem Tel.other {n : Nat} (h : Tel w0 w sc ic v L) (hf : Fresh w n M v' w') : Tel w0 w' sc ic v' M := by
  have hn : M.length = n := by have := hf.1.1; simpa using this
  have h1 := h.up hf.2
  exact ⟨h1.shp, h1.box, by rw [hn]; exact own_base hf.1 (fun k hk => by have := (hf.1.lt k hk).1; have := h.base; omega), h1.bel⟩
end
/-- The page's bytes, filled up. -/
theorem cut_pad (I : List (BitVec 8)) (P np k : Nat) (hk : k < np) (hI : k * P ≤ I.length) (hM : I.length ≤ np * P) : cut (pad I (np * P)) P k = pad ((I.drop (k * P)).take P) P := by
  have h1 : (k + 1) * P ≤ np * P := Nat.mul_le_mul_right _ hk
  rw [Nat.add_mul, Nat.one_mul] at h1
  unfold cut pad
  rw [List.drop_append_of_le_length hI]
  by_cases h : P ≤ (I.drop (k * P)).length
  · rw [List.take_append_of_le_length h, List.length_take, Nat.min_eq_left h, Nat.sub_self]
    simp
  · rw [List.take_append, List.take_of_length_le (by omega), List.take_replicate]
    congr 2
    simp at h ⊢
    omega
/-- Pages of the call's own, each in a block of its own, apart from the row and from what is left; all below H. -/
structure Tld (w0 w : World) (H : Nat) (sc : Array Value) (A : Option Addr) (nA : Nat) (I : List (BitVec 8)) (v : Value) (L : List Sl) : Prop where
  shp : At w w0.heap.size sc 32
  all : Has w A nA I
  alw : 0 < nA → ∀ x, A = some x → x.block < H ∧ v.ownBlock ≠ some x.block
  own : w.ownsRow (w0.heap.size + 1 + 1) 42 1 v L.length (L.map Sl.v)
  pg : ∀ x ∈ L, w.ownsRow (w0.heap.size + 1 + 1) 5 1 x.v x.n (x.l.map val)
  pw : ∀ x ∈ L, ∀ j, x.v.ownBlock = some j → j < H ∧ v.ownBlock ≠ some j
  dis : L.Pairwise (fun x y => ∀ j, x.v.ownBlock = some j → y.v.ownBlock ≠ some j)
  vw : ∀ j, v.ownBlock = some j → j < H
  lt : w0.heap.size + 1 < H ∧ H ≤ w.heap.size
  bel : Below w0.heap.size w0 w
section
variable {w0 w w' : World} {H : Nat} {sc : Array Value} {A : Option Addr} {nA : Nat} {I : List (BitVec 8)} {v : Value} {L : List Sl}
theorem Tld.new {S : Nat → Prop} (h : Tld w0 w H sc A nA I v L) (hb : But S w w') (hs : ∀ k, S k → H ≤ k) : Tld w0 w' H sc A nA I v L := by
  obtain ⟨h1, h2⟩ := h.lt
  refine ⟨h.shp.but hb (fun e => by have := hs _ e; omega), ⟨h.all.1, fun h0 => ?_⟩, h.alw, own_but h.own hb (fun k hk e => by have := hs k e; have := h.vw k hk; omega), fun x hx => own_but (h.pg x hx) hb (fun k hk e => by have := hs k e; have := (h.pw x hx k hk).1; omega), h.pw, h.dis, h.vw, ⟨h1, Nat.le_trans h2 hb.size⟩, h.bel.trans (hb.below (fun k e => by have := hs k e; omega) h.bel.size)⟩
  exact (h.all.but hb (fun x hx e => by have := hs _ e; have := (h.alw h0 x hx).1; omega)).2 h0
theorem Tld.high (h : Tld w0 w H sc A nA I v L) : Tld w0 w w.heap.size sc A nA I v L := by
  obtain ⟨h1, h2⟩ := h.lt
  exact ⟨h.shp, h.all, fun h0 x hx => ⟨by have := (h.alw h0 x hx).1; omega, (h.alw h0 x hx).2⟩, h.own, h.pg, fun x hx j hj => ⟨by have := (h.pw x hx j hj).1; omega, (h.pw x hx j hj).2⟩, h.dis, fun j hj => by have := h.vw j hj; omega, ⟨by omega, Nat.le_refl _⟩, h.bel⟩
/-- What is left, further on. -/
theorem Tld.rest {A' : Option Addr} {nA' : Nat} {I' : List (BitVec 8)} (h : Tld w0 w H sc A nA I v L) (ha : Has w A' nA' I') (hw : 0 < nA' → 0 < nA ∧ ∀ x, A' = some x → ∃ y, A = some y ∧ x.block = y.block) : Tld w0 w H sc A' nA' I' v L :=
  ⟨h.shp, ha, fun h0 x hx => by obtain ⟨y, hy, e⟩ := (hw h0).2 x hx; rw [e]; exact h.alw (hw h0).1 y hy, h.own, h.pg, h.pw, h.dis, h.vw, h.lt, h.bel⟩
/-- A page more. -/
theorem Tld.push {w1 w2 : World} {x : Sl} {n c : Nat} {A2 : Option Addr} (h : Tld w0 w H sc A nA I v L) (hb : But (fun _ => False) w w1) (hx : w1.ownsRow (w0.heap.size + 1 + 1) 5 1 x.v x.n (x.l.map val)) (hxl : ∀ j, x.v.ownBlock = some j → H ≤ j)
    (hown : w2.ownsRow (w0.heap.size + 1 + 1) 42 1 (.slice A2 n c) n ((L ++ [x]).map Sl.v)) (hg : w1.grownBy w2 v.ownBlock) (hf : ∀ g, (Value.slice A2 n c).ownBlock = some g → v.ownBlock = some g ∨ w1.heap.size ≤ g) :
    Tld w0 w2 w2.heap.size sc A nA I (.slice A2 n c) (L ++ [x]) := by
  have h1 := h.new hb (fun _ e => e.elim)
  obtain ⟨l1, l2⟩ := h1.lt
  have bt : But (fun k => v.ownBlock = some k) w1 w2 := (But.refl _ _).grown hg (fun k hk _ => hk)
  have hn : n = (L ++ [x]).length := by have := hown.1; simp at this; simp; omega
  have xlt : ∀ j, x.v.ownBlock = some j → j < w1.heap.size := fun j hj => (hx.lt j hj).2
  have sz := bt.size
  refine ⟨h1.shp.but bt (fun e => by have := (h1.own.lt _ e).1; omega), ⟨h1.all.1, fun h0 => (h1.all.but bt (fun y hy e => (h1.alw h0 y hy).2 e)).2 h0⟩, fun h0 y hy => ⟨by have := (h1.alw h0 y hy).1; omega, fun e => ?_⟩, by rw [← hn]; exact hown, fun y hy => ?_, fun y hy j hj => ?_, ?_, fun j hj => (hown.lt j hj).2, ⟨by omega, Nat.le_refl _⟩, h1.bel.trans (bt.below (fun k e => by have := (h1.own.lt k e).1; omega) h1.bel.size)⟩
  · rcases hf _ e with e2 | e2
    · exact (h1.alw h0 y hy).2 e2
    · have := (h1.alw h0 y hy).1; omega
  · rcases List.mem_append.1 hy with hy | hy
    · exact own_but (h1.pg y hy) bt (fun k hk e => (h1.pw y hy k hk).2 e)
    · simp at hy; subst hy
      exact own_but hx bt (fun k hk e => by have := h1.vw k e; have := hxl k hk; omega)
  · rcases List.mem_append.1 hy with hy | hy
    · have h3 := h1.pw y hy j hj
      refine ⟨by omega, fun e => ?_⟩
      rcases hf _ e with e2 | e2
      · exact h3.2 e2
      · omega
    · simp at hy; subst hy
      refine ⟨by have := xlt j hj; omega, fun e => ?_⟩
      rcases hf _ e with e2 | e2
      · have := h1.vw j e2; have := hxl j hj; omega
      · have := xlt j hj; omega
  · rw [List.pairwise_append]
    refine ⟨h1.dis, List.pairwise_singleton _ _, fun a ha y hy j hj e => ?_⟩
    simp at hy; subst hy
    have := (h1.pw a ha j hj).1; have := hxl j e; omega
end
theorem Tld.base {w0 w : World} {H : Nat} {sc : Array Value} {A : Option Addr} {nA : Nat} {I : List (BitVec 8)} {v : Value} {L : List Sl} (h : Tld w0 w H sc A nA I v L) : w0.heap.size + 1 + 1 ≤ w.heap.size := by have := h.lt; omega
/-- And a row of bytes that holds M, not below H. -/
structure Tlb (w0 w : World) (H : Nat) (sc : Array Value) (A : Option Addr) (nA : Nat) (I : List (BitVec 8)) (v : Value) (L : List Sl) (vb : Value) (M : List (BitVec 8)) : Prop where
  t : Tld w0 w H sc A nA I v L
  bo : w.ownsRow (w0.heap.size + 1 + 1) 5 1 vb M.length (M.map val)
  bh : ∀ j, vb.ownBlock = some j → H ≤ j
section
variable {w0 w w' : World} {H : Nat} {sc : Array Value} {A : Option Addr} {nA : Nat} {I : List (BitVec 8)} {v : Value} {L : List Sl} {vb vb' : Value} {M M' : List (BitVec 8)}
theorem Tlb.up (h : Tlb w0 w H sc A nA I v L vb M) (hb : Below w.heap.size w w') : Tlb w0 w' H sc A nA I v L vb M :=
  ⟨h.t.new (S := fun _ => False) (But.of_below hb) (fun _ e => e.elim), own_below h.bo hb, h.bh⟩
theorem Tlb.grow {n : Nat} (h : Tlb w0 w H sc A nA I v L vb M) (hown : w'.ownsRow (w0.heap.size + 1 + 1) 5 1 vb' n (M'.map val)) (hg : w.grownBy w' vb.ownBlock) (hf : ∀ g, vb'.ownBlock = some g → vb.ownBlock = some g ∨ w.heap.size ≤ g) : Tlb w0 w' H sc A nA I v L vb' M' := by
  have bt : But (fun k => vb.ownBlock = some k) w w' := (But.refl _ _).grown hg (fun k hk _ => hk)
  have hn : M'.length = n := by have := hown.1; simpa using this
  refine ⟨h.t.new bt h.bh, by rw [hn]; exact hown, fun j hj => ?_⟩
  rcases hf j hj with e | e
  · exact h.bh j e
  · have := h.t.lt; omega
end
/-- What tells answers. -/
def Toldd (w : World) (D : List (BitVec 8)) (gen P n : Nat) (e : Ending) (w' : World) : Prop :=
  ∃ v L, e = .returned v ∧ w'.ownsRow w.heap.size 42 1 v n (L.map Sl.v) ∧ byts L = sheets D gen P n ∧ (∀ x ∈ L, x.n = P + 15 ∧ w'.ownsRow w.heap.size 5 1 x.v x.n (x.l.map val)) ∧ (∀ x ∈ L, ∀ j, x.v.ownBlock = some j → v.ownBlock ≠ some j) ∧
    L.Pairwise (fun x y => ∀ j, x.v.ownBlock = some j → y.v.ownBlock ≠ some j) ∧ Below w.heap.size w w'

set_option maxHeartbeats 4000000 in
theorem tells_any (m b g s n l : Nat) (gen : Nat) (q sg ix : Nat) (A : Option Addr) (c : Nat) (B : Option Addr) (d : Nat) (gs : List Sg) (mp : List Nat) (w : World) (ok : OkN m b g s n l) (hgen : gen < 18446744073709551616) (hf : (Im.mk q sg ix gs mp).fits) (h : Img w A g B l ⟨q, sg, ix, gs, mp⟩) :
    Calls Try.prog 11 #[.agg #[.int .i64 (m : Int), .int .i64 (b : Int), .int .i64 (g : Int), .int .i64 (s : Int), .int .i64 (n : Int), .int .i64 (l : Int)], .int .u64 (gen : Int), .agg (ics q sg ix A g c B l d)] w (Toldd w (pad (Im.mk q sg ix gs mp).body (npg b g l * (b - 15))) gen (b - 15) (npg b g l)) := by
  have BN := Lib.hid ok.bnd
  have hb := ok.bnd.b; have hg := ok.bnd.g; have hl := ok.bnd.l
  have hnp := npg_few ok.bnd
  have NG := Lib.hid (npg_ge ok.bnd)
  have NL := Lib.hid (npg_le ok.bnd)
  have NM := Lib.hid (npg_max ok.bnd)
  have HG := Lib.hid h.gs
  have HP := Lib.hid h.mp
  have LGS := Lib.hid h.lg
  have LMP := Lib.hid h.lm
  have hq : q < 18446744073709551616 := hf.q
  have hs : sg < 65536 := hf.s
  have hi : ix < 65536 := hf.i
  have FG := Lib.hid hf.gs
  have FP := Lib.hid hf.mp
  obtain ⟨np, hnpe⟩ : ∃ y, y = npg b g l := ⟨_, rfl⟩
  obtain ⟨P, hP⟩ : ∃ y, y = b - 15 := ⟨_, rfl⟩
  rw [← hnpe] at hnp NG NL NM ⊢
  rw [← hP] at NG NL NM ⊢
  have hPb : 17 ≤ P ∧ P ≤ 497 := by omega
  have PB := Lib.hid (show P + 15 = b by omega)
  clear ok hf h hnpe hP
  go_enter Try.func11, Try.ntmps11
  go_wp2_with fail
  have S0 := Lib.hid (show At ((w.alloc (.cells #[.int .i64 (m : Int), .int .i64 (b : Int), .int .i64 (g : Int), .int .i64 (s : Int), .int .i64 (n : Int), .int .i64 (l : Int)] 32)).alloc (.cells (ics q sg ix A g c B l d) 37)).drew w.heap.size #[.int .i64 (m : Int), .int .i64 (b : Int), .int .i64 (g : Int), .int .i64 (s : Int), .int .i64 (n : Int), .int .i64 (l : Int)] 32 ∧ At ((w.alloc (.cells #[.int .i64 (m : Int), .int .i64 (b : Int), .int .i64 (g : Int), .int .i64 (s : Int), .int .i64 (n : Int), .int .i64 (l : Int)] 32)).alloc (.cells (ics q sg ix A g c B l d) 37)).drew (w.heap.size + 1) (ics q sg ix A g c B l d) 37 from ⟨(At.new _ _ rfl).alloc _, At.new _ _ (by simp)⟩)
  have BW := Lib.hid (show Below w.heap.size w ((w.alloc (.cells #[.int .i64 (m : Int), .int .i64 (b : Int), .int .i64 (g : Int), .int .i64 (s : Int), .int .i64 (n : Int), .int .i64 (l : Int)] 32)).alloc (.cells (ics q sg ix A g c B l d) 37)).drew from below_drew (BB2 _ _ _))
  refine wp_region_early (fun w' : World => At w' (w.heap.size + 1) (ics q sg ix A g c B l d) 37) (fun _ => true) (by kernel_rfl) ?_
  change wpEarly _ _ _ _ _ _ 15 (Array.replicate 15 false) _ ((w.alloc (.cells #[.int .i64 (m : Int), .int .i64 (b : Int), .int .i64 (g : Int), .int .i64 (s : Int), .int .i64 (n : Int), .int .i64 (l : Int)] 32)).alloc (.cells (ics q sg ix A g c B l d) 37)).drew
  generalize ((w.alloc (.cells #[.int .i64 (m : Int), .int .i64 (b : Int), .int .i64 (g : Int), .int .i64 (s : Int), .int .i64 (n : Int), .int .i64 (l : Int)] 32)).alloc (.cells (ics q sg ix A g c B l d) 37)).drew = wa at *
  refine early_take (i := 0) 16 (.pointer (some ⟨w.heap.size + 1, 0, none⟩)) rfl rfl (by kernel_rfl) (by kernel_rfl) (by kernel_rfl) (by kernel_rfl) rfl (fun _ _ _ h => h) (fun w' hw' => by go_simp) S0.out.2 ?_
  simp only [Act.put, List.setIfInBounds_toArray, List.set_cons_zero, List.set_cons_succ]
  refine early_take (i := 1) 17 (.int .u64 (q : Int)) rfl rfl (by kernel_rfl) (by kernel_rfl) (by kernel_rfl) (by kernel_rfl) rfl (fun _ _ _ h => h) (fun w' hw' => by have hc0 := hw'.cell 0; go_simp) S0.out.2 ?_
  simp only [Act.put, List.setIfInBounds_toArray, List.set_cons_zero, List.set_cons_succ]
  refine early_take (i := 3) 19 (.pointer (some ⟨w.heap.size + 1, 1, none⟩)) rfl rfl (by kernel_rfl) (by kernel_rfl) (by kernel_rfl) (by kernel_rfl) rfl (fun _ _ _ h => h) (fun w' hw' => by go_simp) S0.out.2 ?_
  simp only [Act.put, List.setIfInBounds_toArray, List.set_cons_zero, List.set_cons_succ]
  refine early_take (i := 4) 20 (.int .i64 ((sg : Int) - 1)) rfl rfl (by kernel_rfl) (by kernel_rfl) (by kernel_rfl) (by kernel_rfl) rfl (fun _ _ _ h => h) (fun w' hw' => by have hc0 := hw'.cell 1; go_simp) S0.out.2 ?_
  simp only [Act.put, List.setIfInBounds_toArray, List.set_cons_zero, List.set_cons_succ]
  refine early_take (i := 5) 21 (.int .i64 (sg : Int)) rfl rfl (by kernel_rfl) (by kernel_rfl) (by kernel_rfl) (by kernel_rfl) rfl (fun _ _ _ h => h) (fun w' hw' => by go_simp; exact wrap_of (by omega) (by omega)) S0.out.2 ?_
  simp only [Act.put, List.setIfInBounds_toArray, List.set_cons_zero, List.set_cons_succ]
  refine early_take (i := 6) 22 (.int .u64 (sg : Int)) rfl rfl (by kernel_rfl) (by kernel_rfl) (by kernel_rfl) (by kernel_rfl) rfl (fun _ _ _ h => h) (fun w' hw' => by go_simp; exact wrap64 (by omega)) S0.out.2 ?_
  simp only [Act.put, List.setIfInBounds_toArray, List.set_cons_zero, List.set_cons_succ]
  refine early_take (i := 9) 25 (.pointer (some ⟨w.heap.size + 1, 2, none⟩)) rfl rfl (by kernel_rfl) (by kernel_rfl) (by kernel_rfl) (by kernel_rfl) rfl (fun _ _ _ h => h) (fun w' hw' => by go_simp) S0.out.2 ?_
  simp only [Act.put, List.setIfInBounds_toArray, List.set_cons_zero, List.set_cons_succ]
  refine early_take (i := 10) 26 (.int .i64 (ix : Int)) rfl rfl (by kernel_rfl) (by kernel_rfl) (by kernel_rfl) (by kernel_rfl) rfl (fun _ _ _ h => h) (fun w' hw' => by have hc0 := hw'.cell 2; go_simp) S0.out.2 ?_
  simp only [Act.put, List.setIfInBounds_toArray, List.set_cons_zero, List.set_cons_succ]
  refine early_take (i := 11) 27 (.int .u64 (ix : Int)) rfl rfl (by kernel_rfl) (by kernel_rfl) (by kernel_rfl) (by kernel_rfl) rfl (fun _ _ _ h => h) (fun w' hw' => by go_simp; exact wrap64 (by omega)) S0.out.2 ?_
  simp only [Act.put, List.setIfInBounds_toArray, List.set_cons_zero, List.set_cons_succ]
  refine early_only (i := 2) (by kernel_rfl) rfl (fun K hK => ?_)
  simp only [opWp, List.getElem?_toArray, List.getElem?_cons_succ, List.getElem?_cons_zero]
  go_simp
  go_at_call 32
  refine (put_any 8 q _ (by omega) hq).mono ?_
  rintro e w1 ⟨v1, rfl, hf⟩
  have T := Lib.hid (show Tel w w1 #[.int .i64 (m : Int), .int .i64 (b : Int), .int .i64 (g : Int), .int .i64 (s : Int), .int .i64 (n : Int), .int .i64 (l : Int)] (ics q sg ix A g c B l d) v1 (low q 8) from ⟨S0.out.1.below hf.2 S0.out.1.lt, S0.out.2.below hf.2 S0.out.2.lt, own_base (own_len hf.1 (low_len q 8)) (fun k hk => by have := (hf.1.lt k hk).1; have := S0.out.2.lt; omega), BW.out.trans (hf.2.mono BW.out.size)⟩)
  clear hf S0 BW
  refine hK _ _ (fun _ => T.out.box) ?_
  clear hK
  refine early_only (i := 7) (by kernel_rfl) rfl (fun K hK => ?_)
  simp only [opWp, List.getElem?_toArray, List.getElem?_cons_succ, List.getElem?_cons_zero]
  go_simp
  go_at_call 32
  refine (put_any 2 sg _ (by omega) (by omega)).mono ?_
  rintro e wz ⟨vz, rfl, hf⟩
  obtain ⟨Az, cz, rfl, _, _, _, hh, _⟩ := own_slice hf.1
  obtain ⟨Sz, rfl⟩ := some_of hh (by omega)
  have T := Lib.hid (T.out.up hf.2)
  have HH := Lib.hid hh
  clear hf hh
  refine hK _ _ (fun _ => T.out.box) ?_
  clear hK
  refine early_only (i := 8) (by kernel_rfl) rfl (fun K hK => ?_)
  simp only [opWp, List.getElem?_toArray, List.getElem?_cons_succ, List.getElem?_cons_zero]
  refine wp_append_has (.tmp 18) (.tmp 23) rfl (w.heap.size + 1 + 1) v1 _ (low q 8) rfl T.out.own Sz 2 cz (low sg 2) rfl HH.out (by rw [low_len]; omega) T.out.base ?_
  intro A8 c8 w8 hown hgr hwh
  obtain ⟨v2, hv⟩ : ∃ v, v = Value.slice A8 ((low q 8).length + 2) c8 := ⟨_, rfl⟩
  rw [← hv] at hown hwh ⊢
  have T := Lib.hid (T.out.grow hown hgr)
  clear hown hgr hv HH hwh
  refine hK _ _ (fun _ => T.out.box) ?_
  clear hK
  simp only [Act.put, List.setIfInBounds_toArray, List.set_cons_zero, List.set_cons_succ]
  refine early_only (i := 12) (by kernel_rfl) rfl (fun K hK => ?_)
  simp only [opWp, List.getElem?_toArray, List.getElem?_cons_succ, List.getElem?_cons_zero]
  go_simp
  go_at_call 32
  refine (put_any 2 ix _ (by omega) (by omega)).mono ?_
  rintro e wz ⟨vz, rfl, hf⟩
  obtain ⟨Az, cz, rfl, _, _, _, hh, _⟩ := own_slice hf.1
  obtain ⟨Sz, rfl⟩ := some_of hh (by omega)
  have T := Lib.hid (T.out.up hf.2)
  have HH := Lib.hid hh
  clear hf hh
  refine hK _ _ (fun _ => T.out.box) ?_
  clear hK
  refine early_only (i := 13) (by kernel_rfl) rfl (fun K hK => ?_)
  simp only [opWp, List.getElem?_toArray, List.getElem?_cons_succ, List.getElem?_cons_zero]
  refine wp_append_has (.tmp 24) (.tmp 28) rfl (w.heap.size + 1 + 1) v2 _ (low q 8 ++ low sg 2) rfl T.out.own Sz 2 cz (low ix 2) rfl HH.out (by rw [List.length_append, low_len, low_len]; omega) T.out.base ?_
  intro A8 c8 w8 hown hgr hwh
  obtain ⟨v3, hv⟩ : ∃ v, v = Value.slice A8 ((low q 8 ++ low sg 2).length + 2) c8 := ⟨_, rfl⟩
  rw [← hv] at hown hwh ⊢
  have T := Lib.hid (T.out.grow hown hgr)
  clear hown hgr hv HH hwh
  refine hK _ _ (fun _ => T.out.box) ?_
  clear hK
  simp only [Act.put, List.setIfInBounds_toArray, List.set_cons_zero, List.set_cons_succ]
  refine early_take (i := 14) 7 v3 rfl rfl (by kernel_rfl) (by kernel_rfl) (by kernel_rfl) (by kernel_rfl) rfl (fun _ _ _ h => h) (fun w' hw' => by go_simp) T.out.box ?_
  simp only [Act.put, List.setIfInBounds_toArray, List.set_cons_zero, List.set_cons_succ]
  have T := Lib.hid (show Tel w w8 #[.int .i64 (m : Int), .int .i64 (b : Int), .int .i64 (g : Int), .int .i64 (s : Int), .int .i64 (n : Int), .int .i64 (l : Int)] (ics q sg ix A g c B l d) v3 (front q sg ix) from T.out)
  refine early_done (by kernel_rfl) ?_
  have c3 := T.out.box.cell 3
  go_wp2
  clear c3
  go_loopw [7, 33] (fun v i wr => ∃ k : Nat, k ≤ g ∧ i = .int .i64 k ∧ Tel w wr #[.int .i64 (m : Int), .int .i64 (b : Int), .int .i64 (g : Int), .int .i64 (s : Int), .int .i64 (n : Int), .int .i64 (l : Int)] (ics q sg ix A g c B l d) v (front q sg ix ++ sgsB (gs.take k))) (fun _ i _ => g - (intOf i).toNat)
  case atStart => exact ⟨0, Nat.zero_le _, rfl, by simpa [sgsB] using T.out⟩
  case round =>
    clear T
    obtain ⟨k, hk, rfl, hT⟩ := hrel
    have T := Lib.hid hT
    have HH0 := Lib.hid (HG.out.below hT.bel)
    clear hT
    by_cases hlt : k < g
    · obtain ⟨bb, off, rfl⟩ := HG.out.some_ (by omega)
      have hkl : k < gs.length := by rw [show gs.length = g from LGS.out]; exact hlt
      obtain ⟨hc, hc'⟩ := HH0.out.cell k hlt
      obtain ⟨hx1, hx2⟩ := FG.out gs[k] (List.getElem_mem hkl)
      have EN := Lib.hid (sgsB_next (front q sg ix) gs k hkl)
      have LN := Lib.hid (show (front q sg ix ++ sgsB (gs.take k)).length = 12 + 9 * k by rw [List.length_append, front_len, sgsB_len, List.length_take, Nat.min_eq_left (by omega)])
      generalize front q sg ix ++ sgsB (gs.take k) = F at *
      obtain ⟨⟨X, Y⟩, hx⟩ : ∃ x, gs[k] = x := ⟨_, rfl⟩
      simp only [hx] at hc hc' hx1 hx2 EN
      clear hx
      have HS := Lib.hid (show w.heap.size + 1 < wr.heap.size from T.out.base)
      have OWN := Lib.hid (show u7.ownBlock ≠ some wr.heap.size from fun e => by have := (T.out.own.lt _ e).2; omega)
      go_wp2_with fail
      have T := Lib.hid (T.out.up (below_drew ((Below.refl _ _).alloc (Nat.le_refl _) (.cells #[.int .i64 (X : Int), .int .u64 (Y : Int)] 58))))
      have EB := Lib.hid (show At (wr.alloc (.cells #[.int .i64 (X : Int), .int .u64 (Y : Int)] 58)).drew wr.heap.size #[.int .i64 (X : Int), .int .u64 (Y : Int)] 58 from At.new _ _ rfl)
      refine wp_region_early (fun w' : World => At w' wr.heap.size #[.int .i64 (X : Int), .int .u64 (Y : Int)] 58) (fun _ => true) (by kernel_rfl) ?_
      change wpEarly _ _ _ _ _ _ 11 (Array.replicate 11 false) _ (wr.alloc (.cells #[.int .i64 (X : Int), .int .u64 (Y : Int)] 58)).drew
      generalize (wr.alloc (.cells #[.int .i64 (X : Int), .int .u64 (Y : Int)] 58)).drew = wa at *
      generalize hgg : wr.heap.size = g1 at *
      clear hgg
      have GL := Lib.hid EB.out.lt
      refine early_take (i := 0) 37 u7 rfl rfl (by kernel_rfl) (by kernel_rfl) (by kernel_rfl) (by kernel_rfl) rfl (fun _ _ _ h => h) (fun w' hw' => by go_simp) EB.out ?_
      simp only [Act.put, List.setIfInBounds_toArray, List.set_cons_zero, List.set_cons_succ]
      refine early_take (i := 1) 38 (.pointer (some ⟨g1, 0, none⟩)) rfl rfl (by kernel_rfl) (by kernel_rfl) (by kernel_rfl) (by kernel_rfl) rfl (fun _ _ _ h => h) (fun w' hw' => by go_simp) EB.out ?_
      simp only [Act.put, List.setIfInBounds_toArray, List.set_cons_zero, List.set_cons_succ]
      refine early_take (i := 2) 39 (.int .i64 (X : Int)) rfl rfl (by kernel_rfl) (by kernel_rfl) (by kernel_rfl) (by kernel_rfl) rfl (fun _ _ _ h => h) (fun w' hw' => by have hc0 := hw'.cell 0; go_simp) EB.out ?_
      simp only [Act.put, List.setIfInBounds_toArray, List.set_cons_zero, List.set_cons_succ]
      refine early_take (i := 3) 40 (.int .u8 (X : Int)) rfl rfl (by kernel_rfl) (by kernel_rfl) (by kernel_rfl) (by kernel_rfl) rfl (fun _ _ _ h => h) (fun w' hw' => by go_simp; exact wrap8 hx1) EB.out ?_
      simp only [Act.put, List.setIfInBounds_toArray, List.set_cons_zero, List.set_cons_succ]
      refine early_take (i := 6) 43 (.pointer (some ⟨g1, 1, none⟩)) rfl rfl (by kernel_rfl) (by kernel_rfl) (by kernel_rfl) (by kernel_rfl) rfl (fun _ _ _ h => h) (fun w' hw' => by go_simp) EB.out ?_
      simp only [Act.put, List.setIfInBounds_toArray, List.set_cons_zero, List.set_cons_succ]
      refine early_take (i := 7) 44 (.int .u64 (Y : Int)) rfl rfl (by kernel_rfl) (by kernel_rfl) (by kernel_rfl) (by kernel_rfl) rfl (fun _ _ _ h => h) (fun w' hw' => by have hc0 := hw'.cell 1; go_simp) EB.out ?_
      simp only [Act.put, List.setIfInBounds_toArray, List.set_cons_zero, List.set_cons_succ]
      refine early_only (i := 4) (by kernel_rfl) rfl (fun K hK => ?_)
      simp only [opWp, List.getElem?_toArray, List.getElem?_cons_succ, List.getElem?_cons_zero]
      go_simp
      have T := Lib.hid (T.out.up ((Below.refl _ _).alloc (Nat.le_refl _) (.cells #[.int .u8 (X : Int)] 5)))
      have EB := Lib.hid (EB.out.alloc (.cells #[.int .u8 (X : Int)] 5))
      have HH := Lib.hid (one_byte (w := wa) hx1)
      generalize wa.alloc (.cells #[.int .u8 (X : Int)] 5) = wb at *
      generalize wa.heap.size = h3 at *
      refine hK _ _ (fun _ => EB.out) ?_
      clear hK
      refine early_only (i := 5) (by kernel_rfl) rfl (fun K hK => ?_)
      simp only [opWp, List.getElem?_toArray, List.getElem?_cons_succ, List.getElem?_cons_zero]
      refine wp_append_has (.tmp 37) (.tmp 41) rfl (w.heap.size + 1 + 1) u7 _ F rfl T.out.own ⟨h3, 0, none⟩ 1 1 (low X 1) rfl HH.out (by rw [LN.out]; omega) T.out.base ?_
      intro A6 c6 w6 hown hgr hwh
      obtain ⟨v6, hv⟩ : ∃ v, v = Value.slice A6 (F.length + 1) c6 := ⟨_, rfl⟩
      rw [← hv] at hown hwh ⊢
      have OWN6 := Lib.hid (show v6.ownBlock ≠ some g1 from fun e => (hwh g1 e).elim OWN.out (fun h => by have := EB.out.lt; omega))
      have EB := Lib.hid (T.out.keep hgr EB.out OWN.out)
      have OWN := OWN6
      clear hwh OWN6
      have T := Lib.hid (T.out.grow hown hgr)
      clear hown hgr hv HH
      refine hK _ _ (fun _ => EB.out) ?_
      clear hK
      simp only [Act.put, List.setIfInBounds_toArray, List.set_cons_zero, List.set_cons_succ]
      refine early_only (i := 8) (by kernel_rfl) rfl (fun K hK => ?_)
      simp only [opWp, List.getElem?_toArray, List.getElem?_cons_succ, List.getElem?_cons_zero]
      go_simp
      go_at_call 32
      refine (put_any 8 Y _ (by omega) hx2).mono ?_
      rintro e wz ⟨vz, rfl, hf⟩
      obtain ⟨Az, cz, rfl, _, _, _, hh, _⟩ := own_slice hf.1
      obtain ⟨Sz, rfl⟩ := some_of hh (by omega)
      have T := Lib.hid (T.out.up hf.2)
      have EB := Lib.hid (EB.out.below hf.2 EB.out.lt)
      have HH := Lib.hid hh
      clear hf hh
      refine hK _ _ (fun _ => EB.out) ?_
      clear hK
      refine early_only (i := 9) (by kernel_rfl) rfl (fun K hK => ?_)
      simp only [opWp, List.getElem?_toArray, List.getElem?_cons_succ, List.getElem?_cons_zero]
      refine wp_append_has (.tmp 42) (.tmp 45) rfl (w.heap.size + 1 + 1) v6 _ (F ++ low X 1) rfl T.out.own Sz 8 cz (low Y 8) rfl HH.out (by rw [List.length_append, LN.out, low_len]; omega) T.out.base ?_
      intro A8 c8 w8 hown hgr _
      obtain ⟨v8, hv⟩ : ∃ v, v = Value.slice A8 ((F ++ low X 1).length + 8) c8 := ⟨_, rfl⟩
      rw [← hv] at hown ⊢
      have EB := Lib.hid (T.out.keep hgr EB.out OWN.out)
      have T := Lib.hid (T.out.grow hown hgr)
      clear hown hgr hv HH
      refine hK _ _ (fun _ => EB.out) ?_
      clear hK
      simp only [Act.put, List.setIfInBounds_toArray, List.set_cons_zero, List.set_cons_succ]
      refine early_take (i := 10) 7 v8 rfl rfl (by kernel_rfl) (by kernel_rfl) (by kernel_rfl) (by kernel_rfl) rfl (fun _ _ _ h => h) (fun w' hw' => by go_simp) EB.out ?_
      simp only [Act.put, List.setIfInBounds_toArray, List.set_cons_zero, List.set_cons_succ]
      refine early_done (by kernel_rfl) ?_
      go_wp2_with fail
      have T2 := T.out
      rw [← EN.out] at T2
      exact ⟨⟨k + 1, by omega, by go_num, T2⟩, by simp [intOf]; omega⟩
    · obtain rfl : k = g := by omega
      have ELL : gs.take k = gs := List.take_of_length_le (by rw [show gs.length = k from LGS.out]; omega)
      rw [ELL] at T
      clear ELL HH0 HG
      have LN0 := Lib.hid (show (front q sg ix ++ sgsB gs).length = 12 + 9 * k by rw [List.length_append, front_len, sgsB_len, show gs.length = k from LGS.out])
      have HT := Lib.hid (show (Im.mk q sg ix gs mp).body = front q sg ix ++ sgsB gs ++ mpB mp from rfl)
      generalize front q sg ix ++ sgsB gs = F0 at *
      have c4 := T.out.box.cell 4
      go_wp2
      clear c4
      go_loopw [7, 51] (fun v i wr => ∃ j : Nat, j ≤ l ∧ i = .int .i64 j ∧ Tel w wr #[.int .i64 (m : Int), .int .i64 (b : Int), .int .i64 (k : Int), .int .i64 (s : Int), .int .i64 (n : Int), .int .i64 (l : Int)] (ics q sg ix A k c B l d) v (F0 ++ mpB (mp.take j))) (fun _ i _ => l - (intOf i).toNat)
      case atStart => exact ⟨0, Nat.zero_le _, rfl, by simpa [mpB] using T.out⟩
      case round =>
        clear T hlt
        obtain ⟨j, hj, rfl, hT⟩ := hrel
        have T := Lib.hid hT
        have HH0 := Lib.hid (HP.out.below hT.bel)
        clear hT
        by_cases hlt : j < l
        · obtain ⟨bb, off, rfl⟩ := HP.out.some_ (by omega)
          have hkl : j < mp.length := by rw [show mp.length = l from LMP.out]; exact hlt
          have hc : wr.cell? ⟨bb, off + j, none⟩ = some (.int .i64 ((mp[j] : Int) - 1)) := by rw [HH0.out.cell j hlt]; exact congrArg some (ints_get mp j hkl)
          have hx := FP.out mp[j] (List.getElem_mem hkl)
          have EN := Lib.hid (mpB_next F0 mp j hkl)
          have LN := Lib.hid (show (F0 ++ mpB (mp.take j)).length = 12 + 9 * k + 4 * j by rw [List.length_append, LN0.out, mpB_len, List.length_take, Nat.min_eq_left (by omega)])
          generalize F0 ++ mpB (mp.take j) = F at *
          generalize mp[j] = X at *
          go_wp2_with fail
          refine (put_any 4 X _ (by omega) (by omega)).mono ?_
          rintro e wz ⟨vz, rfl, hf⟩
          obtain ⟨Az, cz, rfl, _, _, _, hh, _⟩ := own_slice hf.1
          obtain ⟨Sz, rfl⟩ := some_of hh (by omega)
          have T := Lib.hid (T.out.up hf.2)
          have HH := Lib.hid hh
          clear hf hh hc
          go_wp2_with (at_builtin; refine wpList_append_has rfl (.tmp 55) (.tmp 59) rfl (w.heap.size + 1 + 1) u7 _ F rfl T.out.own (some Sz) 4 cz (low X 4) rfl HH.out (fun e => by cases e) (by rw [LN.out]; omega) T.out.base ?_; intro A8 c8 w8 hown hgr _; have T := Lib.hid (T.out.grow (M := F ++ low X 4) (by rw [List.map_append]; exact hown) hgr); clear hown hgr)
          have T2 := T.out
          rw [← EN.out] at T2
          exact ⟨⟨j + 1, by omega, by go_num, T2⟩, by simp [intOf]; omega⟩
        · obtain rfl : j = l := by omega
          have ELL : mp.take j = mp := List.take_of_length_le (by rw [show mp.length = j from LMP.out]; omega)
          rw [ELL] at T
          clear ELL HH0 HP
          have LI := Lib.hid (show (F0 ++ mpB mp).length = 12 + 9 * k + 4 * j by rw [List.length_append, LN0.out, mpB_len, show mp.length = j from LMP.out])
          rw [← HT.out] at T LI
          clear HT LN0
          generalize (Im.mk q sg ix gs mp).body = D0 at *
          obtain ⟨AI, cI, hv, hcI, hmI, _, hhI, hxI⟩ := own_slice T.out.own
          have TD := Lib.hid (show Tld w wr wr.heap.size #[.int .i64 (m : Int), .int .i64 (b : Int), .int .i64 (k : Int), .int .i64 (s : Int), .int .i64 (n : Int), .int .i64 (j : Int)] AI D0.length D0 (.slice none 0 0) [] from ⟨T.out.shp, hhI, fun h0 x hx => ⟨(hxI x hx).2.1, by simp [Value.ownBlock]⟩, World.ownsRow_nil _ _ _ _, fun x hx => (by cases hx), fun x hx => (by cases hx), List.Pairwise.nil, fun j hj => by simp [Value.ownBlock] at hj, ⟨T.out.base, Nat.le_refl _⟩, T.out.bel⟩)
          have CI := Lib.hid (And.intro hcI hmI)
          subst hv
          clear T hcI hmI hhI hxI
          have DN := Lib.hid (show D0.length ≤ np * P by rw [LI.out]; exact NG.out)
          have DX := Lib.hid (show np * P ≤ D0.length + P - 1 by rw [LI.out]; exact NL.out)
          have hDl : D0.length ≤ 60000 := Nat.le_trans DN.out NM.out
          clear LI NG NL
          go_wp2
          go_loopw [7, 12, 13] (fun va vo vi wr => ∃ (i2 : Nat) (A2 : Option Addr) (c2 n2 : Nat) (X : List (BitVec 8)) (Lp : List Sl), i2 ≤ np ∧ vi = .int .i64 i2 ∧ va = .slice A2 n2 c2 ∧ X = D0.drop (i2 * P) ∧ n2 ≤ c2 ∧ c2 ≤ maxLen ∧ Tld w wr wr.heap.size #[.int .i64 (m : Int), .int .i64 (b : Int), .int .i64 (k : Int), .int .i64 (s : Int), .int .i64 (n : Int), .int .i64 (j : Int)] A2 n2 X vo Lp ∧ byts Lp = sheets (pad D0 (np * P)) gen P i2 ∧ ∀ x ∈ Lp, x.n = P + 15) (fun va _ _ _ => lenV va)
          case atStart => exact ⟨0, AI, cI, D0.length, D0, [], Nat.zero_le _, rfl, rfl, by simp, CI.out.1, CI.out.2, TD.out, rfl, fun x hx => (by cases hx)⟩
          case round =>
            clear TD CI
            obtain ⟨i2, A2, c2, n2, X, Lp, hi2, rfl, rfl, hX, hc2, hm2, hT, hby, hxn⟩ := hrel
            have TD := Lib.hid hT
            have XE := Lib.hid hX
            have BY := Lib.hid hby
            have XN := Lib.hid hxn
            have LX := Lib.hid (show X.length = n2 from hT.all.1)
            have hn2 : n2 ≤ 60000 := by rw [← hT.all.1, hX, List.length_drop]; omega
            have hlx : n2 = D0.length - i2 * P := by rw [← hT.all.1, hX, List.length_drop]
            have HX := Lib.hid hlx
            unfold maxLen at hm2
            clear hT hX hby hxn hlx
            by_cases h0 : 0 < n2
            · obtain ⟨bb, off, rfl⟩ := TD.out.all.some_ h0
              have hlt2 : i2 < np := by
                have h9 := HX.out
                exact Nat.lt_of_mul_lt_mul_right (a := P) (Nat.lt_of_lt_of_le (show i2 * P < D0.length by omega) DN.out)
              have CP := Lib.hid (cut_pad D0 P np i2 hlt2 (by have := HX.out; omega) DN.out)
              rw [← XE.out] at CP
              have hgtr : decide ((0 : Int) < (n2 : Int)) = true := decide_eq_true (by omega)
              have TB := Lib.hid (show Tlb w (wr.alloc (.cells #[.int .u8 80] 5)) wr.heap.size #[.int .i64 (m : Int), .int .i64 (b : Int), .int .i64 (k : Int), .int .i64 (s : Int), .int .i64 (n : Int), .int .i64 (j : Int)] (some ⟨bb, off, none⟩) n2 X u12 Lp (.slice (some ⟨wr.heap.size, 0, none⟩) 1 1) (low 80 1) from ⟨TD.out.new (S := fun _ => False) ((But.refl _ _).alloc _) (fun _ e => e.elim), own_base (own_byte (w := wr) (k := 80) (by omega)) (fun j hj => by simp [Value.ownBlock] at hj; have := TD.out.lt; omega), fun j hj => by simp [Value.ownBlock] at hj; omega⟩)
              clear TD
              go_wp2_with fail
              refine (put_any 8 gen _ (by omega) hgen).mono ?_
              rintro e wz ⟨vz, rfl, hf⟩
              obtain ⟨Az, cz, rfl, _, _, _, hh, _⟩ := own_slice hf.1
              obtain ⟨Sz, rfl⟩ := some_of hh (by omega)
              have TB := Lib.hid (TB.out.up hf.2)
              have HH := Lib.hid hh
              clear hf hh
              go_wp2_with (at_builtin; refine wpList_append_has rfl (.tmp 67) (.tmp 69) rfl (w.heap.size + 1 + 1) (.slice (some ⟨wr.heap.size, 0, none⟩) 1 1) 1 (low 80 1) rfl TB.out.bo (some Sz) 8 cz (low gen 8) rfl HH.out (fun e => by cases e) (by omega) TB.out.t.base ?_; intro A3 c3 w3 hown3 hg3 hf3; have TB := Lib.hid (TB.out.grow (M' := low 80 1 ++ low gen 8) (by rw [List.map_append]; exact hown3) hg3 hf3); clear hown3 hg3 hf3)
              refine (put_any 2 i2 _ (by omega) (by omega)).mono ?_
              rintro e wz2 ⟨vz2, rfl, hf⟩
              obtain ⟨Az2, cz2, rfl, _, _, _, hh, _⟩ := own_slice hf.1
              obtain ⟨Sz2, rfl⟩ := some_of hh (by omega)
              have TB := Lib.hid (TB.out.up hf.2)
              have HH := Lib.hid hh
              clear hf hh
              obtain ⟨n1, hn1⟩ : ∃ y, y = min P n2 := ⟨_, rfl⟩
              have hmin := fun (w : World) => run_min2 (P := Try.prog) w #[3, 3] 3 ((b : Int) - 15) (n2 : Int) (n1 : Int) (by rw [hn1]; have := PB.out; omega)
              have hn1b : 1 ≤ n1 ∧ n1 ≤ n2 ∧ n1 ≤ 497 := by omega
              have N1 := Lib.hid hn1
              clear hn1
              go_wp2_with (at_builtin; refine wpList_append_has rfl (.tmp 70) (.tmp 73) rfl (w.heap.size + 1 + 1) (.slice A3 9 c3) 9 (low 80 1 ++ low gen 8) rfl TB.out.bo (some Sz2) 2 cz2 (low i2 2) rfl HH.out (fun e => by cases e) (by omega) TB.out.t.base ?_; intro A4 c4 w4 hown4 hg4 hf4; have TB := Lib.hid (show Tlb w w4 wr.heap.size #[.int .i64 (m : Int), .int .i64 (b : Int), .int .i64 (k : Int), .int .i64 (s : Int), .int .i64 (n : Int), .int .i64 (j : Int)] (some ⟨bb, off, none⟩) n2 X u12 Lp (.slice A4 11 c4) (mark gen i2) from TB.out.grow (M' := mark gen i2) (by have h := hown4; rw [← List.map_append] at h; exact h) hg4 hf4); have k1 := TB.out.t.shp.cell 1; clear hown4 hg4 hf4)
              clear k1 hmin HH
              refine wp_region_early (fun _ : World => True) (fun _ => true) (by kernel_rfl) ?_
              change wpEarly _ _ _ _ _ _ 10 (Array.replicate 10 false) _ w4.drew
              have TB := Lib.hid (TB.out.up (below_drew (Below.refl _ _)))
              generalize w4.drew = w5 at *
              obtain ⟨A9, hA9⟩ : ∃ y, y = (if c2 = n1 then (some ⟨bb, off, none⟩ : Option Addr) else some ⟨bb, off + n1, none⟩) := ⟨_, rfl⟩
              refine early_take (i := 0) 81 (.slice A4 11 c4) rfl rfl (by kernel_rfl) (by kernel_rfl) (by kernel_rfl) (by kernel_rfl) rfl (fun _ _ _ h => h) (fun w' hw' => by go_simp) trivial ?_
              simp only [Act.put, List.setIfInBounds_toArray, List.set_cons_zero, List.set_cons_succ]
              refine early_take (i := 1) 82 (.slice (some ⟨bb, off, none⟩) n2 c2) rfl rfl (by kernel_rfl) (by kernel_rfl) (by kernel_rfl) (by kernel_rfl) rfl (fun _ _ _ h => h) (fun w' hw' => by go_simp) trivial ?_
              simp only [Act.put, List.setIfInBounds_toArray, List.set_cons_zero, List.set_cons_succ]
              refine early_take (i := 2) 83 (.int .i64 (n1 : Int)) rfl rfl (by kernel_rfl) (by kernel_rfl) (by kernel_rfl) (by kernel_rfl) rfl (fun _ _ _ h => h) (fun w' hw' => by go_simp) trivial ?_
              simp only [Act.put, List.setIfInBounds_toArray, List.set_cons_zero, List.set_cons_succ]
              refine early_take (i := 3) 84 (.slice (some ⟨bb, off, none⟩) n1 c2) rfl rfl (by kernel_rfl) (by kernel_rfl) (by kernel_rfl) (by kernel_rfl) rfl (fun _ _ _ h => h) (fun w' hw' => by go_simp; intro h9; omega) trivial ?_
              simp only [Act.put, List.setIfInBounds_toArray, List.set_cons_zero, List.set_cons_succ]
              refine early_take (i := 5) 86 (.slice (some ⟨bb, off, none⟩) n2 c2) rfl rfl (by kernel_rfl) (by kernel_rfl) (by kernel_rfl) (by kernel_rfl) rfl (fun _ _ _ h => h) (fun w' hw' => by go_simp) trivial ?_
              simp only [Act.put, List.setIfInBounds_toArray, List.set_cons_zero, List.set_cons_succ]
              refine early_take (i := 6) 87 (.int .i64 (n1 : Int)) rfl rfl (by kernel_rfl) (by kernel_rfl) (by kernel_rfl) (by kernel_rfl) rfl (fun _ _ _ h => h) (fun w' hw' => by go_simp) trivial ?_
              simp only [Act.put, List.setIfInBounds_toArray, List.set_cons_zero, List.set_cons_succ]
              refine early_take (i := 7) 88 (.slice A9 (n2 - n1) (c2 - n1)) rfl rfl (by kernel_rfl) (by kernel_rfl) (by kernel_rfl) (by kernel_rfl) rfl (fun _ _ _ h => h) (fun w' hw' => by go_simp <;> (rw [if_pos (by omega), hA9])) trivial ?_
              simp only [Act.put, List.setIfInBounds_toArray, List.set_cons_zero, List.set_cons_succ]
              refine early_only (i := 4) (by kernel_rfl) rfl (fun K hK => ?_)
              simp only [opWp, List.getElem?_toArray, List.getElem?_cons_succ, List.getElem?_cons_zero]
              refine wp_append_has (.tmp 81) (.tmp 84) rfl (w.heap.size + 1 + 1) (.slice A4 11 c4) 11 (mark gen i2) rfl TB.out.bo ⟨bb, off, none⟩ n1 c2 (X.take n1) rfl (TB.out.t.all.take n1 (by omega)) (by omega) TB.out.t.base ?_
              intro A6 c6 w6 hown hgr hwh
              obtain ⟨v6, hv⟩ : ∃ v, v = Value.slice A6 (11 + n1) c6 := ⟨_, rfl⟩
              rw [← hv] at hown hwh ⊢
              have TB := Lib.hid (TB.out.grow hown hgr hwh)
              have hlen6 : lenV v6 = 11 + n1 := by rw [hv]; rfl
              clear hown hgr hwh hv
              refine hK _ _ (fun _ => trivial) ?_
              clear hK
              simp only [Act.put, List.setIfInBounds_toArray, List.set_cons_zero, List.set_cons_succ]
              refine early_take (i := 8) 14 v6 rfl rfl (by kernel_rfl) (by kernel_rfl) (by kernel_rfl) (by kernel_rfl) rfl (fun _ _ _ h => h) (fun w' hw' => by go_simp) trivial ?_
              simp only [Act.put, List.setIfInBounds_toArray, List.set_cons_zero, List.set_cons_succ]
              refine early_take (i := 9) 7 (.slice A9 (n2 - n1) (c2 - n1)) rfl rfl (by kernel_rfl) (by kernel_rfl) (by kernel_rfl) (by kernel_rfl) rfl (fun _ _ _ h => h) (fun w' hw' => by go_simp) trivial ?_
              simp only [Act.put, List.setIfInBounds_toArray, List.set_cons_zero, List.set_cons_succ]
              refine early_done (by kernel_rfl) ?_
              have TB := Lib.hid (show Tlb w w6 wr.heap.size #[.int .i64 (m : Int), .int .i64 (b : Int), .int .i64 (k : Int), .int .i64 (s : Int), .int .i64 (n : Int), .int .i64 (j : Int)] A9 (n2 - n1) (X.drop n1) u12 Lp v6 (mark gen i2 ++ X.take n1) from by
                have h9 := TB.out
                refine ⟨h9.t.rest ?_ (fun h1 => ⟨h0, fun x hx => ?_⟩), h9.bo, h9.bh⟩
                · rw [hA9]
                  split
                  · rename_i e
                    have e0 : n2 - n1 = 0 := by omega
                    rw [e0, List.drop_of_length_le (by rw [LX.out]; omega)]
                    exact Has.nil _ _
                  · exact h9.t.all.drop n1 (by omega)
                · rw [hA9] at hx
                  refine ⟨⟨bb, off, none⟩, rfl, ?_⟩
                  split at hx <;> (injection hx with hx; subst hx; rfl))
              have QT := Lib.hid (show X.take n1 = X.take P by rw [N1.out]; rcases Nat.le_total P n2 with h | h; rw [Nat.min_eq_left h]; rw [Nat.min_eq_right h, List.take_of_length_le (by rw [LX.out]; omega), List.take_of_length_le (by rw [LX.out]; omega)])
              have QL := Lib.hid (show (mark gen i2 ++ X.take n1).length = 11 + n1 by rw [List.length_append, mark_len, List.length_take, LX.out]; omega)
              have QF := Lib.hid (show pad (mark gen i2 ++ X.take n1) (11 + P) = mark gen i2 ++ cut (pad D0 (np * P)) P i2 by
                rw [CP.out, QT.out]
                unfold pad
                rw [List.append_assoc, List.length_append, mark_len, show 11 + P - (11 + (X.take P).length) = P - (X.take P).length by omega])
              generalize mark gen i2 ++ X.take n1 = Q at *
              clear hA9 CP QT
              generalize hH0 : wr.heap.size = H0 at *
              clear hH0
              go_wp2_with fail
              go_loopw [14] (fun vb wx => ∃ j2 : Nat, 11 + n1 ≤ j2 ∧ j2 ≤ 11 + P ∧ lenV vb = j2 ∧ Tlb w wx H0 #[.int .i64 (m : Int), .int .i64 (b : Int), .int .i64 (k : Int), .int .i64 (s : Int), .int .i64 (n : Int), .int .i64 (j : Int)] A9 (n2 - n1) (X.drop n1) u12 Lp vb (pad Q j2)) (fun vb _ => 11 + P - lenV vb)
              case atStart => exact ⟨11 + n1, Nat.le_refl _, by have := N1.out; omega, hlen6, by rw [pad_self QL.out]; exact TB.out⟩
              case round =>
                clear TB
                obtain ⟨j2, hj, hjb, hlen, hT⟩ := hrel
                obtain ⟨A5, c5, e5, _, _, hnil, hh5, _⟩ := own_slice hT.bo
                have hpl : (pad Q j2).length = j2 := pad_len Q j2 (by rw [QL.out]; exact hj)
                rw [hpl] at e5 hh5
                subst e5
                have TB := Lib.hid hT
                have PL := Lib.hid hpl
                have H5 := Lib.hid hh5
                have hbP : (b : Int) - 4 = ((11 + P : Nat) : Int) := by have := PB.out; omega
                have k1 := hT.t.shp.cell 1
                clear hlen hT hpl hnil hh5
                by_cases hlt3 : j2 < 11 + P
                · have hd3 : decide ((j2 : Int) < (b : Int) - 4) = true := decide_eq_true (by omega)
                  go_wp2_with (at_builtin; refine wpList_append_has rfl (.tmp 95) (.tmp 96) rfl (w.heap.size + 1 + 1) (.slice A5 j2 c5) j2 (pad Q j2) rfl (own_len (own_below TB.out.bo (BB1 _ _)) PL.out) (some ⟨wr.heap.size, 0, none⟩) 1 1 [0#8] rfl (one_nought wr) (fun e => by cases e) (by omega) (by have := TB.out.t.base; simp; omega) ?_; intro A3 c3 w3 hown3 hg3 hf3; have R := Lib.hid ((TB.out.up (BB1 wr (.cells #[.int .u8 0] 5))).grow (M' := pad Q (j2 + 1)) (by rw [← fill_next Q j2 (by rw [QL.out]; exact hj), List.map_append]; exact hown3) hg3 hf3); clear hown3 hg3 hf3)
                  go_roundw
                  case rel => exact ⟨j2 + 1, by omega, by omega, rfl, R.out⟩
                  case measure => simp [lenV]; omega
                · obtain rfl : j2 = 11 + P := by omega
                  have hd3 : decide (((11 + P : Nat) : Int) < (b : Int) - 4) = false := decide_eq_false (by omega)
                  rw [QF.out] at TB H5
                  have SE := Lib.hid (show sealL (mark gen i2 ++ cut (pad D0 (np * P)) P i2) = sheet gen i2 (cut (pad D0 (np * P)) P i2) from rfl)
                  have SN := Lib.hid (sheets_next (pad D0 (np * P)) gen P i2)
                  generalize mark gen i2 ++ cut (pad D0 (np * P)) P i2 = F at *
                  go_wp2_with fail
                  refine (sealed_any A5 (11 + P) c5 F wr (by omega) H5.out).mono ?_
                  rintro e w7 ⟨v7, rfl, hf7⟩
                  rw [SE.out] at hf7
                  obtain ⟨A7, c7, rfl, hc7, hm7, hn7, hh7, hx7⟩ := own_slice hf7.1
                  have LT := Lib.hid TB.out.t.lt.2
                  have TB := Lib.hid (TB.out.up hf7.2)
                  have OX := Lib.hid (show w7.ownsRow (w.heap.size + 1 + 1) 5 1 (.slice A7 (11 + P + 4) c7) (11 + P + 4) ((sheet gen i2 (cut (pad D0 (np * P)) P i2)).map val) from own_base hf7.1 (fun y hy => by have := (hf7.1.lt y hy).1; have := LT.out; have := TB.out.t.lt.1; omega))
                  have OH := Lib.hid (show ∀ y, (Value.slice A7 (11 + P + 4) c7).ownBlock = some y → H0 ≤ y from fun y hy => by have := (hf7.1.lt y hy).1; have := LT.out; omega)
                  clear hf7 hc7 hm7 hn7 hh7 hx7 H5
                  have KL := Lib.hid (show Lp.length = i2 by have := congrArg List.length BY.out; rw [byts_len, sheets_len] at this; exact this)
                  go_wp2_with (at_builtin; refine wpList_append_ln rfl (.tmp 98) (.tmp 101) rfl (w.heap.size + 1 + 1) u12 Lp.length Lp rfl (own_below TB.out.t.own (BB1 _ _)) ⟨w7.heap.size, 0, none⟩ 1 1 [⟨A7, 11 + P + 4, c7, sheet gen i2 (cut (pad D0 (np * P)) P i2)⟩] rfl rfl (ln_src ⟨A7, 11 + P + 4, c7, sheet gen i2 (cut (pad D0 (np * P)) P i2)⟩ (At.new _ 42 rfl)) (by rw [KL.out]; omega) (by have := TB.out.t.base; simp; omega) ?_; intro A10 c10 w10 hown hgr hfr; have R := Lib.hid (TB.out.t.push (x := ⟨A7, 11 + P + 4, c7, sheet gen i2 (cut (pad D0 (np * P)) P i2)⟩) ((But.refl _ _).alloc (.cells #[.slice A7 (11 + P + 4) c7] 42)) (own_below OX.out (BB1 _ _)) OH.out hown hgr hfr); clear hown hgr hfr)
                  refine ⟨⟨i2 + 1, A9, c2 - n1, n2 - n1, X.drop n1, Lp ++ [⟨A7, 11 + P + 4, c7, sheet gen i2 (cut (pad D0 (np * P)) P i2)⟩], by omega, by go_num, rfl, ?_, by omega, by unfold maxLen; omega, R.out, ?_, fun x hx => ?_⟩, by simp [lenV]; omega⟩
                  · rw [XE.out, List.drop_drop, N1.out]
                    rcases Nat.le_total P n2 with h | h
                    · rw [Nat.min_eq_left h, Nat.add_mul, Nat.one_mul]
                    · rw [Nat.min_eq_right h, List.drop_of_length_le (by have := HX.out; omega), List.drop_of_length_le (by rw [Nat.add_mul]; have := HX.out; omega)]
                  · rw [SN.out, ← BY.out]
                    simp [byts]
                  · rcases List.mem_append.1 hx with hx | hx
                    · exact XN.out x hx
                    · simp at hx; subst hx
                      show 11 + P + 4 = P + 15
                      omega
            · obtain rfl : n2 = 0 := by omega
              obtain rfl : i2 = np := by
                have h9 := HX.out
                have h8 := DX.out
                have h7 : np * P < (i2 + 1) * P := by rw [Nat.add_mul, Nat.one_mul]; omega
                have := Nat.lt_of_mul_lt_mul_right h7
                omega
              have KL := Lib.hid (show Lp.length = i2 by have := congrArg List.length BY.out; rw [byts_len, sheets_len] at this; exact this)
              go_wp2
              go_ret
              refine ⟨_, Lp, rfl, ?_, BY.out, fun x hx => ⟨XN.out x hx, ?_⟩, fun x hx j2 hj2 => (TD.out.pw x hx j2 hj2).2, TD.out.dis, TD.out.bel⟩
              · have h9 := TD.out.own
                rw [KL.out] at h9
                exact own_base h9 (fun y hy => by have := (h9.lt y hy).1; omega)
              · exact own_base (TD.out.pg x hx) (fun y hy => by have := ((TD.out.pg x hx).lt y hy).1; omega)
end Go.Proofs.Ytlmponcoghfghaa
