/-
  THE WALK OF Make: an image of a shape, by small numbers.
-/
import Derived.Test.YtlmponcoghfghaaShps
import Derived.Test.YtlmponcoghfghaaEarly
import Derived.Test.YtlmponcoghfghaaEnds
namespace Go.Proofs.Ytlmponcoghfghaa
open Go.RowKit
set_option linter.unusedVariables false
set_option maxRecDepth 100000


/-- The slice (A, n) holds the cells L. -/
def Cls (w : World) (A : Option Addr) (n : Nat) (L : List Sg) : Prop :=
  L.length = n ∧ (0 < n → ∃ b off, A = some ⟨b, off, none⟩ ∧ b < w.heap.size ∧ ∀ k (h : k < L.length), w.cell? ⟨b, off + k * 2, none⟩ = some (.int .u8 (L[k].st : Int)) ∧ w.cell? ⟨b, off + k * 2 + 1, none⟩ = some (.int .u64 (L[k].bo : Int))) ∧ ∀ x ∈ L, x.fits
section
variable {w w' : World} {A : Option Addr} {n : Nat} {L : List Sg}
theorem Cls.some_ (h : Cls w A n L) (hn : 0 < n) : ∃ b off, A = some ⟨b, off, none⟩ := by
  obtain ⟨b, off, e, _⟩ := h.2.1 hn
  exact ⟨b, off, e⟩
theorem Cls.cell {b off : Nat} (h : Cls w (some ⟨b, off, none⟩) n L) (k : Nat) (hk : k < n) : w.cell? ⟨b, off + k * 2, none⟩ = some (.int .u8 ((L[k]'(by rw [h.1]; exact hk)).st : Int)) ∧ w.cell? ⟨b, off + k * 2 + 1, none⟩ = some (.int .u64 ((L[k]'(by rw [h.1]; exact hk)).bo : Int)) := by
  obtain ⟨b', off', e, hb, hc⟩ := h.2.1 (by omega)
  injection e with e
  injection e with e1 e2
  subst e1 e2
  exact hc k (by rw [h.1]; exact hk)
theorem Cls.below (h : Cls w A n L) (hb : Below w.heap.size w w') : Cls w' A n L :=
  ⟨h.1, fun h0 => by
    obtain ⟨b, off, e, hlt, hc⟩ := h.2.1 h0
    exact ⟨b, off, e, Nat.lt_of_lt_of_le hlt hb.size, fun k hk => ⟨(hb.cell (p := ⟨b, off + k * 2, none⟩) hlt).trans (hc k hk).1, (hb.cell (p := ⟨b, off + k * 2 + 1, none⟩) hlt).trans (hc k hk).2⟩⟩, h.2.2⟩
end
def shrt (L : List Nat) : List Value := L.map fun (p : Nat) => Value.int .u16 (p : Int)
theorem shrt_len (L : List Nat) : (shrt L).length = L.length := by simp [shrt]
theorem shrt_get (L : List Nat) (k : Nat) (h : k < L.length) : (shrt L)[k]'(by rw [shrt_len]; exact h) = .int .u16 (L[k] : Int) := by simp [shrt]

def mkS (z : Int) (g : Nat) : Nat := if z < 0 then 0 else z.toNat % g + 1
def mkG (L : List Sg) (k : Nat) : Sg := ⟨(L.getD k ⟨0, 0⟩).st % 3, (L.getD k ⟨0, 0⟩).bo⟩
def mkP (M : List Nat) (T k : Nat) : Nat := M.getD k 0 % (T + 1)
def mkGs (L : List Sg) (g : Nat) : List Sg := (List.range g).map (mkG L)
def mkPs (M : List Nat) (T l : Nat) : List Nat := (List.range l).map (mkP M T)
def mkI (q : Nat) (z : Int) (ix : Nat) (L : List Sg) (M : List Nat) (m g s l : Nat) : Im := ⟨q, mkS z g, ix % s, mkGs L g, mkPs M (g * s * (m - 2)) l⟩
theorem mkG_yes {L : List Sg} {k : Nat} (h : k < L.length) : mkG L k = ⟨L[k].st % 3, L[k].bo⟩ := by simp [mkG, h]
theorem mkG_no {L : List Sg} {k : Nat} (h : ¬ k < L.length) : mkG L k = ⟨0, 0⟩ := by simp [mkG, h]
theorem mkP_yes {M : List Nat} {T k : Nat} (h : k < M.length) : mkP M T k = M[k] % (T + 1) := by simp [mkP, h]
theorem mkP_no {M : List Nat} {T k : Nat} (h : ¬ k < M.length) : mkP M T k = 0 := by simp [mkP, h]
theorem mkGs_len (L : List Sg) (g : Nat) : (mkGs L g).length = g := by simp [mkGs]
theorem mkPs_len (M : List Nat) (T l : Nat) : (mkPs M T l).length = l := by simp [mkPs]
theorem mkGs_next (L : List Sg) (g : Nat) : mkGs L (g + 1) = mkGs L g ++ [mkG L g] := by simp [mkGs, List.range_succ]
theorem mkPs_next (M : List Nat) (T l : Nat) : mkPs M T (l + 1) = mkPs M T l ++ [mkP M T l] := by simp [mkPs, List.range_succ]
theorem mkS_le {z : Int} {g : Nat} (hg : 0 < g) : mkS z g ≤ g := by
  unfold mkS
  split
  · omega
  · exact Nat.mod_lt _ hg
theorem mkI_fine {q ix : Nat} {z : Int} {L : List Sg} {M : List Nat} {m g s l : Nat} (hg : 0 < g) (hs : 0 < s) : (mkI q z ix L M m g s l).fine m g s := by
  refine ⟨⟨mkS_le hg, Nat.mod_lt _ hs⟩, fun y hy => ?_, fun p hp => ?_⟩
  · obtain ⟨k, _, rfl⟩ := List.mem_map.1 hy
    show _ % 3 ≤ 2
    omega
  · obtain ⟨k, _, rfl⟩ := List.mem_map.1 hp
    exact Nat.le_of_lt_succ (Nat.mod_lt _ (by omega))
theorem prod_le {m b g s l : Nat} (h : Bnd m b g s l) : g * s * (m - 2) ≤ 14336 := by
  have h1 : g * s ≤ 64 * 16 := Nat.mul_le_mul h.g.2 h.s.2
  have h2 : g * s * (m - 2) ≤ 1024 * 14 := Nat.mul_le_mul (by omega) (by have := h.m; omega)
  omega
theorem mkI_fits {q ix : Nat} {z : Int} {L : List Sg} {M : List Nat} {m b g s l : Nat} (h : Bnd m b g s l) (hq : q < 18446744073709551616) (hL : ∀ x ∈ L, x.fits) : (mkI q z ix L M m g s l).fits := by
  have hF := mkI_fine (q := q) (ix := ix) (z := z) (L := L) (M := M) (m := m) (g := g) (s := s) (l := l) (by have := h.g; omega) (by have := h.s; omega)
  have hg := h.g; have hs := h.s; have hp := prod_le h
  refine ⟨hq, by have := hF.1.1; omega, by have := hF.1.2; omega, fun y hy => ?_, fun p hp' => by have := hF.2.2 p hp'; omega⟩
  obtain ⟨k, _, rfl⟩ := List.mem_map.1 hy
  refine ⟨show _ % 3 < 256 by omega, ?_⟩
  show (L.getD k ⟨0, 0⟩).bo < _
  by_cases hk : k < L.length
  · rw [List.getD_eq_getElem?_getD, List.getElem?_eq_getElem hk]
    exact (hL _ (List.getElem_mem hk)).2
  · rw [List.getD_eq_getElem?_getD, List.getElem?_eq_none (by omega)]
    show (0 : Nat) < _
    omega

/-- Shape, small numbers, answer and image in four blocks; both rows of the image, apart from one another. -/
structure Mkg (w0 w : World) (sc xc : Array Value) (q S I : Nat) (vG vM : Value) (gs : List Sg) (mp : List Nat) : Prop where
  shp : At w w0.heap.size sc 32
  sml : At w (w0.heap.size + 1) xc 29
  res : At w (w0.heap.size + 1 + 1) zcs 37
  box : At w (w0.heap.size + 1 + 1 + 1) #[.int .u64 (q : Int), .int .i64 ((S : Int) - 1), .int .i64 (I : Int), vG, vM] 37
  og : w.ownsRow (w0.heap.size + 1 + 1 + 1 + 1) 58 2 vG gs.length (flat gs)
  om : w.ownsRow (w0.heap.size + 1 + 1 + 1 + 1) 3 1 vM mp.length (ints mp)
  apart : ∀ k, vG.ownBlock = some k → vM.ownBlock ≠ some k
  bel : Below w0.heap.size w0 w
section
variable {w0 w : World} {sc xc : Array Value} {q S I : Nat} {vG vM : Value} {gs : List Sg} {mp : List Nat}
theorem Mkg.base (h : Mkg w0 w sc xc q S I vG vM gs mp) : w0.heap.size + 1 + 1 + 1 + 1 ≤ w.heap.size := h.box.lt
theorem Mkg.up {w' : World} (h : Mkg w0 w sc xc q S I vG vM gs mp) (hb : Below w.heap.size w w') : Mkg w0 w' sc xc q S I vG vM gs mp :=
  ⟨h.shp.below hb h.shp.lt, h.sml.below hb h.sml.lt, h.res.below hb h.res.lt, h.box.below hb h.box.lt, own_below h.og hb, own_below h.om hb, h.apart, h.bel.trans (hb.mono h.bel.size)⟩
/-- A segment more. -/
theorem Mkg.pushG {wa w2 : World} {x : Sg} {n c : Nat} {A : Option Addr} (h : Mkg w0 w sc xc q S I vG vM gs mp) (ha : Below w.heap.size w wa) (hown : w2.ownsRow (w0.heap.size + 1 + 1 + 1 + 1) 58 2 (.slice A n c) n (flat (gs ++ [x]))) (hg : wa.grownBy w2 vG.ownBlock)
    (hf : ∀ g, (Value.slice A n c).ownBlock = some g → vG.ownBlock = some g ∨ wa.heap.size ≤ g) :
    At w2 (w0.heap.size + 1 + 1 + 1) #[.int .u64 (q : Int), .int .i64 ((S : Int) - 1), .int .i64 (I : Int), vG, vM] 37 ∧ Mkg w0 (w2.setCell ⟨w0.heap.size + 1 + 1 + 1, 3, none⟩ (.slice A n c)) sc xc q S I (.slice A n c) vM (gs ++ [x]) mp := by
  have h1 := h.up ha
  have lo : ∀ k, vG.ownBlock = some k → w0.heap.size + 1 + 1 + 1 + 1 ≤ k := fun k hk => (h.og.lt k hk).1
  have lm : ∀ k, vM.ownBlock = some k → w0.heap.size + 1 + 1 + 1 + 1 ≤ k ∧ k < wa.heap.size := fun k hk => h1.om.lt k hk
  have bt : But (fun k => vG.ownBlock = some k) wa w2 := (But.refl _ _).grown hg (fun k hk _ => hk)
  have hn : n = (gs ++ [x]).length := by have := hown.1; rw [flat_len] at this; omega
  have bs : But (fun k => k = w0.heap.size + 1 + 1 + 1) w2 (w2.setCell ⟨w0.heap.size + 1 + 1 + 1, 3, none⟩ (.slice A n c)) := (But.refl (fun k => k = w0.heap.size + 1 + 1 + 1) w2).setCell (p := ⟨w0.heap.size + 1 + 1 + 1, 3, none⟩) (fun _ => rfl) _
  have hx2 := h1.box.but bt (fun e => by have := lo _ e; omega)
  have hb2 : Below w0.heap.size w0 w2 := h1.bel.trans (bt.below (fun k e => by have := lo k e; omega) (by have := h1.base; omega))
  refine ⟨hx2, (h1.shp.but bt (fun e => by have := lo _ e; omega)).but bs (by omega), (h1.sml.but bt (fun e => by have := lo _ e; omega)).but bs (by omega), (h1.res.but bt (fun e => by have := lo _ e; omega)).but bs (by omega), hx2.set 3 _, ?_, ?_, ?_, hb2.setCell (by show w0.heap.size ≤ w0.heap.size + 1 + 1 + 1; omega) _⟩
  · rw [← hn]
    exact own_but hown bs (fun k hk e => by have := (hown.lt k hk).1; omega)
  · exact own_but (own_but h1.om bt (fun k hk e => h.apart k e hk)) bs (fun k hk e => by have := (lm k hk).1; omega)
  · intro k hk e
    rcases hf k hk with h2 | h2
    · exact h.apart k h2 e
    · have := (lm k e).2; omega
/-- A place more. -/
theorem Mkg.pushM {wa w2 : World} {x : Nat} {n c : Nat} {A : Option Addr} (h : Mkg w0 w sc xc q S I vG vM gs mp) (ha : Below w.heap.size w wa) (hown : w2.ownsRow (w0.heap.size + 1 + 1 + 1 + 1) 3 1 (.slice A n c) n (ints (mp ++ [x]))) (hg : wa.grownBy w2 vM.ownBlock)
    (hf : ∀ g, (Value.slice A n c).ownBlock = some g → vM.ownBlock = some g ∨ wa.heap.size ≤ g) :
    At w2 (w0.heap.size + 1 + 1 + 1) #[.int .u64 (q : Int), .int .i64 ((S : Int) - 1), .int .i64 (I : Int), vG, vM] 37 ∧ Mkg w0 (w2.setCell ⟨w0.heap.size + 1 + 1 + 1, 4, none⟩ (.slice A n c)) sc xc q S I vG (.slice A n c) gs (mp ++ [x]) := by
  have h1 := h.up ha
  have lo : ∀ k, vM.ownBlock = some k → w0.heap.size + 1 + 1 + 1 + 1 ≤ k := fun k hk => (h.om.lt k hk).1
  have lm : ∀ k, vG.ownBlock = some k → w0.heap.size + 1 + 1 + 1 + 1 ≤ k ∧ k < wa.heap.size := fun k hk => h1.og.lt k hk
  have bt : But (fun k => vM.ownBlock = some k) wa w2 := (But.refl _ _).grown hg (fun k hk _ => hk)
  have hn : n = (mp ++ [x]).length := by have := hown.1; rw [ints_len] at this; omega
  have bs : But (fun k => k = w0.heap.size + 1 + 1 + 1) w2 (w2.setCell ⟨w0.heap.size + 1 + 1 + 1, 4, none⟩ (.slice A n c)) := (But.refl (fun k => k = w0.heap.size + 1 + 1 + 1) w2).setCell (p := ⟨w0.heap.size + 1 + 1 + 1, 4, none⟩) (fun _ => rfl) _
  have hx2 := h1.box.but bt (fun e => by have := lo _ e; omega)
  have hb2 : Below w0.heap.size w0 w2 := h1.bel.trans (bt.below (fun k e => by have := lo k e; omega) (by have := h1.base; omega))
  refine ⟨hx2, (h1.shp.but bt (fun e => by have := lo _ e; omega)).but bs (by omega), (h1.sml.but bt (fun e => by have := lo _ e; omega)).but bs (by omega), (h1.res.but bt (fun e => by have := lo _ e; omega)).but bs (by omega), hx2.set 4 _, ?_, ?_, ?_, hb2.setCell (by show w0.heap.size ≤ w0.heap.size + 1 + 1 + 1; omega) _⟩
  · exact own_but (own_but h1.og bt (fun k hk e => h.apart k hk e)) bs (fun k hk e => by have := (lm k hk).1; omega)
  · rw [← hn]
    exact own_but hown bs (fun k hk e => by have := (hown.lt k hk).1; omega)
  · intro k hk e
    rcases hf k e with h2 | h2
    · exact h.apart k hk h2
    · have := (lm k hk).2; omega
end
theorem BB1 (w : World) (o : Obj) : Below w.heap.size w (w.alloc o) := (Below.refl _ _).alloc (Nat.le_refl _) _
theorem BB2 (w : World) (o p : Obj) : Below w.heap.size w ((w.alloc o).alloc p) := ((Below.refl _ _).alloc (Nat.le_refl _) _).alloc (by simp) _
theorem below_drew {B : Nat} {a w : World} (h : Below B a w) : Below B a w.drew := ⟨h.os, h.tape, h.output, h.size, h.block⟩
theorem run_max2' {P : Program} (w : World) (ts : Array TypeId) (t : TypeId) (x y X : Int) (h : X = max x y) : (Builtin.max_ ts t #[.int .i64 x, .int .i64 y]).run P w = .ok (.int .i64 X) w := run_max2 w ts t x y X h
theorem seg_rem (z : Int) (g : Nat) (hg : 4 ≤ g) : (max z (-1)).tmod (g : Int) = ((mkS z g : Nat) : Int) - 1 := by
  unfold mkS
  by_cases h : z < 0
  · rw [if_pos h, show max z (-1) = -1 by omega]
    have e1 : (-1 : Int).tmod (g : Int) = -((1 : Int).tmod (g : Int)) := Int.neg_tmod ..
    rw [e1, Int.tmod_eq_of_lt (by omega) (by omega)]
    omega
  · rw [if_neg h, show max z (-1) = z by omega]
    obtain ⟨k, rfl⟩ := Int.eq_ofNat_of_zero_le (show 0 ≤ z by omega)
    rw [Int.toNat_natCast]
    have : ((k : Int)).tmod (g : Int) = ((k % g : Nat) : Int) := rfl
    rw [this]
    omega
/-- What Make answers. -/
def Made (w : World) (x : Im) (e : Ending) (w' : World) : Prop :=
  ∃ A n c B m d, e = .returned (.agg (ics x.q x.s x.i A n c B m d)) ∧ Img w' A n B m x ∧ Below w.heap.size w w'

set_option maxHeartbeats 2000000 in
theorem make_any (m b g s n l : Nat) (hB : Bnd m b g s l) (q : Nat) (z : Int) (ix : Nat) (A : Option Addr) (na ca : Nat) (B : Option Addr) (nb cb : Nat) (L : List Sg) (M : List Nat) (w : World) (hz : -128 ≤ z ∧ z ≤ 127) (hix : ix < 256) (hL : Cls w A na L) (hM : Row w B nb (shrt M)) (hMl : ∀ p ∈ M, p < 65536) :
    Calls Try.prog 9 #[.agg #[.int .i64 (m : Int), .int .i64 (b : Int), .int .i64 (g : Int), .int .i64 (s : Int), .int .i64 (n : Int), .int .i64 (l : Int)], .agg #[.int .u64 (q : Int), .int .i8 z, .int .u8 (ix : Int), .slice A na ca, .slice B nb cb]] w (Made w (mkI q z ix L M m g s l)) := by
  have HL := Lib.hid hL
  have HM := Lib.hid hM
  have ML := Lib.hid hMl
  have BN := Lib.hid hB
  have LL := Lib.hid hL.1
  have LM := Lib.hid (show M.length = nb by have := hM.1; rw [shrt_len] at this; exact this)
  clear hL hM hMl
  obtain ⟨X, hX⟩ : ∃ X, X = max z (-1) := ⟨_, rfl⟩
  have hmax := fun (w : World) => run_max2' (P := Try.prog) w #[3, 3] 3 z (-1) X hX
  have hbX : -1 ≤ X ∧ X ≤ 127 := by omega
  obtain ⟨S, hS⟩ : ∃ S, S = mkS z g := ⟨_, rfl⟩
  have hg := hB.g; have hs := hB.s; have hl := hB.l
  have hrem : X.tmod (g : Int) = (S : Int) - 1 := by rw [hX, hS]; exact seg_rem z g hg.1
  obtain ⟨I, hI⟩ : ∃ I, I = ix % s := ⟨_, rfl⟩
  have hrem2 : ((ix : Int)).tmod (s : Int) = (I : Int) := by rw [hI]; rfl
  have SS := Lib.hid hS
  have II := Lib.hid hI
  have XX := Lib.hid hX
  clear hS hI hX hB
  go_enter Try.func9, Try.ntmps9
  go_wp2_with fail
  have S1 := Lib.hid (show At (((w.alloc (.cells #[.int .i64 (m : Int), .int .i64 (b : Int), .int .i64 (g : Int), .int .i64 (s : Int), .int .i64 (n : Int), .int .i64 (l : Int)] 32)).alloc (.cells #[.int .u64 (q : Int), .int .i8 z, .int .u8 (ix : Int), .slice A na ca, .slice B nb cb] 29)).alloc (.cells zcs 37)).drew w.heap.size #[.int .i64 (m : Int), .int .i64 (b : Int), .int .i64 (g : Int), .int .i64 (s : Int), .int .i64 (n : Int), .int .i64 (l : Int)] 32 from ((At.new _ _ rfl).alloc _).alloc _)
  have S2 := Lib.hid (show At (((w.alloc (.cells #[.int .i64 (m : Int), .int .i64 (b : Int), .int .i64 (g : Int), .int .i64 (s : Int), .int .i64 (n : Int), .int .i64 (l : Int)] 32)).alloc (.cells #[.int .u64 (q : Int), .int .i8 z, .int .u8 (ix : Int), .slice A na ca, .slice B nb cb] 29)).alloc (.cells zcs 37)).drew (w.heap.size + 1) #[.int .u64 (q : Int), .int .i8 z, .int .u8 (ix : Int), .slice A na ca, .slice B nb cb] 29 from (At.new _ _ (by simp)).alloc _)
  have S3 := Lib.hid (show At (((w.alloc (.cells #[.int .i64 (m : Int), .int .i64 (b : Int), .int .i64 (g : Int), .int .i64 (s : Int), .int .i64 (n : Int), .int .i64 (l : Int)] 32)).alloc (.cells #[.int .u64 (q : Int), .int .i8 z, .int .u8 (ix : Int), .slice A na ca, .slice B nb cb] 29)).alloc (.cells zcs 37)).drew (w.heap.size + 1 + 1) zcs 37 from At.new _ _ (by simp))
  have BW := Lib.hid (show Below w.heap.size w (((w.alloc (.cells #[.int .i64 (m : Int), .int .i64 (b : Int), .int .i64 (g : Int), .int .i64 (s : Int), .int .i64 (n : Int), .int .i64 (l : Int)] 32)).alloc (.cells #[.int .u64 (q : Int), .int .i8 z, .int .u8 (ix : Int), .slice A na ca, .slice B nb cb] 29)).alloc (.cells zcs 37)).drew from below_drew ((((Below.refl _ _).alloc (Nat.le_refl _) _).alloc (by simp) _).alloc (by simp; omega) _))
  have SZ := Lib.hid (show (((w.alloc (.cells #[.int .i64 (m : Int), .int .i64 (b : Int), .int .i64 (g : Int), .int .i64 (s : Int), .int .i64 (n : Int), .int .i64 (l : Int)] 32)).alloc (.cells #[.int .u64 (q : Int), .int .i8 z, .int .u8 (ix : Int), .slice A na ca, .slice B nb cb] 29)).alloc (.cells zcs 37)).drew.heap.size = w.heap.size + 1 + 1 + 1 by simp [World.drew])
  refine wp_region_early (fun w' : World => At w' w.heap.size #[.int .i64 (m : Int), .int .i64 (b : Int), .int .i64 (g : Int), .int .i64 (s : Int), .int .i64 (n : Int), .int .i64 (l : Int)] 32 ∧ At w' (w.heap.size + 1) #[.int .u64 (q : Int), .int .i8 z, .int .u8 (ix : Int), .slice A na ca, .slice B nb cb] 29) (fun _ => true) (by kernel_rfl) ?_
  change wpEarly _ _ _ _ _ _ 18 (Array.replicate 18 false) _ (((w.alloc (.cells #[.int .i64 (m : Int), .int .i64 (b : Int), .int .i64 (g : Int), .int .i64 (s : Int), .int .i64 (n : Int), .int .i64 (l : Int)] 32)).alloc (.cells #[.int .u64 (q : Int), .int .i8 z, .int .u8 (ix : Int), .slice A na ca, .slice B nb cb] 29)).alloc (.cells zcs 37)).drew
  generalize (((w.alloc (.cells #[.int .i64 (m : Int), .int .i64 (b : Int), .int .i64 (g : Int), .int .i64 (s : Int), .int .i64 (n : Int), .int .i64 (l : Int)] 32)).alloc (.cells #[.int .u64 (q : Int), .int .i8 z, .int .u8 (ix : Int), .slice A na ca, .slice B nb cb] 29)).alloc (.cells zcs 37)).drew = wa at *
  have S0 := Lib.hid (And.intro S1.out S2.out)
  refine early_take (i := 0) 10 (.pointer (some ⟨w.heap.size + 1, 0, none⟩)) rfl rfl (by kernel_rfl) (by kernel_rfl) (by kernel_rfl) (by kernel_rfl) rfl (fun _ _ _ h => h) (fun w' hw' => by go_simp) S0.out ?_
  simp only [Act.put, List.setIfInBounds_toArray, List.set_cons_zero, List.set_cons_succ]
  refine early_take (i := 1) 11 (.int .u64 (q : Int)) rfl rfl (by kernel_rfl) (by kernel_rfl) (by kernel_rfl) (by kernel_rfl) rfl (fun _ _ _ h => h) (fun w' hw' => by have hc0 := hw'.2.cell 0; go_simp) S0.out ?_
  simp only [Act.put, List.setIfInBounds_toArray, List.set_cons_zero, List.set_cons_succ]
  refine early_take (i := 2) 12 (.pointer (some ⟨w.heap.size + 1, 1, none⟩)) rfl rfl (by kernel_rfl) (by kernel_rfl) (by kernel_rfl) (by kernel_rfl) rfl (fun _ _ _ h => h) (fun w' hw' => by go_simp) S0.out ?_
  simp only [Act.put, List.setIfInBounds_toArray, List.set_cons_zero, List.set_cons_succ]
  refine early_take (i := 3) 13 (.int .i8 z) rfl rfl (by kernel_rfl) (by kernel_rfl) (by kernel_rfl) (by kernel_rfl) rfl (fun _ _ _ h => h) (fun w' hw' => by have hc0 := hw'.2.cell 1; go_simp) S0.out ?_
  simp only [Act.put, List.setIfInBounds_toArray, List.set_cons_zero, List.set_cons_succ]
  refine early_take (i := 4) 14 (.int .i64 z) rfl rfl (by kernel_rfl) (by kernel_rfl) (by kernel_rfl) (by kernel_rfl) rfl (fun _ _ _ h => h) (fun w' hw' => by go_simp; exact wrap_of (by omega) (by omega)) S0.out ?_
  simp only [Act.put, List.setIfInBounds_toArray, List.set_cons_zero, List.set_cons_succ]
  refine early_take (i := 5) 15 (.int .i64 X) rfl rfl (by kernel_rfl) (by kernel_rfl) (by kernel_rfl) (by kernel_rfl) rfl (fun _ _ _ h => h) (fun w' hw' => by have h9 := hmax w'; go_simp) S0.out ?_
  simp only [Act.put, List.setIfInBounds_toArray, List.set_cons_zero, List.set_cons_succ]
  refine early_take (i := 6) 16 (.pointer (some ⟨w.heap.size, 2, none⟩)) rfl rfl (by kernel_rfl) (by kernel_rfl) (by kernel_rfl) (by kernel_rfl) rfl (fun _ _ _ h => h) (fun w' hw' => by go_simp) S0.out ?_
  simp only [Act.put, List.setIfInBounds_toArray, List.set_cons_zero, List.set_cons_succ]
  refine early_take (i := 7) 17 (.int .i64 (g : Int)) rfl rfl (by kernel_rfl) (by kernel_rfl) (by kernel_rfl) (by kernel_rfl) rfl (fun _ _ _ h => h) (fun w' hw' => by have hc0 := hw'.1.cell 2; go_simp) S0.out ?_
  simp only [Act.put, List.setIfInBounds_toArray, List.set_cons_zero, List.set_cons_succ]
  refine early_take (i := 8) 18 (.int .i64 ((S : Int) - 1)) rfl rfl (by kernel_rfl) (by kernel_rfl) (by kernel_rfl) (by kernel_rfl) rfl (fun _ _ _ h => h) (fun w' hw' => by go_simp; omega) S0.out ?_
  simp only [Act.put, List.setIfInBounds_toArray, List.set_cons_zero, List.set_cons_succ]
  refine early_take (i := 9) 19 (.pointer (some ⟨w.heap.size + 1, 2, none⟩)) rfl rfl (by kernel_rfl) (by kernel_rfl) (by kernel_rfl) (by kernel_rfl) rfl (fun _ _ _ h => h) (fun w' hw' => by go_simp) S0.out ?_
  simp only [Act.put, List.setIfInBounds_toArray, List.set_cons_zero, List.set_cons_succ]
  refine early_take (i := 10) 20 (.int .u8 (ix : Int)) rfl rfl (by kernel_rfl) (by kernel_rfl) (by kernel_rfl) (by kernel_rfl) rfl (fun _ _ _ h => h) (fun w' hw' => by have hc0 := hw'.2.cell 2; go_simp) S0.out ?_
  simp only [Act.put, List.setIfInBounds_toArray, List.set_cons_zero, List.set_cons_succ]
  refine early_take (i := 11) 21 (.int .i64 (ix : Int)) rfl rfl (by kernel_rfl) (by kernel_rfl) (by kernel_rfl) (by kernel_rfl) rfl (fun _ _ _ h => h) (fun w' hw' => by go_simp; exact wrap_of (by omega) (by omega)) S0.out ?_
  simp only [Act.put, List.setIfInBounds_toArray, List.set_cons_zero, List.set_cons_succ]
  refine early_take (i := 12) 22 (.pointer (some ⟨w.heap.size, 3, none⟩)) rfl rfl (by kernel_rfl) (by kernel_rfl) (by kernel_rfl) (by kernel_rfl) rfl (fun _ _ _ h => h) (fun w' hw' => by go_simp) S0.out ?_
  simp only [Act.put, List.setIfInBounds_toArray, List.set_cons_zero, List.set_cons_succ]
  refine early_take (i := 13) 23 (.int .i64 (s : Int)) rfl rfl (by kernel_rfl) (by kernel_rfl) (by kernel_rfl) (by kernel_rfl) rfl (fun _ _ _ h => h) (fun w' hw' => by have hc0 := hw'.1.cell 3; go_simp) S0.out ?_
  simp only [Act.put, List.setIfInBounds_toArray, List.set_cons_zero, List.set_cons_succ]
  refine early_take (i := 14) 24 (.int .i64 (I : Int)) rfl rfl (by kernel_rfl) (by kernel_rfl) (by kernel_rfl) (by kernel_rfl) rfl (fun _ _ _ h => h) (fun w' hw' => by go_simp; omega) S0.out ?_
  simp only [Act.put, List.setIfInBounds_toArray, List.set_cons_zero, List.set_cons_succ]
  refine early_take (i := 15) 25 (.agg #[.int .u64 (q : Int), .int .i64 ((S : Int) - 1), .int .i64 (I : Int), .slice none 0 0, .slice none 0 0]) rfl rfl (by kernel_rfl) (by kernel_rfl) (by kernel_rfl) (by kernel_rfl) rfl (fun _ _ _ h => h) (fun w' hw' => by go_simp) S0.out ?_
  simp only [Act.put, List.setIfInBounds_toArray, List.set_cons_zero, List.set_cons_succ]
  refine early_only (i := 16) (by kernel_rfl) rfl (fun K hK => ?_)
  simp only [opWp, List.getElem?_toArray, List.getElem?_cons_succ, List.getElem?_cons_zero]
  go_simp
  rw [SZ.out]
  have N5 := Lib.hid (At.new (w := wa) (g := w.heap.size + 1 + 1 + 1) zcs 37 SZ.out)
  have S1 := Lib.hid (S1.out.alloc (.cells zcs 37))
  have S2 := Lib.hid (S2.out.alloc (.cells zcs 37))
  have S3 := Lib.hid (S3.out.alloc (.cells zcs 37))
  have BW := Lib.hid (BW.out.alloc (by have := SZ.out; omega) (.cells zcs 37))
  clear SZ S0
  refine hK _ _ (fun _ => ⟨S1.out, S2.out⟩) ?_
  generalize wa.alloc (.cells zcs 37) = wb at *
  refine early_only (i := 17) (by kernel_rfl) rfl (fun K hK => ?_)
  simp only [opWp, List.getElem?_toArray, List.getElem?_cons_succ, List.getElem?_cons_zero]
  refine wp_store_part 37 (.tmp 5) (.tmp 25) rfl (w.heap.size + 1 + 1 + 1) 0 37 zcs #[.int .u64 (q : Int), .int .i64 ((S : Int) - 1), .int .i64 (I : Int), .slice none 0 0, .slice none 0 0] rfl rfl N5.out size37 (by simp) (by simp [Value.oneCell']) ?_
  intro wc hat hbc
  have MK := Lib.hid (show Mkg w wc #[.int .i64 (m : Int), .int .i64 (b : Int), .int .i64 (g : Int), .int .i64 (s : Int), .int .i64 (n : Int), .int .i64 (l : Int)] #[.int .u64 (q : Int), .int .i8 z, .int .u8 (ix : Int), .slice A na ca, .slice B nb cb] q S I (.slice none 0 0) (.slice none 0 0) [] [] from ⟨S1.out.but hbc (by omega), S2.out.but hbc (by omega), S3.out.but hbc (by omega), hat, World.ownsRow_nil _ _ _ _, World.ownsRow_nil _ _ _ _, fun k hk => by simp [Value.ownBlock] at hk, BW.out.trans (hbc.below (fun k e => by omega) BW.out.size)⟩)
  have S4 := Lib.hid (And.intro (S1.out.but hbc (by omega)) (S2.out.but hbc (by omega)))
  clear hat hbc S1 S2 S3 BW N5
  refine hK _ _ (fun _ => S4.out) ?_
  refine early_done (by kernel_rfl) ?_
  clear S4 hmax hbX hrem hrem2 XX
  have c2 := MK.out.shp.cell 2
  go_wp2
  clear c2
  go_loopw [28] (fun i wr => ∃ (k : Nat) (v : Value), k ≤ g ∧ i = .int .i64 k ∧ Mkg w wr #[.int .i64 (m : Int), .int .i64 (b : Int), .int .i64 (g : Int), .int .i64 (s : Int), .int .i64 (n : Int), .int .i64 (l : Int)] #[.int .u64 (q : Int), .int .i8 z, .int .u8 (ix : Int), .slice A na ca, .slice B nb cb] q S I v (.slice none 0 0) (mkGs L k) []) (fun i _ => g - (intOf i).toNat)
  case atStart => exact ⟨0, _, Nat.zero_le _, rfl, MK.out⟩
  case round =>
    clear MK
    obtain ⟨k, v, hk, rfl, hM⟩ := hrel
    have MK := Lib.hid hM
    have HH := Lib.hid (HL.out.below hM.bel)
    clear hM
    by_cases hlt : k < g
    · have EN := Lib.hid (mkGs_next L k)
      have OW := Lib.hid (show wr.ownsRow (w.heap.size + 1 + 1 + 1 + 1) 58 2 v k (flat (mkGs L k)) by have := MK.out.og; rw [mkGs_len] at this; exact this)
      by_cases hka : k < na
      · obtain ⟨bb, off, rfl⟩ := HL.out.some_ (by omega)
        have hkl : k < L.length := by rw [LL.out]; exact hka
        obtain ⟨hc, hc'⟩ := HH.out.cell k hka
        have hx := HL.out.2.2 L[k] (List.getElem_mem hkl)
        have EG := Lib.hid (mkG_yes hkl)
        obtain ⟨⟨Xs, Xb⟩, hxx⟩ : ∃ x, L[k] = x := ⟨_, rfl⟩
        rw [hxx] at hc hc' hx EG
        have HX := Lib.hid hxx
        clear hxx
        simp only at hc hc'
        obtain ⟨r, hr⟩ : ∃ r : Nat, Xs % 3 = r := ⟨_, rfl⟩
        have hri : (Xs : Int).tmod 3 = (r : Int) := by rw [← hr]; rfl
        have hri2 : (Xs : Int) % 3 = (r : Int) := by rw [← hr]; rfl
        have hr3 : r < 3 := by omega
        have RR := Lib.hid hr
        clear hr
        have hxs : Xs < 256 := hx.1
        clear hx
        have c3 := fun o => (MK.out.sml.alloc o).cell 3
        go_wp2_with fail
        clear c3
        have GB := Lib.hid (show At (wr.alloc (.cells #[.int .i64 0, .int .u64 0] 58)).drew wr.heap.size #[.int .i64 0, .int .u64 0] 58 from At.new _ _ rfl)
        have M1 := Lib.hid (MK.out.up (below_drew ((Below.refl wr.heap.size wr).alloc (Nat.le_refl _) (.cells #[.int .i64 0, .int .u64 0] 58))))
        have OW := Lib.hid (own_below OW.out (below_drew ((Below.refl wr.heap.size wr).alloc (Nat.le_refl _) (.cells #[.int .i64 0, .int .u64 0] 58))))
        have BA := Lib.hid (below_drew ((Below.refl wr.heap.size wr).alloc (Nat.le_refl _) (.cells #[.int .i64 0, .int .u64 0] 58)))
        have HH := Lib.hid (show (wr.alloc (.cells #[.int .i64 0, .int .u64 0] 58)).drew.cell? ⟨bb, off + k * 2, none⟩ = some (.int .u8 (Xs : Int)) ∧ (wr.alloc (.cells #[.int .i64 0, .int .u64 0] 58)).drew.cell? ⟨bb, off + k * 2 + 1, none⟩ = some (.int .u64 (Xb : Int)) by have := (HH.out.below BA.out).cell k hka; rw [HX.out] at this; exact this)
        clear HX hc hc'
        refine wp_region_early (fun w' : World => At w' (w.heap.size + 1) #[.int .u64 (q : Int), .int .i8 z, .int .u8 (ix : Int), .slice (some ⟨bb, off, none⟩) na ca, .slice B nb cb] 29 ∧ w'.cell? ⟨bb, off + k * 2, none⟩ = some (.int .u8 (Xs : Int)) ∧ w'.cell? ⟨bb, off + k * 2 + 1, none⟩ = some (.int .u64 (Xb : Int))) (fun i => i != 15) (by kernel_rfl) ?_
        change wpEarly _ _ _ _ _ _ 16 (Array.replicate 16 false) _ (wr.alloc (.cells #[.int .i64 0, .int .u64 0] 58)).drew
        have S0 := Lib.hid (And.intro M1.out.sml HH.out)
        generalize (wr.alloc (.cells #[.int .i64 0, .int .u64 0] 58)).drew = wa at *
        generalize hgg : wr.heap.size = gg at *
        refine early_take (i := 0) 37 (.pointer (some ⟨w.heap.size + 1, 3, none⟩)) rfl rfl (by kernel_rfl) (by kernel_rfl) (by kernel_rfl) (by kernel_rfl) rfl (fun _ _ _ h => h) (fun w' hw' => by go_simp) S0.out ?_
        simp only [Act.put, List.setIfInBounds_toArray, List.set_cons_zero, List.set_cons_succ]
        refine early_take (i := 1) 38 (.slice (some ⟨bb, off, none⟩) na ca) rfl rfl (by kernel_rfl) (by kernel_rfl) (by kernel_rfl) (by kernel_rfl) rfl (fun _ _ _ h => h) (fun w' hw' => by have hc0 := hw'.1.cell 3; go_simp) S0.out ?_
        simp only [Act.put, List.setIfInBounds_toArray, List.set_cons_zero, List.set_cons_succ]
        refine early_take (i := 2) 39 (.int .i64 (k : Int)) rfl rfl (by kernel_rfl) (by kernel_rfl) (by kernel_rfl) (by kernel_rfl) rfl (fun _ _ _ h => h) (fun w' hw' => by go_simp) S0.out ?_
        simp only [Act.put, List.setIfInBounds_toArray, List.set_cons_zero, List.set_cons_succ]
        refine early_take (i := 3) 40 (.pointer (some ⟨bb, off + k * 2, none⟩)) rfl rfl (by kernel_rfl) (by kernel_rfl) (by kernel_rfl) (by kernel_rfl) rfl (fun _ _ _ h => h) (fun w' hw' => by go_simp) S0.out ?_
        simp only [Act.put, List.setIfInBounds_toArray, List.set_cons_zero, List.set_cons_succ]
        refine early_take (i := 4) 41 (.pointer (some ⟨bb, off + k * 2, none⟩)) rfl rfl (by kernel_rfl) (by kernel_rfl) (by kernel_rfl) (by kernel_rfl) rfl (fun _ _ _ h => h) (fun w' hw' => by go_simp) S0.out ?_
        simp only [Act.put, List.setIfInBounds_toArray, List.set_cons_zero, List.set_cons_succ]
        refine early_take (i := 5) 42 (.int .u8 (Xs : Int)) rfl rfl (by kernel_rfl) (by kernel_rfl) (by kernel_rfl) (by kernel_rfl) rfl (fun _ _ _ h => h) (fun w' hw' => by have hc0 := hw'.2.1; go_simp) S0.out ?_
        simp only [Act.put, List.setIfInBounds_toArray, List.set_cons_zero, List.set_cons_succ]
        refine early_take (i := 6) 43 (.int .u8 (r : Int)) rfl rfl (by kernel_rfl) (by kernel_rfl) (by kernel_rfl) (by kernel_rfl) rfl (fun _ _ _ h => h) (fun w' hw' => by go_simp) S0.out ?_
        simp only [Act.put, List.setIfInBounds_toArray, List.set_cons_zero, List.set_cons_succ]
        refine early_take (i := 7) 44 (.int .i64 (r : Int)) rfl rfl (by kernel_rfl) (by kernel_rfl) (by kernel_rfl) (by kernel_rfl) rfl (fun _ _ _ h => h) (fun w' hw' => by go_simp; exact wrap_of (by omega) (by omega)) S0.out ?_
        simp only [Act.put, List.setIfInBounds_toArray, List.set_cons_zero, List.set_cons_succ]
        refine early_take (i := 8) 45 (.pointer (some ⟨w.heap.size + 1, 3, none⟩)) rfl rfl (by kernel_rfl) (by kernel_rfl) (by kernel_rfl) (by kernel_rfl) rfl (fun _ _ _ h => h) (fun w' hw' => by go_simp) S0.out ?_
        simp only [Act.put, List.setIfInBounds_toArray, List.set_cons_zero, List.set_cons_succ]
        refine early_take (i := 9) 46 (.slice (some ⟨bb, off, none⟩) na ca) rfl rfl (by kernel_rfl) (by kernel_rfl) (by kernel_rfl) (by kernel_rfl) rfl (fun _ _ _ h => h) (fun w' hw' => by have hc0 := hw'.1.cell 3; go_simp) S0.out ?_
        simp only [Act.put, List.setIfInBounds_toArray, List.set_cons_zero, List.set_cons_succ]
        refine early_take (i := 10) 47 (.int .i64 (k : Int)) rfl rfl (by kernel_rfl) (by kernel_rfl) (by kernel_rfl) (by kernel_rfl) rfl (fun _ _ _ h => h) (fun w' hw' => by go_simp) S0.out ?_
        simp only [Act.put, List.setIfInBounds_toArray, List.set_cons_zero, List.set_cons_succ]
        refine early_take (i := 11) 48 (.pointer (some ⟨bb, off + k * 2, none⟩)) rfl rfl (by kernel_rfl) (by kernel_rfl) (by kernel_rfl) (by kernel_rfl) rfl (fun _ _ _ h => h) (fun w' hw' => by go_simp) S0.out ?_
        simp only [Act.put, List.setIfInBounds_toArray, List.set_cons_zero, List.set_cons_succ]
        refine early_take (i := 12) 49 (.pointer (some ⟨bb, off + k * 2 + 1, none⟩)) rfl rfl (by kernel_rfl) (by kernel_rfl) (by kernel_rfl) (by kernel_rfl) rfl (fun _ _ _ h => h) (fun w' hw' => by go_simp) S0.out ?_
        simp only [Act.put, List.setIfInBounds_toArray, List.set_cons_zero, List.set_cons_succ]
        refine early_take (i := 13) 50 (.int .u64 (Xb : Int)) rfl rfl (by kernel_rfl) (by kernel_rfl) (by kernel_rfl) (by kernel_rfl) rfl (fun _ _ _ h => h) (fun w' hw' => by have hc0 := hw'.2.2; go_simp) S0.out ?_
        simp only [Act.put, List.setIfInBounds_toArray, List.set_cons_zero, List.set_cons_succ]
        refine early_take (i := 14) 51 (.agg #[.int .i64 (r : Int), .int .u64 (Xb : Int)]) rfl rfl (by kernel_rfl) (by kernel_rfl) (by kernel_rfl) (by kernel_rfl) rfl (fun _ _ _ h => h) (fun w' hw' => by go_simp) S0.out ?_
        simp only [Act.put, List.setIfInBounds_toArray, List.set_cons_zero, List.set_cons_succ]
        refine early_only (i := 15) (by kernel_rfl) rfl (fun K hK => ?_)
        simp only [opWp, List.getElem?_toArray, List.getElem?_cons_succ, List.getElem?_cons_zero]
        refine wp_store_part 58 (.tmp 7) (.tmp 51) rfl gg 0 58 #[.int .i64 0, .int .u64 0] #[.int .i64 (r : Int), .int .u64 (Xb : Int)] rfl rfl GB.out size58 (by simp) (by simp [Value.oneCell']) ?_
        intro wc hat hbc
        have BC := Lib.hid (show Below wr.heap.size wr wc by rw [hgg]; exact BA.out.trans (hbc.below (fun k e => by omega) (Nat.le_of_lt GB.out.lt)))
        have MK := Lib.hid (MK.out.up BC.out)
        have GB := Lib.hid (show At wc gg #[.int .i64 (r : Int), .int .u64 (Xb : Int)] 58 from hat)
        have OW := Lib.hid (show wc.ownsRow (w.heap.size + 1 + 1 + 1 + 1) 58 2 v k (flat (mkGs L k)) by have := MK.out.og; rw [mkGs_len] at this; exact this)
        clear hat hbc BC BA M1 HH S0
        refine hK _ _ (fun h => by cases h) ?_
        refine early_done (by kernel_rfl) ?_
        have d3 := MK.out.box.cell 3
        have g0 := GB.out.cell 0
        have g1 := GB.out.cell 1
        go_wp2_with (at_builtin; refine wpList_append_seg rfl (.tmp 53) (.tmp 55) rfl (w.heap.size + 1 + 1 + 1 + 1) v k (mkGs L k) rfl (own_below OW.out (BB1 wc _)) ⟨wc.heap.size, 0, none⟩ 1 1 [⟨r, Xb⟩] rfl rfl (seg_src _ (At.new _ 58 rfl)) (by omega) (by have := MK.out.base; simp; omega) ?_; intro A3 c3 w3 hown3 hg3 hf3; obtain ⟨at3, hR⟩ := MK.out.pushG (BB1 wc _) hown3 hg3 hf3; have ce3 := at3.cell 3; have f3 := at3.frozen 3; have R := Lib.hid hR; clear hown3 hg3 hf3 at3 hR)
        clear d3 g0 g1
        have R2 := R.out
        rw [← RR.out, ← EG.out, ← EN.out] at R2
        exact ⟨⟨k + 1, _, by omega, by go_num, R2⟩, by simp [intOf]; omega⟩
      · have EG := Lib.hid (mkG_no (L := L) (k := k) (by rw [LL.out]; exact hka))
        have e3 := fun o => (MK.out.sml.alloc o).cell 3
        have d3 := fun o => (MK.out.box.alloc o).cell 3
        go_wp2_with (at_builtin; refine wpList_append_seg rfl (.tmp 53) (.tmp 55) rfl (w.heap.size + 1 + 1 + 1 + 1) v k (mkGs L k) rfl (own_below OW.out (BB2 wr _ _)) ⟨wr.heap.size + 1, 0, none⟩ 1 1 [⟨0, 0⟩] rfl rfl (seg_src _ (At.new _ 58 (by simp))) (by omega) (by have := MK.out.base; simp; omega) ?_; intro A3 c3 w3 hown3 hg3 hf3; obtain ⟨at3, hR⟩ := MK.out.pushG (BB2 wr _ _) hown3 hg3 hf3; have ce3 := at3.cell 3; have f3 := at3.frozen 3; have R := Lib.hid hR; clear hown3 hg3 hf3 at3 hR)
        clear e3 d3
        have R2 := R.out
        rw [← EG.out, ← EN.out] at R2
        exact ⟨⟨k + 1, _, by omega, by go_num, R2⟩, by simp [intOf]; omega⟩
    · obtain rfl : k = g := by omega
      have c5 := MK.out.shp.cell 5
      go_wp2
      clear c5 HL LL HH hlt hk
      go_loopw [61] (fun i wr => ∃ (j : Nat) (v2 : Value), j ≤ l ∧ i = .int .i64 j ∧ Mkg w wr #[.int .i64 (m : Int), .int .i64 (b : Int), .int .i64 (k : Int), .int .i64 (s : Int), .int .i64 (n : Int), .int .i64 (l : Int)] #[.int .u64 (q : Int), .int .i8 z, .int .u8 (ix : Int), .slice A na ca, .slice B nb cb] q S I v v2 (mkGs L k) (mkPs M (k * s * (m - 2)) j)) (fun i _ => l - (intOf i).toNat)
      case atStart => exact ⟨0, _, Nat.zero_le _, rfl, MK.out⟩
      case round =>
        clear MK
        obtain ⟨j, v2, hj, rfl, hM⟩ := hrel
        have MK := Lib.hid hM
        have HH := Lib.hid (HM.out.below hM.bel)
        clear hM
        by_cases hlt : j < l
        · have EN := Lib.hid (mkPs_next M (k * s * (m - 2)) j)
          have OW := Lib.hid (show wr.ownsRow (w.heap.size + 1 + 1 + 1 + 1) 3 1 v2 j (ints (mkPs M (k * s * (m - 2)) j)) by have := MK.out.om; rw [mkPs_len] at this; exact this)
          by_cases hka : j < nb
          · obtain ⟨bb, off, rfl⟩ := HM.out.some_ (by omega)
            have hkl : j < M.length := by rw [LM.out]; exact hka
            have hY := ML.out M[j] (List.getElem_mem hkl)
            have EG := Lib.hid (mkP_yes (T := k * s * (m - 2)) hkl)
            have hc : wr.cell? ⟨bb, off + j, none⟩ = some (.int .u16 (M[j] : Int)) := by rw [HH.out.cell j hka, shrt_get M j hkl]
            generalize M[j] = Y at *
            obtain ⟨T, hT⟩ : ∃ T, T = k * s * (m - 2) := ⟨_, rfl⟩
            have hTb : T ≤ 14336 := by rw [hT]; exact prod_le BN.out
            have hTi : ((k * s : Nat) : Int) * ((m - 2 : Nat) : Int) = (T : Int) := by rw [hT, Int.natCast_mul (k * s) (m - 2)]
            have hKS : k * s ≤ 1024 := Nat.le_trans (Nat.mul_le_mul (show k ≤ 64 by omega) (show s ≤ 16 by omega)) (by decide)
            obtain ⟨KS, hks⟩ : ∃ y, y = k * s := ⟨_, rfl⟩
            obtain ⟨M2, hm2⟩ : ∃ y, y = m - 2 := ⟨_, rfl⟩
            rw [← hks, ← hm2] at hTi
            rw [← hks] at hKS
            have hM2 : M2 ≤ 14 := by have := BN.out.m; omega
            obtain ⟨p, hp⟩ : ∃ p, p = Y % (T + 1) := ⟨_, rfl⟩
            have hpi : (Y : Int).tmod ((T : Int) + 1) = (p : Int) := by rw [hp]; rfl
            have hpb : p ≤ 65535 := by have := Nat.mod_le Y (T + 1); omega
            have PP := Lib.hid hp
            have TT := Lib.hid hT
            have KK := Lib.hid hks
            have MM := Lib.hid hm2
            clear hp hT hks hm2
            have e3 := MK.out.sml.cell 4
            go_wp2_with fail
            clear e3
            refine wp_region_early (fun w' : World => At w' w.heap.size #[.int .i64 (m : Int), .int .i64 (b : Int), .int .i64 (k : Int), .int .i64 (s : Int), .int .i64 (n : Int), .int .i64 (l : Int)] 32 ∧ At w' (w.heap.size + 1) #[.int .u64 (q : Int), .int .i8 z, .int .u8 (ix : Int), .slice A na ca, .slice (some ⟨bb, off, none⟩) nb cb] 29 ∧ w'.cell? ⟨bb, off + j, none⟩ = some (.int .u16 (Y : Int))) (fun _ => true) (by kernel_rfl) ?_
            change wpEarly _ _ _ _ _ _ 15 (Array.replicate 15 false) _ wr.drew
            have MK := Lib.hid (MK.out.up (below_drew (Below.refl _ _)))
            have OW := Lib.hid (own_below OW.out (below_drew (Below.refl _ _)))
            have S0 := Lib.hid (show At wr.drew w.heap.size #[.int .i64 (m : Int), .int .i64 (b : Int), .int .i64 (k : Int), .int .i64 (s : Int), .int .i64 (n : Int), .int .i64 (l : Int)] 32 ∧ At wr.drew (w.heap.size + 1) #[.int .u64 (q : Int), .int .i8 z, .int .u8 (ix : Int), .slice A na ca, .slice (some ⟨bb, off, none⟩) nb cb] 29 ∧ wr.drew.cell? ⟨bb, off + j, none⟩ = some (.int .u16 (Y : Int)) from ⟨MK.out.shp, MK.out.sml, hc⟩)
            have BL := Lib.hid (show bb < wr.drew.heap.size from by obtain ⟨b', o', e, hb, _⟩ := HH.out.2 (by omega); injection e with e; injection e with e1 e2; subst e1; exact hb)
            clear hc HH
            generalize wr.drew = wa at *
            refine early_take (i := 0) 69 (.pointer (some ⟨w.heap.size + 1, 4, none⟩)) rfl rfl (by kernel_rfl) (by kernel_rfl) (by kernel_rfl) (by kernel_rfl) rfl (fun _ _ _ h => h) (fun w' hw' => by go_simp) S0.out ?_
            simp only [Act.put, List.setIfInBounds_toArray, List.set_cons_zero, List.set_cons_succ]
            refine early_take (i := 1) 70 (.slice (some ⟨bb, off, none⟩) nb cb) rfl rfl (by kernel_rfl) (by kernel_rfl) (by kernel_rfl) (by kernel_rfl) rfl (fun _ _ _ h => h) (fun w' hw' => by have hc0 := hw'.2.1.cell 4; go_simp) S0.out ?_
            simp only [Act.put, List.setIfInBounds_toArray, List.set_cons_zero, List.set_cons_succ]
            refine early_take (i := 2) 71 (.int .i64 (j : Int)) rfl rfl (by kernel_rfl) (by kernel_rfl) (by kernel_rfl) (by kernel_rfl) rfl (fun _ _ _ h => h) (fun w' hw' => by go_simp) S0.out ?_
            simp only [Act.put, List.setIfInBounds_toArray, List.set_cons_zero, List.set_cons_succ]
            refine early_take (i := 3) 72 (.pointer (some ⟨bb, off + j, none⟩)) rfl rfl (by kernel_rfl) (by kernel_rfl) (by kernel_rfl) (by kernel_rfl) rfl (fun _ _ _ h => h) (fun w' hw' => by go_simp) S0.out ?_
            simp only [Act.put, List.setIfInBounds_toArray, List.set_cons_zero, List.set_cons_succ]
            refine early_take (i := 4) 73 (.int .u16 (Y : Int)) rfl rfl (by kernel_rfl) (by kernel_rfl) (by kernel_rfl) (by kernel_rfl) rfl (fun _ _ _ h => h) (fun w' hw' => by have hc0 := hw'.2.2; go_simp) S0.out ?_
            simp only [Act.put, List.setIfInBounds_toArray, List.set_cons_zero, List.set_cons_succ]
            refine early_take (i := 5) 74 (.int .i64 (Y : Int)) rfl rfl (by kernel_rfl) (by kernel_rfl) (by kernel_rfl) (by kernel_rfl) rfl (fun _ _ _ h => h) (fun w' hw' => by go_simp; exact wrap_of (by omega) (by omega)) S0.out ?_
            simp only [Act.put, List.setIfInBounds_toArray, List.set_cons_zero, List.set_cons_succ]
            refine early_take (i := 6) 75 (.agg #[.int .i64 (m : Int), .int .i64 (b : Int), .int .i64 (k : Int), .int .i64 (s : Int), .int .i64 (n : Int), .int .i64 (l : Int)]) rfl rfl (by kernel_rfl) (by kernel_rfl) (by kernel_rfl) (by kernel_rfl) rfl (fun _ _ _ h => h) (fun w' hw' => exec_load_whole rfl rfl hw'.1 Try.underlying32 info32) S0.out ?_
            simp only [Act.put, List.setIfInBounds_toArray, List.set_cons_zero, List.set_cons_succ]
            refine early_take (i := 8) 77 (.agg #[.int .i64 (m : Int), .int .i64 (b : Int), .int .i64 (k : Int), .int .i64 (s : Int), .int .i64 (n : Int), .int .i64 (l : Int)]) rfl rfl (by kernel_rfl) (by kernel_rfl) (by kernel_rfl) (by kernel_rfl) rfl (fun _ _ _ h => h) (fun w' hw' => exec_load_whole rfl rfl hw'.1 Try.underlying32 info32) S0.out ?_
            simp only [Act.put, List.setIfInBounds_toArray, List.set_cons_zero, List.set_cons_succ]
            refine early_only (i := 7) (by kernel_rfl) rfl (fun K hK => ?_)
            simp only [opWp, List.getElem?_toArray, List.getElem?_cons_succ, List.getElem?_cons_zero]
            go_simp
            go_at_call 21
            refine (all_nat BN.out _).mono ?_
            rintro e wz ⟨rfl, hb⟩
            rw [← KK.out]
            have MK := Lib.hid (MK.out.up hb)
            have OW := Lib.hid (own_below OW.out hb)
            have S0 := Lib.hid (show At wz w.heap.size #[.int .i64 (m : Int), .int .i64 (b : Int), .int .i64 (k : Int), .int .i64 (s : Int), .int .i64 (n : Int), .int .i64 (l : Int)] 32 ∧ At wz (w.heap.size + 1) #[.int .u64 (q : Int), .int .i8 z, .int .u8 (ix : Int), .slice A na ca, .slice (some ⟨bb, off, none⟩) nb cb] 29 ∧ wz.cell? ⟨bb, off + j, none⟩ = some (.int .u16 (Y : Int)) from ⟨MK.out.shp, MK.out.sml, (hb.cell (p := ⟨bb, off + j, none⟩) BL.out).trans S0.out.2.2⟩)
            have BL := Lib.hid (show bb < wz.heap.size from Nat.lt_of_lt_of_le BL.out hb.size)
            clear hb
            refine hK _ _ (fun _ => S0.out) ?_
            clear hK
            refine early_only (i := 9) (by kernel_rfl) rfl (fun K hK => ?_)
            simp only [opWp, List.getElem?_toArray, List.getElem?_cons_succ, List.getElem?_cons_zero]
            go_simp
            go_at_call 22
            refine (slots_nat BN.out _).mono ?_
            rintro e wz ⟨rfl, hb⟩
            rw [← MM.out]
            have MK := Lib.hid (MK.out.up hb)
            have OW := Lib.hid (own_below OW.out hb)
            have S0 := Lib.hid (show At wz w.heap.size #[.int .i64 (m : Int), .int .i64 (b : Int), .int .i64 (k : Int), .int .i64 (s : Int), .int .i64 (n : Int), .int .i64 (l : Int)] 32 ∧ At wz (w.heap.size + 1) #[.int .u64 (q : Int), .int .i8 z, .int .u8 (ix : Int), .slice A na ca, .slice (some ⟨bb, off, none⟩) nb cb] 29 ∧ wz.cell? ⟨bb, off + j, none⟩ = some (.int .u16 (Y : Int)) from ⟨MK.out.shp, MK.out.sml, (hb.cell (p := ⟨bb, off + j, none⟩) BL.out).trans S0.out.2.2⟩)
            have BL := Lib.hid (show bb < wz.heap.size from Nat.lt_of_lt_of_le BL.out hb.size)
            clear hb
            refine hK _ _ (fun _ => S0.out) ?_
            clear hK
            refine early_take (i := 10) 79 (.int .i64 (T : Int)) rfl rfl (by kernel_rfl) (by kernel_rfl) (by kernel_rfl) (by kernel_rfl) rfl (fun _ _ _ h => h) (fun w' hw' => by go_simp; exact wrap_of (by omega) (by omega)) S0.out ?_
            simp only [Act.put, List.setIfInBounds_toArray, List.set_cons_zero, List.set_cons_succ]
            refine early_take (i := 11) 80 (.int .i64 ((T : Int) + 1)) rfl rfl (by kernel_rfl) (by kernel_rfl) (by kernel_rfl) (by kernel_rfl) rfl (fun _ _ _ h => h) (fun w' hw' => by go_simp; exact wrap_of (by omega) (by omega)) S0.out ?_
            simp only [Act.put, List.setIfInBounds_toArray, List.set_cons_zero, List.set_cons_succ]
            refine early_take (i := 12) 81 (.int .i64 (p : Int)) rfl rfl (by kernel_rfl) (by kernel_rfl) (by kernel_rfl) (by kernel_rfl) rfl (fun _ _ _ h => h) (fun w' hw' => by go_simp; omega) S0.out ?_
            simp only [Act.put, List.setIfInBounds_toArray, List.set_cons_zero, List.set_cons_succ]
            refine early_take (i := 13) 82 (.int .i64 ((p : Int) - 1)) rfl rfl (by kernel_rfl) (by kernel_rfl) (by kernel_rfl) (by kernel_rfl) rfl (fun _ _ _ h => h) (fun w' hw' => by go_simp; exact wrap_of (by omega) (by omega)) S0.out ?_
            simp only [Act.put, List.setIfInBounds_toArray, List.set_cons_zero, List.set_cons_succ]
            refine early_take (i := 14) 9 (.int .i64 ((p : Int) - 1)) rfl rfl (by kernel_rfl) (by kernel_rfl) (by kernel_rfl) (by kernel_rfl) rfl (fun _ _ _ h => h) (fun w' hw' => by go_simp) S0.out ?_
            simp only [Act.put, List.setIfInBounds_toArray, List.set_cons_zero, List.set_cons_succ]
            refine early_done (by kernel_rfl) ?_
            have d3 := MK.out.box.cell 4
            go_wp2_with (at_builtin; refine wpList_append_int rfl (.tmp 84) (.tmp 86) rfl (w.heap.size + 1 + 1 + 1 + 1) v2 j (mkPs M (k * s * (m - 2)) j) rfl (own_below OW.out (BB1 _ _)) ⟨wz.heap.size, 0, none⟩ 1 1 [p] rfl rfl (int_src _ (At.new _ 3 rfl) rfl) (by omega) (by have := MK.out.base; simp; omega) ?_; intro A3 c3 w3 hown3 hg3 hf3; obtain ⟨at3, hR⟩ := MK.out.pushM (BB1 _ _) hown3 hg3 hf3; have ce3 := at3.cell 4; have f3 := at3.frozen 4; have R := Lib.hid hR; clear hown3 hg3 hf3 at3 hR)
            clear d3
            have R2 := R.out
            rw [PP.out, TT.out, ← EG.out, ← EN.out] at R2
            exact ⟨⟨j + 1, _, by omega, by go_num, R2⟩, by simp [intOf]; omega⟩
          · have EG := Lib.hid (mkP_no (M := M) (T := k * s * (m - 2)) (k := j) (by rw [LM.out]; exact hka))
            have e3 := MK.out.sml.cell 4
            have d3 := MK.out.box.cell 4
            go_wp2_with (at_builtin; refine wpList_append_int rfl (.tmp 84) (.tmp 86) rfl (w.heap.size + 1 + 1 + 1 + 1) v2 j (mkPs M (k * s * (m - 2)) j) rfl (own_below OW.out (BB1 wr _)) ⟨wr.heap.size, 0, none⟩ 1 1 [0] rfl rfl (int_src _ (At.new _ 3 rfl) rfl) (by omega) (by have := MK.out.base; simp; omega) ?_; intro A3 c3 w3 hown3 hg3 hf3; obtain ⟨at3, hR⟩ := MK.out.pushM (BB1 wr _) hown3 hg3 hf3; have ce3 := at3.cell 4; have f3 := at3.frozen 4; have R := Lib.hid hR; clear hown3 hg3 hf3 at3 hR)
            clear e3 d3
            have R2 := R.out
            rw [← EG.out, ← EN.out] at R2
            exact ⟨⟨j + 1, _, by omega, by go_num, R2⟩, by simp [intOf]; omega⟩
        · obtain rfl : j = l := by omega
          have OG := Lib.hid (show wr.ownsRow (w.heap.size + 1 + 1 + 1 + 1) 58 2 v k (flat (mkGs L k)) by have := MK.out.og; rw [mkGs_len] at this; exact this)
          have OM := Lib.hid (show wr.ownsRow (w.heap.size + 1 + 1 + 1 + 1) 3 1 v2 j (ints (mkPs M (k * s * (m - 2)) j)) by have := MK.out.om; rw [mkPs_len] at this; exact this)
          obtain ⟨A2, c2, rfl, hE, hA⟩ := Sgs.of_own OG.out
          obtain ⟨A4, c4, rfl, _, _, hE4, _⟩ := Row.of_own OM.out
          have IM := Lib.hid (show Img wr A2 k A4 j (mkI q z ix L M m k s j) from ⟨hE, hE4⟩)
          have HA := Lib.hid hA
          have HA4 := Lib.hid (show ∀ x, A4 = some x → w.heap.size + 1 + 1 + 1 + 1 ≤ x.block from fun x e => by subst e; exact (OM.out.lt x.block rfl).1)
          clear hE hA hE4
          have d0 := MK.out.box.cell 0; have d1 := MK.out.box.cell 1; have d2 := MK.out.box.cell 2; have d3 := MK.out.box.cell 3; have d4 := MK.out.box.cell 4
          go_wp2_with (refine wpList_store_part rfl 37 (.tmp 4) (.tmp 90) rfl (w.heap.size + 1 + 1) 0 37 zcs (ics q S I A2 k c2 A4 j c4) rfl rfl MK.out.res size37 (by simp) (ics_one _ _ _ _ _ _ _ _ _) ?_; intro w4 hat4 hb4; have R := Lib.hid (show At w4 (w.heap.size + 1 + 1) (ics q S I A2 k c2 A4 j c4) 37 from hat4); have BB := Lib.hid hb4; clear hat4 hb4)
          refine bodyPost_ret (results_cell_row (p := 4) (ty := 37) rfl _ _ (w.heap.size + 1 + 1) 37 (ics q S I A2 k c2 A4 j c4) (0, 0) _ rfl R.out Try.underlying37 rfl size37) rfl ?_
          refine ⟨A2, k, c2, A4, j, c4, ?_, IM.out.but BB.out (fun h0 x hx e => by have := HA.out x hx; omega) (fun h0 x hx e => by have := HA4.out x hx; omega), MK.out.bel.trans (BB.out.below (fun j e => by omega) MK.out.bel.size)⟩
          rw [SS.out, II.out]
          rfl
end Go.Proofs.Ytlmponcoghfghaa
