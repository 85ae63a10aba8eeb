/-
  THE WALK OF page.parse: the image at the beginning of bytes, and what follows it.
-/
import Derived.Test.YtlmponcoghfghaaPar
import Derived.Deep.CutRange
import Derived.Deep.CutBlock
import Derived.Deep.DeepCutAuto
namespace Go.Proofs.Ytlmponcoghfghaa
open Go.RowKit
set_option linter.unusedVariables false
set_option maxRecDepth 100000

/-- How far the first statement of parse has come, in whatever order. -/
inductive PSt (w0 : World) (a0 : Act) (sc : Array Value) (R b1 : Nat) (D : List (BitVec 8)) (g l q z ix : Nat) : Nat → Array Bool → Act → World → Prop
  | s0000 (u : World) (h : Pq w0 u sc R b1 D g l 0 none none none) : PSt w0 a0 sc R b1 D g l q z ix 11 #[true, false, true, false, false, false, true, false, false, true, true, false, true, true, false, false, false, false] a0 u
  | s0001 (u : World) (p : Nat) (h : Pq w0 u sc R b1 D g l 0 none none (some p)) : PSt w0 a0 sc R b1 D g l q z ix 10 #[true, false, true, false, false, false, true, false, false, true, true, false, true, true, false, false, true, false] (a0.put (some 7) (.pointer (some ⟨p, 0, none⟩))) u
  | s0010 (u : World) (r2 : Nat) (h : Pq w0 u sc R b1 D g l 0 none (some r2) none) : PSt w0 a0 sc R b1 D g l q z ix 10 #[true, false, true, false, false, false, true, false, false, true, true, false, true, true, true, false, false, false] (a0.put (some 26) (.slice (some ⟨r2, 0, none⟩) l l)) u
  | s0011 (u : World) (r2 p : Nat) (h : Pq w0 u sc R b1 D g l 0 none (some r2) (some p)) : PSt w0 a0 sc R b1 D g l q z ix 9 #[true, false, true, false, false, false, true, false, false, true, true, false, true, true, true, false, true, false] ((a0.put (some 26) (.slice (some ⟨r2, 0, none⟩) l l)).put (some 7) (.pointer (some ⟨p, 0, none⟩))) u
  | s0100 (u : World) (r1 : Nat) (h : Pq w0 u sc R b1 D g l 0 (some r1) none none) : PSt w0 a0 sc R b1 D g l q z ix 10 #[true, false, true, false, false, false, true, false, false, true, true, true, true, true, false, false, false, false] (a0.put (some 23) (.slice (some ⟨r1, 0, none⟩) g g)) u
  | s0101 (u : World) (r1 p : Nat) (h : Pq w0 u sc R b1 D g l 0 (some r1) none (some p)) : PSt w0 a0 sc R b1 D g l q z ix 9 #[true, false, true, false, false, false, true, false, false, true, true, true, true, true, false, false, true, false] ((a0.put (some 23) (.slice (some ⟨r1, 0, none⟩) g g)).put (some 7) (.pointer (some ⟨p, 0, none⟩))) u
  | s0110 (u : World) (r1 r2 : Nat) (h : Pq w0 u sc R b1 D g l 0 (some r1) (some r2) none) : PSt w0 a0 sc R b1 D g l q z ix 9 #[true, false, true, false, false, false, true, false, false, true, true, true, true, true, true, false, false, false] ((a0.put (some 23) (.slice (some ⟨r1, 0, none⟩) g g)).put (some 26) (.slice (some ⟨r2, 0, none⟩) l l)) u
  | s0111 (u : World) (r1 r2 p : Nat) (h : Pq w0 u sc R b1 D g l 0 (some r1) (some r2) (some p)) : PSt w0 a0 sc R b1 D g l q z ix 8 #[true, false, true, false, false, false, true, false, false, true, true, true, true, true, true, false, true, false] (((a0.put (some 23) (.slice (some ⟨r1, 0, none⟩) g g)).put (some 26) (.slice (some ⟨r2, 0, none⟩) l l)).put (some 7) (.pointer (some ⟨p, 0, none⟩))) u
  | s1000 (u : World) (h : Pq w0 u sc R b1 D g l 8 none none none) : PSt w0 a0 sc R b1 D g l q z ix 10 #[true, true, true, false, false, false, true, false, false, true, true, false, true, true, false, false, false, false] (a0.put (some 13) (.int .u64 (q : Int))) u
  | s1001 (u : World) (p : Nat) (h : Pq w0 u sc R b1 D g l 8 none none (some p)) : PSt w0 a0 sc R b1 D g l q z ix 9 #[true, true, true, false, false, false, true, false, false, true, true, false, true, true, false, false, true, false] ((a0.put (some 13) (.int .u64 (q : Int))).put (some 7) (.pointer (some ⟨p, 0, none⟩))) u
  | s1010 (u : World) (r2 : Nat) (h : Pq w0 u sc R b1 D g l 8 none (some r2) none) : PSt w0 a0 sc R b1 D g l q z ix 9 #[true, true, true, false, false, false, true, false, false, true, true, false, true, true, true, false, false, false] ((a0.put (some 13) (.int .u64 (q : Int))).put (some 26) (.slice (some ⟨r2, 0, none⟩) l l)) u
  | s1011 (u : World) (r2 p : Nat) (h : Pq w0 u sc R b1 D g l 8 none (some r2) (some p)) : PSt w0 a0 sc R b1 D g l q z ix 8 #[true, true, true, false, false, false, true, false, false, true, true, false, true, true, true, false, true, false] (((a0.put (some 13) (.int .u64 (q : Int))).put (some 26) (.slice (some ⟨r2, 0, none⟩) l l)).put (some 7) (.pointer (some ⟨p, 0, none⟩))) u
  | s1100 (u : World) (r1 : Nat) (h : Pq w0 u sc R b1 D g l 8 (some r1) none none) : PSt w0 a0 sc R b1 D g l q z ix 9 #[true, true, true, false, false, false, true, false, false, true, true, true, true, true, false, false, false, false] ((a0.put (some 13) (.int .u64 (q : Int))).put (some 23) (.slice (some ⟨r1, 0, none⟩) g g)) u
  | s1101 (u : World) (r1 p : Nat) (h : Pq w0 u sc R b1 D g l 8 (some r1) none (some p)) : PSt w0 a0 sc R b1 D g l q z ix 8 #[true, true, true, false, false, false, true, false, false, true, true, true, true, true, false, false, true, false] (((a0.put (some 13) (.int .u64 (q : Int))).put (some 23) (.slice (some ⟨r1, 0, none⟩) g g)).put (some 7) (.pointer (some ⟨p, 0, none⟩))) u
  | s1110 (u : World) (r1 r2 : Nat) (h : Pq w0 u sc R b1 D g l 8 (some r1) (some r2) none) : PSt w0 a0 sc R b1 D g l q z ix 8 #[true, true, true, false, false, false, true, false, false, true, true, true, true, true, true, false, false, false] (((a0.put (some 13) (.int .u64 (q : Int))).put (some 23) (.slice (some ⟨r1, 0, none⟩) g g)).put (some 26) (.slice (some ⟨r2, 0, none⟩) l l)) u
  | s1111 (u : World) (r1 r2 p : Nat) (h : Pq w0 u sc R b1 D g l 8 (some r1) (some r2) (some p)) : PSt w0 a0 sc R b1 D g l q z ix 7 #[true, true, true, false, false, false, true, false, false, true, true, true, true, true, true, false, true, false] ((((a0.put (some 13) (.int .u64 (q : Int))).put (some 23) (.slice (some ⟨r1, 0, none⟩) g g)).put (some 26) (.slice (some ⟨r2, 0, none⟩) l l)).put (some 7) (.pointer (some ⟨p, 0, none⟩))) u
  | s2000 (u : World) (h : Pq w0 u sc R b1 D g l 10 none none none) : PSt w0 a0 sc R b1 D g l q z ix 7 #[true, true, true, true, true, true, true, false, false, true, true, false, true, true, false, false, false, false] ((((a0.put (some 13) (.int .u64 (q : Int))).put (some 15) (.int .u64 (z : Int))).put (some 16) (.int .i64 (z : Int))).put (some 17) (.int .i64 ((z : Int) - 1))) u
  | s2001 (u : World) (p : Nat) (h : Pq w0 u sc R b1 D g l 10 none none (some p)) : PSt w0 a0 sc R b1 D g l q z ix 6 #[true, true, true, true, true, true, true, false, false, true, true, false, true, true, false, false, true, false] (((((a0.put (some 13) (.int .u64 (q : Int))).put (some 15) (.int .u64 (z : Int))).put (some 16) (.int .i64 (z : Int))).put (some 17) (.int .i64 ((z : Int) - 1))).put (some 7) (.pointer (some ⟨p, 0, none⟩))) u
  | s2010 (u : World) (r2 : Nat) (h : Pq w0 u sc R b1 D g l 10 none (some r2) none) : PSt w0 a0 sc R b1 D g l q z ix 6 #[true, true, true, true, true, true, true, false, false, true, true, false, true, true, true, false, false, false] (((((a0.put (some 13) (.int .u64 (q : Int))).put (some 15) (.int .u64 (z : Int))).put (some 16) (.int .i64 (z : Int))).put (some 17) (.int .i64 ((z : Int) - 1))).put (some 26) (.slice (some ⟨r2, 0, none⟩) l l)) u
  | s2011 (u : World) (r2 p : Nat) (h : Pq w0 u sc R b1 D g l 10 none (some r2) (some p)) : PSt w0 a0 sc R b1 D g l q z ix 5 #[true, true, true, true, true, true, true, false, false, true, true, false, true, true, true, false, true, false] ((((((a0.put (some 13) (.int .u64 (q : Int))).put (some 15) (.int .u64 (z : Int))).put (some 16) (.int .i64 (z : Int))).put (some 17) (.int .i64 ((z : Int) - 1))).put (some 26) (.slice (some ⟨r2, 0, none⟩) l l)).put (some 7) (.pointer (some ⟨p, 0, none⟩))) u
  | s2100 (u : World) (r1 : Nat) (h : Pq w0 u sc R b1 D g l 10 (some r1) none none) : PSt w0 a0 sc R b1 D g l q z ix 6 #[true, true, true, true, true, true, true, false, false, true, true, true, true, true, false, false, false, false] (((((a0.put (some 13) (.int .u64 (q : Int))).put (some 15) (.int .u64 (z : Int))).put (some 16) (.int .i64 (z : Int))).put (some 17) (.int .i64 ((z : Int) - 1))).put (some 23) (.slice (some ⟨r1, 0, none⟩) g g)) u
  | s2101 (u : World) (r1 p : Nat) (h : Pq w0 u sc R b1 D g l 10 (some r1) none (some p)) : PSt w0 a0 sc R b1 D g l q z ix 5 #[true, true, true, true, true, true, true, false, false, true, true, true, true, true, false, false, true, false] ((((((a0.put (some 13) (.int .u64 (q : Int))).put (some 15) (.int .u64 (z : Int))).put (some 16) (.int .i64 (z : Int))).put (some 17) (.int .i64 ((z : Int) - 1))).put (some 23) (.slice (some ⟨r1, 0, none⟩) g g)).put (some 7) (.pointer (some ⟨p, 0, none⟩))) u
  | s2110 (u : World) (r1 r2 : Nat) (h : Pq w0 u sc R b1 D g l 10 (some r1) (some r2) none) : PSt w0 a0 sc R b1 D g l q z ix 5 #[true, true, true, true, true, true, true, false, false, true, true, true, true, true, true, false, false, false] ((((((a0.put (some 13) (.int .u64 (q : Int))).put (some 15) (.int .u64 (z : Int))).put (some 16) (.int .i64 (z : Int))).put (some 17) (.int .i64 ((z : Int) - 1))).put (some 23) (.slice (some ⟨r1, 0, none⟩) g g)).put (some 26) (.slice (some ⟨r2, 0, none⟩) l l)) u
  | s2111 (u : World) (r1 r2 p : Nat) (h : Pq w0 u sc R b1 D g l 10 (some r1) (some r2) (some p)) : PSt w0 a0 sc R b1 D g l q z ix 4 #[true, true, true, true, true, true, true, false, false, true, true, true, true, true, true, false, true, false] (((((((a0.put (some 13) (.int .u64 (q : Int))).put (some 15) (.int .u64 (z : Int))).put (some 16) (.int .i64 (z : Int))).put (some 17) (.int .i64 ((z : Int) - 1))).put (some 23) (.slice (some ⟨r1, 0, none⟩) g g)).put (some 26) (.slice (some ⟨r2, 0, none⟩) l l)).put (some 7) (.pointer (some ⟨p, 0, none⟩))) u
  | s3000 (u : World) (h : Pq w0 u sc R b1 D g l 12 none none none) : PSt w0 a0 sc R b1 D g l q z ix 5 #[true, true, true, true, true, true, true, true, true, true, true, false, true, true, false, false, false, false] ((((((a0.put (some 13) (.int .u64 (q : Int))).put (some 15) (.int .u64 (z : Int))).put (some 16) (.int .i64 (z : Int))).put (some 17) (.int .i64 ((z : Int) - 1))).put (some 19) (.int .u64 (ix : Int))).put (some 20) (.int .i64 (ix : Int))) u
  | s3001 (u : World) (p : Nat) (h : Pq w0 u sc R b1 D g l 12 none none (some p)) : PSt w0 a0 sc R b1 D g l q z ix 4 #[true, true, true, true, true, true, true, true, true, true, true, false, true, true, false, false, true, false] (((((((a0.put (some 13) (.int .u64 (q : Int))).put (some 15) (.int .u64 (z : Int))).put (some 16) (.int .i64 (z : Int))).put (some 17) (.int .i64 ((z : Int) - 1))).put (some 19) (.int .u64 (ix : Int))).put (some 20) (.int .i64 (ix : Int))).put (some 7) (.pointer (some ⟨p, 0, none⟩))) u
  | s3010 (u : World) (r2 : Nat) (h : Pq w0 u sc R b1 D g l 12 none (some r2) none) : PSt w0 a0 sc R b1 D g l q z ix 4 #[true, true, true, true, true, true, true, true, true, true, true, false, true, true, true, false, false, false] (((((((a0.put (some 13) (.int .u64 (q : Int))).put (some 15) (.int .u64 (z : Int))).put (some 16) (.int .i64 (z : Int))).put (some 17) (.int .i64 ((z : Int) - 1))).put (some 19) (.int .u64 (ix : Int))).put (some 20) (.int .i64 (ix : Int))).put (some 26) (.slice (some ⟨r2, 0, none⟩) l l)) u
  | s3011 (u : World) (r2 p : Nat) (h : Pq w0 u sc R b1 D g l 12 none (some r2) (some p)) : PSt w0 a0 sc R b1 D g l q z ix 3 #[true, true, true, true, true, true, true, true, true, true, true, false, true, true, true, false, true, false] ((((((((a0.put (some 13) (.int .u64 (q : Int))).put (some 15) (.int .u64 (z : Int))).put (some 16) (.int .i64 (z : Int))).put (some 17) (.int .i64 ((z : Int) - 1))).put (some 19) (.int .u64 (ix : Int))).put (some 20) (.int .i64 (ix : Int))).put (some 26) (.slice (some ⟨r2, 0, none⟩) l l)).put (some 7) (.pointer (some ⟨p, 0, none⟩))) u
  | s3100 (u : World) (r1 : Nat) (h : Pq w0 u sc R b1 D g l 12 (some r1) none none) : PSt w0 a0 sc R b1 D g l q z ix 4 #[true, true, true, true, true, true, true, true, true, true, true, true, true, true, false, false, false, false] (((((((a0.put (some 13) (.int .u64 (q : Int))).put (some 15) (.int .u64 (z : Int))).put (some 16) (.int .i64 (z : Int))).put (some 17) (.int .i64 ((z : Int) - 1))).put (some 19) (.int .u64 (ix : Int))).put (some 20) (.int .i64 (ix : Int))).put (some 23) (.slice (some ⟨r1, 0, none⟩) g g)) u
  | s3101 (u : World) (r1 p : Nat) (h : Pq w0 u sc R b1 D g l 12 (some r1) none (some p)) : PSt w0 a0 sc R b1 D g l q z ix 3 #[true, true, true, true, true, true, true, true, true, true, true, true, true, true, false, false, true, false] ((((((((a0.put (some 13) (.int .u64 (q : Int))).put (some 15) (.int .u64 (z : Int))).put (some 16) (.int .i64 (z : Int))).put (some 17) (.int .i64 ((z : Int) - 1))).put (some 19) (.int .u64 (ix : Int))).put (some 20) (.int .i64 (ix : Int))).put (some 23) (.slice (some ⟨r1, 0, none⟩) g g)).put (some 7) (.pointer (some ⟨p, 0, none⟩))) u
  | s3110 (u : World) (r1 r2 : Nat) (h : Pq w0 u sc R b1 D g l 12 (some r1) (some r2) none) : PSt w0 a0 sc R b1 D g l q z ix 3 #[true, true, true, true, true, true, true, true, true, true, true, true, true, true, true, false, false, false] ((((((((a0.put (some 13) (.int .u64 (q : Int))).put (some 15) (.int .u64 (z : Int))).put (some 16) (.int .i64 (z : Int))).put (some 17) (.int .i64 ((z : Int) - 1))).put (some 19) (.int .u64 (ix : Int))).put (some 20) (.int .i64 (ix : Int))).put (some 23) (.slice (some ⟨r1, 0, none⟩) g g)).put (some 26) (.slice (some ⟨r2, 0, none⟩) l l)) u
  | s3111 (u : World) (r1 r2 p : Nat) (h : Pq w0 u sc R b1 D g l 12 (some r1) (some r2) (some p)) : PSt w0 a0 sc R b1 D g l q z ix 2 #[true, true, true, true, true, true, true, true, true, true, true, true, true, true, true, false, true, false] (((((((((a0.put (some 13) (.int .u64 (q : Int))).put (some 15) (.int .u64 (z : Int))).put (some 16) (.int .i64 (z : Int))).put (some 17) (.int .i64 ((z : Int) - 1))).put (some 19) (.int .u64 (ix : Int))).put (some 20) (.int .i64 (ix : Int))).put (some 23) (.slice (some ⟨r1, 0, none⟩) g g)).put (some 26) (.slice (some ⟨r2, 0, none⟩) l l)).put (some 7) (.pointer (some ⟨p, 0, none⟩))) u

/-- What parse answers. -/
def Parsed (w : World) (D : List (BitVec 8)) (g l : Nat) (e : Ending) (w' : World) : Prop :=
  ∃ A c B d v, e = .returned (.tuple #[.agg (ics (fld D 0 8) (fld D 8 2) (fld D 10 2) A g c B l d), v]) ∧ Img w' A g B l (img D g l) ∧ (∀ x, A = some x → w.heap.size ≤ x.block) ∧ (∀ x, B = some x → w.heap.size ≤ x.block) ∧ w'.ownsRow w.heap.size 5 1 v (D.length - (12 + 9 * g + 4 * l)) ((D.drop (12 + 9 * g + 4 * l)).map val) ∧ Below w.heap.size w w'

set_option maxHeartbeats 8000000 in
theorem parse_any (m b g s n l : Nat) (A : Option Addr) (nd cd : Nat) (D : List (BitVec 8)) (w : World) (hB : Bnd m b g s l) (hd : nd ≤ 1000000) (hlen : 12 + 9 * g + 4 * l ≤ nd) (h : Has w A nd D) :
    Calls Try.prog 34 #[.slice A nd cd, .agg #[.int .i64 (m : Int), .int .i64 (b : Int), .int .i64 (g : Int), .int .i64 (s : Int), .int .i64 (n : Int), .int .i64 (l : Int)]] w (Parsed w D g l) := by
  have LD := Lib.hid h.1
  have hg := hB.g; have hl := hB.l
  have H := Lib.hid h
  have hq : fld D 0 8 < 18446744073709551616 := fld_lt D 0 8
  have hz : fld D 8 2 < 65536 := fld_lt D 8 2
  have hix : fld D 10 2 < 65536 := fld_lt D 10 2
  obtain ⟨q, hqe⟩ : ∃ y, y = fld D 0 8 := ⟨_, rfl⟩
  obtain ⟨z, hze⟩ : ∃ y, y = fld D 8 2 := ⟨_, rfl⟩
  obtain ⟨ix, hxe⟩ : ∃ y, y = fld D 10 2 := ⟨_, rfl⟩
  rw [← hqe] at hq
  rw [← hze] at hz
  rw [← hxe] at hix
  have QQ := Lib.hid hqe
  have ZZ := Lib.hid hze
  have XX := Lib.hid hxe
  clear h hB hqe hze hxe
  go_enter Try.func34, Try.ntmps34
  go_wp2_with fail
  refine (read_any A nd cd D _ hd (H.out.below (BB2 w _ _))).mono ?_
  rintro e w1 ⟨R, A1, c1, rfl, hr, hb1, hg1, hx1⟩
  have hsz : ((w.alloc (.cells #[.int .i64 (m : Int), .int .i64 (b : Int), .int .i64 (g : Int), .int .i64 (s : Int), .int .i64 (n : Int), .int .i64 (l : Int)] 32)).alloc (.cells zcs 37)).heap.size = w.heap.size + 1 + 1 := by simp
  rw [hsz] at hg1
  obtain ⟨b1, o1, hA1⟩ := hr.has.some_ (by omega)
  have hDb : w.heap.size + 1 < b1 := by have := hx1 _ hA1; rw [hsz] at this; exact this
  have E := Lib.hid (show Pq w w1 #[.int .i64 (m : Int), .int .i64 (b : Int), .int .i64 (g : Int), .int .i64 (s : Int), .int .i64 (n : Int), .int .i64 (l : Int)] R b1 D g l 0 none none none from ⟨⟨((At.new _ _ rfl).alloc _).below hb1 (by simp; omega), (At.new _ _ (by simp)).below hb1 (by simp), ⟨A1, c1, by rw [List.drop_zero, LD.out]; exact hr, fun x e => by rw [hA1] at e; injection e with e; rw [← e]⟩, ⟨by omega, hDb, by rw [hA1] at hr; exact hr.has.lt (by omega)⟩, (BB2 w _ _).trans (hb1.mono (BB2 w _ _).size)⟩, fun r hr => (by cases hr), fun r hr => (by cases hr), fun r hr => (by cases hr), fun r r' hr => (by cases hr), fun r r' hr => (by cases hr), fun r r' hr => (by cases hr)⟩)
  clear hr hb1 hx1 hsz hA1 hDb hg1 H
  go_upto_region 2 with (fail)
  go_cut [7] (fun s7 wc => ∃ P R1 R2 : Nat, s7 = .pointer (some ⟨P, 0, none⟩) ∧ Pst w wc #[.int .i64 (m : Int), .int .i64 (b : Int), .int .i64 (g : Int), .int .i64 (s : Int), .int .i64 (n : Int), .int .i64 (l : Int)] R b1 D 12 P R1 R2 q z ix g l (List.replicate g ⟨0, 0⟩) (List.replicate l 1))
  case first =>
    refine wp_region_early (fun w' : World => At w' w.heap.size #[.int .i64 (m : Int), .int .i64 (b : Int), .int .i64 (g : Int), .int .i64 (s : Int), .int .i64 (n : Int), .int .i64 (l : Int)] 32) (fun _ => true) (by kernel_rfl) ?_
    change wpEarly _ _ _ _ _ _ 18 (Array.replicate 18 false) _ w1.drew
    have E := Lib.hid (E.out.up (below_drew (Below.refl _ _)))
    have S0 := Lib.hid E.out.e.shp
    generalize w1.drew = wa at *
    refine early_take (i := 0) 12 (.pointer (some ⟨R, 0, none⟩)) rfl rfl (by kernel_rfl) (by kernel_rfl) (by kernel_rfl) (by kernel_rfl) rfl (fun _ _ _ h => h) (fun w' hw' => by go_simp) S0.out ?_
    simp only [Act.put, List.setIfInBounds_toArray, List.set_cons_zero, List.set_cons_succ]
    refine early_take (i := 2) 14 (.pointer (some ⟨R, 0, none⟩)) rfl rfl (by kernel_rfl) (by kernel_rfl) (by kernel_rfl) (by kernel_rfl) rfl (fun _ _ _ h => h) (fun w' hw' => by go_simp) S0.out ?_
    simp only [Act.put, List.setIfInBounds_toArray, List.set_cons_zero, List.set_cons_succ]
    refine early_take (i := 6) 18 (.pointer (some ⟨R, 0, none⟩)) rfl rfl (by kernel_rfl) (by kernel_rfl) (by kernel_rfl) (by kernel_rfl) rfl (fun _ _ _ h => h) (fun w' hw' => by go_simp) S0.out ?_
    simp only [Act.put, List.setIfInBounds_toArray, List.set_cons_zero, List.set_cons_succ]
    refine early_take (i := 9) 21 (.pointer (some ⟨w.heap.size, 2, none⟩)) rfl rfl (by kernel_rfl) (by kernel_rfl) (by kernel_rfl) (by kernel_rfl) rfl (fun _ _ _ h => h) (fun w' hw' => by go_simp) S0.out ?_
    simp only [Act.put, List.setIfInBounds_toArray, List.set_cons_zero, List.set_cons_succ]
    refine early_take (i := 10) 22 (.int .i64 (g : Int)) rfl rfl (by kernel_rfl) (by kernel_rfl) (by kernel_rfl) (by kernel_rfl) rfl (fun _ _ _ h => h) (fun w' hw' => by have hc0 := hw'.cell 2; go_simp) S0.out ?_
    simp only [Act.put, List.setIfInBounds_toArray, List.set_cons_zero, List.set_cons_succ]
    refine early_take (i := 12) 24 (.pointer (some ⟨w.heap.size, 5, none⟩)) rfl rfl (by kernel_rfl) (by kernel_rfl) (by kernel_rfl) (by kernel_rfl) rfl (fun _ _ _ h => h) (fun w' hw' => by go_simp) S0.out ?_
    simp only [Act.put, List.setIfInBounds_toArray, List.set_cons_zero, List.set_cons_succ]
    refine early_take (i := 13) 25 (.int .i64 (l : Int)) rfl rfl (by kernel_rfl) (by kernel_rfl) (by kernel_rfl) (by kernel_rfl) rfl (fun _ _ _ h => h) (fun w' hw' => by have hc0 := hw'.cell 5; go_simp) S0.out ?_
    simp only [Act.put, List.setIfInBounds_toArray, List.set_cons_zero, List.set_cons_succ]
    clear S0
    refine early_ind (fun a0 fuel li bb u => PSt w a0 #[.int .i64 (m : Int), .int .i64 (b : Int), .int .i64 (g : Int), .int .i64 (s : Int), .int .i64 (n : Int), .int .i64 (l : Int)] R b1 D g l q z ix fuel li bb u) (PSt.s0000 _ E.out) ?_
    clear E
    intro fuel ih li bb u hI
    cases hI with
    | s0000 _ h =>
      have H := Lib.hid h
      clear h
      refine early_four (i := 1) (j := 11) (k := 14) (l := 16) (by kernel_rfl) ⟨rfl, fun K hK => ?_⟩ ⟨rfl, fun K hK => ?_⟩ ⟨rfl, fun K hK => ?_⟩ ⟨rfl, fun K hK => ?_⟩
      · simp only [opWp, List.getElem?_toArray, List.getElem?_cons_succ, List.getElem?_cons_zero]
        go_simp
        go_at_call 52
        obtain ⟨Aq, cq, hr, hA⟩ := H.out.e.rd
        refine (take_fld R Aq cq D 0 8 _ (by omega) (by rw [LD.out]; exact hd) (by rw [LD.out]; omega) hr).mono ?_
        rintro e u2 ⟨rfl, hS⟩
        rw [← QQ.out]
        have H := Lib.hid (H.out.take hA hS)
        clear hr hA hS
        refine hK _ _ (fun _ => H.out.e.shp) ?_
        clear hK
        have NX := ih 10 (by omega) _ _ _ (PSt.s1000 _ H.out)
        simp only [Act.put, List.setIfInBounds_toArray, List.set_cons_zero, List.set_cons_succ] at NX ⊢
        exact NX
      · simp only [opWp, List.getElem?_toArray, List.getElem?_cons_succ, List.getElem?_cons_zero]
        refine wp_make_seg (.tmp 22) (.tmp 22) rfl g rfl rfl (by omega) ?_
        intro u2 hat hb
        have H := Lib.hid (H.out.make1 hat hb)
        clear hat hb
        refine hK _ _ (fun _ => H.out.e.shp) ?_
        clear hK
        have NX := ih 10 (by omega) _ _ _ (PSt.s0100 _ _ H.out)
        simp only [Act.put, List.setIfInBounds_toArray, List.set_cons_zero, List.set_cons_succ] at NX ⊢
        exact NX
      · simp only [opWp, List.getElem?_toArray, List.getElem?_cons_succ, List.getElem?_cons_zero]
        refine wp_make_int (.tmp 25) (.tmp 25) rfl l rfl rfl (by omega) ?_
        intro u2 hat hb
        have H := Lib.hid (H.out.make2 hat hb)
        clear hat hb
        refine hK _ _ (fun _ => H.out.e.shp) ?_
        clear hK
        have NX := ih 10 (by omega) _ _ _ (PSt.s0010 _ _ H.out)
        simp only [Act.put, List.setIfInBounds_toArray, List.set_cons_zero, List.set_cons_succ] at NX ⊢
        exact NX
      · simp only [opWp, List.getElem?_toArray, List.getElem?_cons_succ, List.getElem?_cons_zero]
        go_simp
        have H := Lib.hid (H.out.make3 (At.new zcs 37 rfl) (BB1 _ _))
        refine hK _ _ (fun _ => H.out.e.shp) ?_
        clear hK
        have NX := ih 10 (by omega) _ _ _ (PSt.s0001 _ _ H.out)
        simp only [Act.put, List.setIfInBounds_toArray, List.set_cons_zero, List.set_cons_succ] at NX ⊢
        exact NX
    | s0001 _ p h =>
      simp only [Act.put, List.setIfInBounds_toArray, List.set_cons_zero, List.set_cons_succ]
      have H := Lib.hid h
      clear h
      refine early_three (i := 1) (j := 11) (k := 14) (by kernel_rfl) ⟨rfl, fun K hK => ?_⟩ ⟨rfl, fun K hK => ?_⟩ ⟨rfl, fun K hK => ?_⟩
      · simp only [opWp, List.getElem?_toArray, List.getElem?_cons_succ, List.getElem?_cons_zero]
        go_simp
        go_at_call 52
        obtain ⟨Aq, cq, hr, hA⟩ := H.out.e.rd
        refine (take_fld R Aq cq D 0 8 _ (by omega) (by rw [LD.out]; exact hd) (by rw [LD.out]; omega) hr).mono ?_
        rintro e u2 ⟨rfl, hS⟩
        rw [← QQ.out]
        have H := Lib.hid (H.out.take hA hS)
        clear hr hA hS
        refine hK _ _ (fun _ => H.out.e.shp) ?_
        clear hK
        have NX := ih 9 (by omega) _ _ _ (PSt.s1001 _ _ H.out)
        simp only [Act.put, List.setIfInBounds_toArray, List.set_cons_zero, List.set_cons_succ] at NX ⊢
        exact NX
      · simp only [opWp, List.getElem?_toArray, List.getElem?_cons_succ, List.getElem?_cons_zero]
        refine wp_make_seg (.tmp 22) (.tmp 22) rfl g rfl rfl (by omega) ?_
        intro u2 hat hb
        have H := Lib.hid (H.out.make1 hat hb)
        clear hat hb
        refine hK _ _ (fun _ => H.out.e.shp) ?_
        clear hK
        have NX := ih 9 (by omega) _ _ _ (PSt.s0101 _ _ _ H.out)
        simp only [Act.put, List.setIfInBounds_toArray, List.set_cons_zero, List.set_cons_succ] at NX ⊢
        exact NX
      · simp only [opWp, List.getElem?_toArray, List.getElem?_cons_succ, List.getElem?_cons_zero]
        refine wp_make_int (.tmp 25) (.tmp 25) rfl l rfl rfl (by omega) ?_
        intro u2 hat hb
        have H := Lib.hid (H.out.make2 hat hb)
        clear hat hb
        refine hK _ _ (fun _ => H.out.e.shp) ?_
        clear hK
        have NX := ih 9 (by omega) _ _ _ (PSt.s0011 _ _ _ H.out)
        simp only [Act.put, List.setIfInBounds_toArray, List.set_cons_zero, List.set_cons_succ] at NX ⊢
        exact NX
    | s0010 _ r2 h =>
      simp only [Act.put, List.setIfInBounds_toArray, List.set_cons_zero, List.set_cons_succ]
      have H := Lib.hid h
      clear h
      refine early_three (i := 1) (j := 11) (k := 16) (by kernel_rfl) ⟨rfl, fun K hK => ?_⟩ ⟨rfl, fun K hK => ?_⟩ ⟨rfl, fun K hK => ?_⟩
      · simp only [opWp, List.getElem?_toArray, List.getElem?_cons_succ, List.getElem?_cons_zero]
        go_simp
        go_at_call 52
        obtain ⟨Aq, cq, hr, hA⟩ := H.out.e.rd
        refine (take_fld R Aq cq D 0 8 _ (by omega) (by rw [LD.out]; exact hd) (by rw [LD.out]; omega) hr).mono ?_
        rintro e u2 ⟨rfl, hS⟩
        rw [← QQ.out]
        have H := Lib.hid (H.out.take hA hS)
        clear hr hA hS
        refine hK _ _ (fun _ => H.out.e.shp) ?_
        clear hK
        have NX := ih 9 (by omega) _ _ _ (PSt.s1010 _ _ H.out)
        simp only [Act.put, List.setIfInBounds_toArray, List.set_cons_zero, List.set_cons_succ] at NX ⊢
        exact NX
      · simp only [opWp, List.getElem?_toArray, List.getElem?_cons_succ, List.getElem?_cons_zero]
        refine wp_make_seg (.tmp 22) (.tmp 22) rfl g rfl rfl (by omega) ?_
        intro u2 hat hb
        have H := Lib.hid (H.out.make1 hat hb)
        clear hat hb
        refine hK _ _ (fun _ => H.out.e.shp) ?_
        clear hK
        have NX := ih 9 (by omega) _ _ _ (PSt.s0110 _ _ _ H.out)
        simp only [Act.put, List.setIfInBounds_toArray, List.set_cons_zero, List.set_cons_succ] at NX ⊢
        exact NX
      · simp only [opWp, List.getElem?_toArray, List.getElem?_cons_succ, List.getElem?_cons_zero]
        go_simp
        have H := Lib.hid (H.out.make3 (At.new zcs 37 rfl) (BB1 _ _))
        refine hK _ _ (fun _ => H.out.e.shp) ?_
        clear hK
        have NX := ih 9 (by omega) _ _ _ (PSt.s0011 _ _ _ H.out)
        simp only [Act.put, List.setIfInBounds_toArray, List.set_cons_zero, List.set_cons_succ] at NX ⊢
        exact NX
    | s0011 _ r2 p h =>
      simp only [Act.put, List.setIfInBounds_toArray, List.set_cons_zero, List.set_cons_succ]
      have H := Lib.hid h
      clear h
      refine early_two (i := 1) (j := 11) (by kernel_rfl) ⟨rfl, fun K hK => ?_⟩ ⟨rfl, fun K hK => ?_⟩
      · simp only [opWp, List.getElem?_toArray, List.getElem?_cons_succ, List.getElem?_cons_zero]
        go_simp
        go_at_call 52
        obtain ⟨Aq, cq, hr, hA⟩ := H.out.e.rd
        refine (take_fld R Aq cq D 0 8 _ (by omega) (by rw [LD.out]; exact hd) (by rw [LD.out]; omega) hr).mono ?_
        rintro e u2 ⟨rfl, hS⟩
        rw [← QQ.out]
        have H := Lib.hid (H.out.take hA hS)
        clear hr hA hS
        refine hK _ _ (fun _ => H.out.e.shp) ?_
        clear hK
        have NX := ih 8 (by omega) _ _ _ (PSt.s1011 _ _ _ H.out)
        simp only [Act.put, List.setIfInBounds_toArray, List.set_cons_zero, List.set_cons_succ] at NX ⊢
        exact NX
      · simp only [opWp, List.getElem?_toArray, List.getElem?_cons_succ, List.getElem?_cons_zero]
        refine wp_make_seg (.tmp 22) (.tmp 22) rfl g rfl rfl (by omega) ?_
        intro u2 hat hb
        have H := Lib.hid (H.out.make1 hat hb)
        clear hat hb
        refine hK _ _ (fun _ => H.out.e.shp) ?_
        clear hK
        have NX := ih 8 (by omega) _ _ _ (PSt.s0111 _ _ _ _ H.out)
        simp only [Act.put, List.setIfInBounds_toArray, List.set_cons_zero, List.set_cons_succ] at NX ⊢
        exact NX
    | s0100 _ r1 h =>
      simp only [Act.put, List.setIfInBounds_toArray, List.set_cons_zero, List.set_cons_succ]
      have H := Lib.hid h
      clear h
      refine early_three (i := 1) (j := 14) (k := 16) (by kernel_rfl) ⟨rfl, fun K hK => ?_⟩ ⟨rfl, fun K hK => ?_⟩ ⟨rfl, fun K hK => ?_⟩
      · simp only [opWp, List.getElem?_toArray, List.getElem?_cons_succ, List.getElem?_cons_zero]
        go_simp
        go_at_call 52
        obtain ⟨Aq, cq, hr, hA⟩ := H.out.e.rd
        refine (take_fld R Aq cq D 0 8 _ (by omega) (by rw [LD.out]; exact hd) (by rw [LD.out]; omega) hr).mono ?_
        rintro e u2 ⟨rfl, hS⟩
        rw [← QQ.out]
        have H := Lib.hid (H.out.take hA hS)
        clear hr hA hS
        refine hK _ _ (fun _ => H.out.e.shp) ?_
        clear hK
        have NX := ih 9 (by omega) _ _ _ (PSt.s1100 _ _ H.out)
        simp only [Act.put, List.setIfInBounds_toArray, List.set_cons_zero, List.set_cons_succ] at NX ⊢
        exact NX
      · simp only [opWp, List.getElem?_toArray, List.getElem?_cons_succ, List.getElem?_cons_zero]
        refine wp_make_int (.tmp 25) (.tmp 25) rfl l rfl rfl (by omega) ?_
        intro u2 hat hb
        have H := Lib.hid (H.out.make2 hat hb)
        clear hat hb
        refine hK _ _ (fun _ => H.out.e.shp) ?_
        clear hK
        have NX := ih 9 (by omega) _ _ _ (PSt.s0110 _ _ _ H.out)
        simp only [Act.put, List.setIfInBounds_toArray, List.set_cons_zero, List.set_cons_succ] at NX ⊢
        exact NX
      · simp only [opWp, List.getElem?_toArray, List.getElem?_cons_succ, List.getElem?_cons_zero]
        go_simp
        have H := Lib.hid (H.out.make3 (At.new zcs 37 rfl) (BB1 _ _))
        refine hK _ _ (fun _ => H.out.e.shp) ?_
        clear hK
        have NX := ih 9 (by omega) _ _ _ (PSt.s0101 _ _ _ H.out)
        simp only [Act.put, List.setIfInBounds_toArray, List.set_cons_zero, List.set_cons_succ] at NX ⊢
        exact NX
    | s0101 _ r1 p h =>
      simp only [Act.put, List.setIfInBounds_toArray, List.set_cons_zero, List.set_cons_succ]
      have H := Lib.hid h
      clear h
      refine early_two (i := 1) (j := 14) (by kernel_rfl) ⟨rfl, fun K hK => ?_⟩ ⟨rfl, fun K hK => ?_⟩
      · simp only [opWp, List.getElem?_toArray, List.getElem?_cons_succ, List.getElem?_cons_zero]
        go_simp
        go_at_call 52
        obtain ⟨Aq, cq, hr, hA⟩ := H.out.e.rd
        refine (take_fld R Aq cq D 0 8 _ (by omega) (by rw [LD.out]; exact hd) (by rw [LD.out]; omega) hr).mono ?_
        rintro e u2 ⟨rfl, hS⟩
        rw [← QQ.out]
        have H := Lib.hid (H.out.take hA hS)
        clear hr hA hS
        refine hK _ _ (fun _ => H.out.e.shp) ?_
        clear hK
        have NX := ih 8 (by omega) _ _ _ (PSt.s1101 _ _ _ H.out)
        simp only [Act.put, List.setIfInBounds_toArray, List.set_cons_zero, List.set_cons_succ] at NX ⊢
        exact NX
      · simp only [opWp, List.getElem?_toArray, List.getElem?_cons_succ, List.getElem?_cons_zero]
        refine wp_make_int (.tmp 25) (.tmp 25) rfl l rfl rfl (by omega) ?_
        intro u2 hat hb
        have H := Lib.hid (H.out.make2 hat hb)
        clear hat hb
        refine hK _ _ (fun _ => H.out.e.shp) ?_
        clear hK
        have NX := ih 8 (by omega) _ _ _ (PSt.s0111 _ _ _ _ H.out)
        simp only [Act.put, List.setIfInBounds_toArray, List.set_cons_zero, List.set_cons_succ] at NX ⊢
        exact NX
    | s0110 _ r1 r2 h =>
      simp only [Act.put, List.setIfInBounds_toArray, List.set_cons_zero, List.set_cons_succ]
      have H := Lib.hid h
      clear h
      refine early_two (i := 1) (j := 16) (by kernel_rfl) ⟨rfl, fun K hK => ?_⟩ ⟨rfl, fun K hK => ?_⟩
      · simp only [opWp, List.getElem?_toArray, List.getElem?_cons_succ, List.getElem?_cons_zero]
        go_simp
        go_at_call 52
        obtain ⟨Aq, cq, hr, hA⟩ := H.out.e.rd
        refine (take_fld R Aq cq D 0 8 _ (by omega) (by rw [LD.out]; exact hd) (by rw [LD.out]; omega) hr).mono ?_
        rintro e u2 ⟨rfl, hS⟩
        rw [← QQ.out]
        have H := Lib.hid (H.out.take hA hS)
        clear hr hA hS
        refine hK _ _ (fun _ => H.out.e.shp) ?_
        clear hK
        have NX := ih 8 (by omega) _ _ _ (PSt.s1110 _ _ _ H.out)
        simp only [Act.put, List.setIfInBounds_toArray, List.set_cons_zero, List.set_cons_succ] at NX ⊢
        exact NX
      · simp only [opWp, List.getElem?_toArray, List.getElem?_cons_succ, List.getElem?_cons_zero]
        go_simp
        have H := Lib.hid (H.out.make3 (At.new zcs 37 rfl) (BB1 _ _))
        refine hK _ _ (fun _ => H.out.e.shp) ?_
        clear hK
        have NX := ih 8 (by omega) _ _ _ (PSt.s0111 _ _ _ _ H.out)
        simp only [Act.put, List.setIfInBounds_toArray, List.set_cons_zero, List.set_cons_succ] at NX ⊢
        exact NX
    | s0111 _ r1 r2 p h =>
      simp only [Act.put, List.setIfInBounds_toArray, List.set_cons_zero, List.set_cons_succ]
      have H := Lib.hid h
      clear h
      refine early_only (i := 1) (by kernel_rfl) rfl (fun K hK => ?_)
      simp only [opWp, List.getElem?_toArray, List.getElem?_cons_succ, List.getElem?_cons_zero]
      go_simp
      go_at_call 52
      obtain ⟨Aq, cq, hr, hA⟩ := H.out.e.rd
      refine (take_fld R Aq cq D 0 8 _ (by omega) (by rw [LD.out]; exact hd) (by rw [LD.out]; omega) hr).mono ?_
      rintro e u2 ⟨rfl, hS⟩
      rw [← QQ.out]
      have H := Lib.hid (H.out.take hA hS)
      clear hr hA hS
      refine hK _ _ (fun _ => H.out.e.shp) ?_
      clear hK
      have NX := ih 7 (by omega) _ _ _ (PSt.s1111 _ _ _ _ H.out)
      simp only [Act.put, List.setIfInBounds_toArray, List.set_cons_zero, List.set_cons_succ] at NX ⊢
      exact NX
    | s1000 _ h =>
      simp only [Act.put, List.setIfInBounds_toArray, List.set_cons_zero, List.set_cons_succ]
      have H := Lib.hid h
      clear h
      refine early_four (i := 3) (j := 11) (k := 14) (l := 16) (by kernel_rfl) ⟨rfl, fun K hK => ?_⟩ ⟨rfl, fun K hK => ?_⟩ ⟨rfl, fun K hK => ?_⟩ ⟨rfl, fun K hK => ?_⟩
      · simp only [opWp, List.getElem?_toArray, List.getElem?_cons_succ, List.getElem?_cons_zero]
        go_simp
        go_at_call 52
        obtain ⟨Aq, cq, hr, hA⟩ := H.out.e.rd
        refine (take_fld R Aq cq D 8 2 _ (by omega) (by rw [LD.out]; exact hd) (by rw [LD.out]; omega) hr).mono ?_
        rintro e u2 ⟨rfl, hS⟩
        rw [← ZZ.out]
        have H := Lib.hid (H.out.take hA hS)
        clear hr hA hS
        refine hK _ _ (fun _ => H.out.e.shp) ?_
        clear hK
        refine early_take (i := 4) 16 (.int .i64 (z : Int)) rfl rfl (by kernel_rfl) (by kernel_rfl) (by kernel_rfl) (by kernel_rfl) rfl (fun _ _ _ h => h) (fun w' hw' => by go_simp; exact wrap_of (by omega) (by omega)) H.out.e.shp ?_
        simp only [Act.put, List.setIfInBounds_toArray, List.set_cons_zero, List.set_cons_succ]
        refine early_take (i := 5) 17 (.int .i64 ((z : Int) - 1)) rfl rfl (by kernel_rfl) (by kernel_rfl) (by kernel_rfl) (by kernel_rfl) rfl (fun _ _ _ h => h) (fun w' hw' => by go_simp; exact wrap_of (by omega) (by omega)) H.out.e.shp ?_
        simp only [Act.put, List.setIfInBounds_toArray, List.set_cons_zero, List.set_cons_succ]
        have NX := ih 7 (by omega) _ _ _ (PSt.s2000 _ H.out)
        simp only [Act.put, List.setIfInBounds_toArray, List.set_cons_zero, List.set_cons_succ] at NX ⊢
        exact NX
      · simp only [opWp, List.getElem?_toArray, List.getElem?_cons_succ, List.getElem?_cons_zero]
        refine wp_make_seg (.tmp 22) (.tmp 22) rfl g rfl rfl (by omega) ?_
        intro u2 hat hb
        have H := Lib.hid (H.out.make1 hat hb)
        clear hat hb
        refine hK _ _ (fun _ => H.out.e.shp) ?_
        clear hK
        have NX := ih 9 (by omega) _ _ _ (PSt.s1100 _ _ H.out)
        simp only [Act.put, List.setIfInBounds_toArray, List.set_cons_zero, List.set_cons_succ] at NX ⊢
        exact NX
      · simp only [opWp, List.getElem?_toArray, List.getElem?_cons_succ, List.getElem?_cons_zero]
        refine wp_make_int (.tmp 25) (.tmp 25) rfl l rfl rfl (by omega) ?_
        intro u2 hat hb
        have H := Lib.hid (H.out.make2 hat hb)
        clear hat hb
        refine hK _ _ (fun _ => H.out.e.shp) ?_
        clear hK
        have NX := ih 9 (by omega) _ _ _ (PSt.s1010 _ _ H.out)
        simp only [Act.put, List.setIfInBounds_toArray, List.set_cons_zero, List.set_cons_succ] at NX ⊢
        exact NX
      · simp only [opWp, List.getElem?_toArray, List.getElem?_cons_succ, List.getElem?_cons_zero]
        go_simp
        have H := Lib.hid (H.out.make3 (At.new zcs 37 rfl) (BB1 _ _))
        refine hK _ _ (fun _ => H.out.e.shp) ?_
        clear hK
        have NX := ih 9 (by omega) _ _ _ (PSt.s1001 _ _ H.out)
        simp only [Act.put, List.setIfInBounds_toArray, List.set_cons_zero, List.set_cons_succ] at NX ⊢
        exact NX
    | s1001 _ p h =>
      simp only [Act.put, List.setIfInBounds_toArray, List.set_cons_zero, List.set_cons_succ]
      have H := Lib.hid h
      clear h
      refine early_three (i := 3) (j := 11) (k := 14) (by kernel_rfl) ⟨rfl, fun K hK => ?_⟩ ⟨rfl, fun K hK => ?_⟩ ⟨rfl, fun K hK => ?_⟩
      · simp only [opWp, List.getElem?_toArray, List.getElem?_cons_succ, List.getElem?_cons_zero]
        go_simp
        go_at_call 52
        obtain ⟨Aq, cq, hr, hA⟩ := H.out.e.rd
        refine (take_fld R Aq cq D 8 2 _ (by omega) (by rw [LD.out]; exact hd) (by rw [LD.out]; omega) hr).mono ?_
        rintro e u2 ⟨rfl, hS⟩
        rw [← ZZ.out]
        have H := Lib.hid (H.out.take hA hS)
        clear hr hA hS
        refine hK _ _ (fun _ => H.out.e.shp) ?_
        clear hK
        refine early_take (i := 4) 16 (.int .i64 (z : Int)) rfl rfl (by kernel_rfl) (by kernel_rfl) (by kernel_rfl) (by kernel_rfl) rfl (fun _ _ _ h => h) (fun w' hw' => by go_simp; exact wrap_of (by omega) (by omega)) H.out.e.shp ?_
        simp only [Act.put, List.setIfInBounds_toArray, List.set_cons_zero, List.set_cons_succ]
        refine early_take (i := 5) 17 (.int .i64 ((z : Int) - 1)) rfl rfl (by kernel_rfl) (by kernel_rfl) (by kernel_rfl) (by kernel_rfl) rfl (fun _ _ _ h => h) (fun w' hw' => by go_simp; exact wrap_of (by omega) (by omega)) H.out.e.shp ?_
        simp only [Act.put, List.setIfInBounds_toArray, List.set_cons_zero, List.set_cons_succ]
        have NX := ih 6 (by omega) _ _ _ (PSt.s2001 _ _ H.out)
        simp only [Act.put, List.setIfInBounds_toArray, List.set_cons_zero, List.set_cons_succ] at NX ⊢
        exact NX
      · simp only [opWp, List.getElem?_toArray, List.getElem?_cons_succ, List.getElem?_cons_zero]
        refine wp_make_seg (.tmp 22) (.tmp 22) rfl g rfl rfl (by omega) ?_
        intro u2 hat hb
        have H := Lib.hid (H.out.make1 hat hb)
        clear hat hb
        refine hK _ _ (fun _ => H.out.e.shp) ?_
        clear hK
        have NX := ih 8 (by omega) _ _ _ (PSt.s1101 _ _ _ H.out)
        simp only [Act.put, List.setIfInBounds_toArray, List.set_cons_zero, List.set_cons_succ] at NX ⊢
        exact NX
      · simp only [opWp, List.getElem?_toArray, List.getElem?_cons_succ, List.getElem?_cons_zero]
        refine wp_make_int (.tmp 25) (.tmp 25) rfl l rfl rfl (by omega) ?_
        intro u2 hat hb
        have H := Lib.hid (H.out.make2 hat hb)
        clear hat hb
        refine hK _ _ (fun _ => H.out.e.shp) ?_
        clear hK
        have NX := ih 8 (by omega) _ _ _ (PSt.s1011 _ _ _ H.out)
        simp only [Act.put, List.setIfInBounds_toArray, List.set_cons_zero, List.set_cons_succ] at NX ⊢
        exact NX
    | s1010 _ r2 h =>
      simp only [Act.put, List.setIfInBounds_toArray, List.set_cons_zero, List.set_cons_succ]
      have H := Lib.hid h
      clear h
      refine early_three (i := 3) (j := 11) (k := 16) (by kernel_rfl) ⟨rfl, fun K hK => ?_⟩ ⟨rfl, fun K hK => ?_⟩ ⟨rfl, fun K hK => ?_⟩
      · simp only [opWp, List.getElem?_toArray, List.getElem?_cons_succ, List.getElem?_cons_zero]
        go_simp
        go_at_call 52
        obtain ⟨Aq, cq, hr, hA⟩ := H.out.e.rd
        refine (take_fld R Aq cq D 8 2 _ (by omega) (by rw [LD.out]; exact hd) (by rw [LD.out]; omega) hr).mono ?_
        rintro e u2 ⟨rfl, hS⟩
        rw [← ZZ.out]
        have H := Lib.hid (H.out.take hA hS)
        clear hr hA hS
        refine hK _ _ (fun _ => H.out.e.shp) ?_
        clear hK
        refine early_take (i := 4) 16 (.int .i64 (z : Int)) rfl rfl (by kernel_rfl) (by kernel_rfl) (by kernel_rfl) (by kernel_rfl) rfl (fun _ _ _ h => h) (fun w' hw' => by go_simp; exact wrap_of (by omega) (by omega)) H.out.e.shp ?_
        simp only [Act.put, List.setIfInBounds_toArray, List.set_cons_zero, List.set_cons_succ]
        refine early_take (i := 5) 17 (.int .i64 ((z : Int) - 1)) rfl rfl (by kernel_rfl) (by kernel_rfl) (by kernel_rfl) (by kernel_rfl) rfl (fun _ _ _ h => h) (fun w' hw' => by go_simp; exact wrap_of (by omega) (by omega)) H.out.e.shp ?_
        simp only [Act.put, List.setIfInBounds_toArray, List.set_cons_zero, List.set_cons_succ]
        have NX := ih 6 (by omega) _ _ _ (PSt.s2010 _ _ H.out)
        simp only [Act.put, List.setIfInBounds_toArray, List.set_cons_zero, List.set_cons_succ] at NX ⊢
        exact NX
      · simp only [opWp, List.getElem?_toArray, List.getElem?_cons_succ, List.getElem?_cons_zero]
        refine wp_make_seg (.tmp 22) (.tmp 22) rfl g rfl rfl (by omega) ?_
        intro u2 hat hb
        have H := Lib.hid (H.out.make1 hat hb)
        clear hat hb
        refine hK _ _ (fun _ => H.out.e.shp) ?_
        clear hK
        have NX := ih 8 (by omega) _ _ _ (PSt.s1110 _ _ _ H.out)
        simp only [Act.put, List.setIfInBounds_toArray, List.set_cons_zero, List.set_cons_succ] at NX ⊢
        exact NX
      · simp only [opWp, List.getElem?_toArray, List.getElem?_cons_succ, List.getElem?_cons_zero]
        go_simp
        have H := Lib.hid (H.out.make3 (At.new zcs 37 rfl) (BB1 _ _))
        refine hK _ _ (fun _ => H.out.e.shp) ?_
        clear hK
        have NX := ih 8 (by omega) _ _ _ (PSt.s1011 _ _ _ H.out)
        simp only [Act.put, List.setIfInBounds_toArray, List.set_cons_zero, List.set_cons_succ] at NX ⊢
        exact NX
    | s1011 _ r2 p h =>
      simp only [Act.put, List.setIfInBounds_toArray, List.set_cons_zero, List.set_cons_succ]
      have H := Lib.hid h
      clear h
      refine early_two (i := 3) (j := 11) (by kernel_rfl) ⟨rfl, fun K hK => ?_⟩ ⟨rfl, fun K hK => ?_⟩
      · simp only [opWp, List.getElem?_toArray, List.getElem?_cons_succ, List.getElem?_cons_zero]
        go_simp
        go_at_call 52
        obtain ⟨Aq, cq, hr, hA⟩ := H.out.e.rd
        refine (take_fld R Aq cq D 8 2 _ (by omega) (by rw [LD.out]; exact hd) (by rw [LD.out]; omega) hr).mono ?_
        rintro e u2 ⟨rfl, hS⟩
        rw [← ZZ.out]
        have H := Lib.hid (H.out.take hA hS)
        clear hr hA hS
        refine hK _ _ (fun _ => H.out.e.shp) ?_
        clear hK
        refine early_take (i := 4) 16 (.int .i64 (z : Int)) rfl rfl (by kernel_rfl) (by kernel_rfl) (by kernel_rfl) (by kernel_rfl) rfl (fun _ _ _ h => h) (fun w' hw' => by go_simp; exact wrap_of (by omega) (by omega)) H.out.e.shp ?_
        simp only [Act.put, List.setIfInBounds_toArray, List.set_cons_zero, List.set_cons_succ]
        refine early_take (i := 5) 17 (.int .i64 ((z : Int) - 1)) rfl rfl (by kernel_rfl) (by kernel_rfl) (by kernel_rfl) (by kernel_rfl) rfl (fun _ _ _ h => h) (fun w' hw' => by go_simp; exact wrap_of (by omega) (by omega)) H.out.e.shp ?_
        simp only [Act.put, List.setIfInBounds_toArray, List.set_cons_zero, List.set_cons_succ]
        have NX := ih 5 (by omega) _ _ _ (PSt.s2011 _ _ _ H.out)
        simp only [Act.put, List.setIfInBounds_toArray, List.set_cons_zero, List.set_cons_succ] at NX ⊢
        exact NX
      · simp only [opWp, List.getElem?_toArray, List.getElem?_cons_succ, List.getElem?_cons_zero]
        refine wp_make_seg (.tmp 22) (.tmp 22) rfl g rfl rfl (by omega) ?_
        intro u2 hat hb
        have H := Lib.hid (H.out.make1 hat hb)
        clear hat hb
        refine hK _ _ (fun _ => H.out.e.shp) ?_
        clear hK
        have NX := ih 7 (by omega) _ _ _ (PSt.s1111 _ _ _ _ H.out)
        simp only [Act.put, List.setIfInBounds_toArray, List.set_cons_zero, List.set_cons_succ] at NX ⊢
        exact NX
    | s1100 _ r1 h =>
      simp only [Act.put, List.setIfInBounds_toArray, List.set_cons_zero, List.set_cons_succ]
      have H := Lib.hid h
      clear h
      refine early_three (i := 3) (j := 14) (k := 16) (by kernel_rfl) ⟨rfl, fun K hK => ?_⟩ ⟨rfl, fun K hK => ?_⟩ ⟨rfl, fun K hK => ?_⟩
      · simp only [opWp, List.getElem?_toArray, List.getElem?_cons_succ, List.getElem?_cons_zero]
        go_simp
        go_at_call 52
        obtain ⟨Aq, cq, hr, hA⟩ := H.out.e.rd
        refine (take_fld R Aq cq D 8 2 _ (by omega) (by rw [LD.out]; exact hd) (by rw [LD.out]; omega) hr).mono ?_
        rintro e u2 ⟨rfl, hS⟩
        rw [← ZZ.out]
        have H := Lib.hid (H.out.take hA hS)
        clear hr hA hS
        refine hK _ _ (fun _ => H.out.e.shp) ?_
        clear hK
        refine early_take (i := 4) 16 (.int .i64 (z : Int)) rfl rfl (by kernel_rfl) (by kernel_rfl) (by kernel_rfl) (by kernel_rfl) rfl (fun _ _ _ h => h) (fun w' hw' => by go_simp; exact wrap_of (by omega) (by omega)) H.out.e.shp ?_
        simp only [Act.put, List.setIfInBounds_toArray, List.set_cons_zero, List.set_cons_succ]
        refine early_take (i := 5) 17 (.int .i64 ((z : Int) - 1)) rfl rfl (by kernel_rfl) (by kernel_rfl) (by kernel_rfl) (by kernel_rfl) rfl (fun _ _ _ h => h) (fun w' hw' => by go_simp; exact wrap_of (by omega) (by omega)) H.out.e.shp ?_
        simp only [Act.put, List.setIfInBounds_toArray, List.set_cons_zero, List.set_cons_succ]
        have NX := ih 6 (by omega) _ _ _ (PSt.s2100 _ _ H.out)
        simp only [Act.put, List.setIfInBounds_toArray, List.set_cons_zero, List.set_cons_succ] at NX ⊢
        exact NX
      · simp only [opWp, List.getElem?_toArray, List.getElem?_cons_succ, List.getElem?_cons_zero]
        refine wp_make_int (.tmp 25) (.tmp 25) rfl l rfl rfl (by omega) ?_
        intro u2 hat hb
        have H := Lib.hid (H.out.make2 hat hb)
        clear hat hb
        refine hK _ _ (fun _ => H.out.e.shp) ?_
        clear hK
        have NX := ih 8 (by omega) _ _ _ (PSt.s1110 _ _ _ H.out)
        simp only [Act.put, List.setIfInBounds_toArray, List.set_cons_zero, List.set_cons_succ] at NX ⊢
        exact NX
      · simp only [opWp, List.getElem?_toArray, List.getElem?_cons_succ, List.getElem?_cons_zero]
        go_simp
        have H := Lib.hid (H.out.make3 (At.new zcs 37 rfl) (BB1 _ _))
        refine hK _ _ (fun _ => H.out.e.shp) ?_
        clear hK
        have NX := ih 8 (by omega) _ _ _ (PSt.s1101 _ _ _ H.out)
        simp only [Act.put, List.setIfInBounds_toArray, List.set_cons_zero, List.set_cons_succ] at NX ⊢
        exact NX
    | s1101 _ r1 p h =>
      simp only [Act.put, List.setIfInBounds_toArray, List.set_cons_zero, List.set_cons_succ]
      have H := Lib.hid h
      clear h
      refine early_two (i := 3) (j := 14) (by kernel_rfl) ⟨rfl, fun K hK => ?_⟩ ⟨rfl, fun K hK => ?_⟩
      · simp only [opWp, List.getElem?_toArray, List.getElem?_cons_succ, List.getElem?_cons_zero]
        go_simp
        go_at_call 52
        obtain ⟨Aq, cq, hr, hA⟩ := H.out.e.rd
        refine (take_fld R Aq cq D 8 2 _ (by omega) (by rw [LD.out]; exact hd) (by rw [LD.out]; omega) hr).mono ?_
        rintro e u2 ⟨rfl, hS⟩
        rw [← ZZ.out]
        have H := Lib.hid (H.out.take hA hS)
        clear hr hA hS
        refine hK _ _ (fun _ => H.out.e.shp) ?_
        clear hK
        refine early_take (i := 4) 16 (.int .i64 (z : Int)) rfl rfl (by kernel_rfl) (by kernel_rfl) (by kernel_rfl) (by kernel_rfl) rfl (fun _ _ _ h => h) (fun w' hw' => by go_simp; exact wrap_of (by omega) (by omega)) H.out.e.shp ?_
        simp only [Act.put, List.setIfInBounds_toArray, List.set_cons_zero, List.set_cons_succ]
        refine early_take (i := 5) 17 (.int .i64 ((z : Int) - 1)) rfl rfl (by kernel_rfl) (by kernel_rfl) (by kernel_rfl) (by kernel_rfl) rfl (fun _ _ _ h => h) (fun w' hw' => by go_simp; exact wrap_of (by omega) (by omega)) H.out.e.shp ?_
        simp only [Act.put, List.setIfInBounds_toArray, List.set_cons_zero, List.set_cons_succ]
        have NX := ih 5 (by omega) _ _ _ (PSt.s2101 _ _ _ H.out)
        simp only [Act.put, List.setIfInBounds_toArray, List.set_cons_zero, List.set_cons_succ] at NX ⊢
        exact NX
      · simp only [opWp, List.getElem?_toArray, List.getElem?_cons_succ, List.getElem?_cons_zero]
        refine wp_make_int (.tmp 25) (.tmp 25) rfl l rfl rfl (by omega) ?_
        intro u2 hat hb
        have H := Lib.hid (H.out.make2 hat hb)
        clear hat hb
        refine hK _ _ (fun _ => H.out.e.shp) ?_
        clear hK
        have NX := ih 7 (by omega) _ _ _ (PSt.s1111 _ _ _ _ H.out)
        simp only [Act.put, List.setIfInBounds_toArray, List.set_cons_zero, List.set_cons_succ] at NX ⊢
        exact NX
    | s1110 _ r1 r2 h =>
      simp only [Act.put, List.setIfInBounds_toArray, List.set_cons_zero, List.set_cons_succ]
      have H := Lib.hid h
      clear h
      refine early_two (i := 3) (j := 16) (by kernel_rfl) ⟨rfl, fun K hK => ?_⟩ ⟨rfl, fun K hK => ?_⟩
      · simp only [opWp, List.getElem?_toArray, List.getElem?_cons_succ, List.getElem?_cons_zero]
        go_simp
        go_at_call 52
        obtain ⟨Aq, cq, hr, hA⟩ := H.out.e.rd
        refine (take_fld R Aq cq D 8 2 _ (by omega) (by rw [LD.out]; exact hd) (by rw [LD.out]; omega) hr).mono ?_
        rintro e u2 ⟨rfl, hS⟩
        rw [← ZZ.out]
        have H := Lib.hid (H.out.take hA hS)
        clear hr hA hS
        refine hK _ _ (fun _ => H.out.e.shp) ?_
        clear hK
        refine early_take (i := 4) 16 (.int .i64 (z : Int)) rfl rfl (by kernel_rfl) (by kernel_rfl) (by kernel_rfl) (by kernel_rfl) rfl (fun _ _ _ h => h) (fun w' hw' => by go_simp; exact wrap_of (by omega) (by omega)) H.out.e.shp ?_
        simp only [Act.put, List.setIfInBounds_toArray, List.set_cons_zero, List.set_cons_succ]
        refine early_take (i := 5) 17 (.int .i64 ((z : Int) - 1)) rfl rfl (by kernel_rfl) (by kernel_rfl) (by kernel_rfl) (by kernel_rfl) rfl (fun _ _ _ h => h) (fun w' hw' => by go_simp; exact wrap_of (by omega) (by omega)) H.out.e.shp ?_
        simp only [Act.put, List.setIfInBounds_toArray, List.set_cons_zero, List.set_cons_succ]
        have NX := ih 5 (by omega) _ _ _ (PSt.s2110 _ _ _ H.out)
        simp only [Act.put, List.setIfInBounds_toArray, List.set_cons_zero, List.set_cons_succ] at NX ⊢
        exact NX
      · simp only [opWp, List.getElem?_toArray, List.getElem?_cons_succ, List.getElem?_cons_zero]
        go_simp
        have H := Lib.hid (H.out.make3 (At.new zcs 37 rfl) (BB1 _ _))
        refine hK _ _ (fun _ => H.out.e.shp) ?_
        clear hK
        have NX := ih 7 (by omega) _ _ _ (PSt.s1111 _ _ _ _ H.out)
        simp only [Act.put, List.setIfInBounds_toArray, List.set_cons_zero, List.set_cons_succ] at NX ⊢
        exact NX
    | s1111 _ r1 r2 p h =>
      simp only [Act.put, List.setIfInBounds_toArray, List.set_cons_zero, List.set_cons_succ]
      have H := Lib.hid h
      clear h
      refine early_only (i := 3) (by kernel_rfl) rfl (fun K hK => ?_)
      simp only [opWp, List.getElem?_toArray, List.getElem?_cons_succ, List.getElem?_cons_zero]
      go_simp
      go_at_call 52
      obtain ⟨Aq, cq, hr, hA⟩ := H.out.e.rd
      refine (take_fld R Aq cq D 8 2 _ (by omega) (by rw [LD.out]; exact hd) (by rw [LD.out]; omega) hr).mono ?_
      rintro e u2 ⟨rfl, hS⟩
      rw [← ZZ.out]
      have H := Lib.hid (H.out.take hA hS)
      clear hr hA hS
      refine hK _ _ (fun _ => H.out.e.shp) ?_
      clear hK
      refine early_take (i := 4) 16 (.int .i64 (z : Int)) rfl rfl (by kernel_rfl) (by kernel_rfl) (by kernel_rfl) (by kernel_rfl) rfl (fun _ _ _ h => h) (fun w' hw' => by go_simp; exact wrap_of (by omega) (by omega)) H.out.e.shp ?_
      simp only [Act.put, List.setIfInBounds_toArray, List.set_cons_zero, List.set_cons_succ]
      refine early_take (i := 5) 17 (.int .i64 ((z : Int) - 1)) rfl rfl (by kernel_rfl) (by kernel_rfl) (by kernel_rfl) (by kernel_rfl) rfl (fun _ _ _ h => h) (fun w' hw' => by go_simp; exact wrap_of (by omega) (by omega)) H.out.e.shp ?_
      simp only [Act.put, List.setIfInBounds_toArray, List.set_cons_zero, List.set_cons_succ]
      have NX := ih 4 (by omega) _ _ _ (PSt.s2111 _ _ _ _ H.out)
      simp only [Act.put, List.setIfInBounds_toArray, List.set_cons_zero, List.set_cons_succ] at NX ⊢
      exact NX
    | s2000 _ h =>
      simp only [Act.put, List.setIfInBounds_toArray, List.set_cons_zero, List.set_cons_succ]
      have H := Lib.hid h
      clear h
      refine early_four (i := 7) (j := 11) (k := 14) (l := 16) (by kernel_rfl) ⟨rfl, fun K hK => ?_⟩ ⟨rfl, fun K hK => ?_⟩ ⟨rfl, fun K hK => ?_⟩ ⟨rfl, fun K hK => ?_⟩
      · simp only [opWp, List.getElem?_toArray, List.getElem?_cons_succ, List.getElem?_cons_zero]
        go_simp
        go_at_call 52
        obtain ⟨Aq, cq, hr, hA⟩ := H.out.e.rd
        refine (take_fld R Aq cq D 10 2 _ (by omega) (by rw [LD.out]; exact hd) (by rw [LD.out]; omega) hr).mono ?_
        rintro e u2 ⟨rfl, hS⟩
        rw [← XX.out]
        have H := Lib.hid (H.out.take hA hS)
        clear hr hA hS
        refine hK _ _ (fun _ => H.out.e.shp) ?_
        clear hK
        refine early_take (i := 8) 20 (.int .i64 (ix : Int)) rfl rfl (by kernel_rfl) (by kernel_rfl) (by kernel_rfl) (by kernel_rfl) rfl (fun _ _ _ h => h) (fun w' hw' => by go_simp; exact wrap_of (by omega) (by omega)) H.out.e.shp ?_
        simp only [Act.put, List.setIfInBounds_toArray, List.set_cons_zero, List.set_cons_succ]
        have NX := ih 5 (by omega) _ _ _ (PSt.s3000 _ H.out)
        simp only [Act.put, List.setIfInBounds_toArray, List.set_cons_zero, List.set_cons_succ] at NX ⊢
        exact NX
      · simp only [opWp, List.getElem?_toArray, List.getElem?_cons_succ, List.getElem?_cons_zero]
        refine wp_make_seg (.tmp 22) (.tmp 22) rfl g rfl rfl (by omega) ?_
        intro u2 hat hb
        have H := Lib.hid (H.out.make1 hat hb)
        clear hat hb
        refine hK _ _ (fun _ => H.out.e.shp) ?_
        clear hK
        have NX := ih 6 (by omega) _ _ _ (PSt.s2100 _ _ H.out)
        simp only [Act.put, List.setIfInBounds_toArray, List.set_cons_zero, List.set_cons_succ] at NX ⊢
        exact NX
      · simp only [opWp, List.getElem?_toArray, List.getElem?_cons_succ, List.getElem?_cons_zero]
        refine wp_make_int (.tmp 25) (.tmp 25) rfl l rfl rfl (by omega) ?_
        intro u2 hat hb
        have H := Lib.hid (H.out.make2 hat hb)
        clear hat hb
        refine hK _ _ (fun _ => H.out.e.shp) ?_
        clear hK
        have NX := ih 6 (by omega) _ _ _ (PSt.s2010 _ _ H.out)
        simp only [Act.put, List.setIfInBounds_toArray, List.set_cons_zero, List.set_cons_succ] at NX ⊢
        exact NX
      · simp only [opWp, List.getElem?_toArray, List.getElem?_cons_succ, List.getElem?_cons_zero]
        go_simp
        have H := Lib.hid (H.out.make3 (At.new zcs 37 rfl) (BB1 _ _))
        refine hK _ _ (fun _ => H.out.e.shp) ?_
        clear hK
        have NX := ih 6 (by omega) _ _ _ (PSt.s2001 _ _ H.out)
        simp only [Act.put, List.setIfInBounds_toArray, List.set_cons_zero, List.set_cons_succ] at NX ⊢
        exact NX
    | s2001 _ p h =>
      simp only [Act.put, List.setIfInBounds_toArray, List.set_cons_zero, List.set_cons_succ]
      have H := Lib.hid h
      clear h
      refine early_three (i := 7) (j := 11) (k := 14) (by kernel_rfl) ⟨rfl, fun K hK => ?_⟩ ⟨rfl, fun K hK => ?_⟩ ⟨rfl, fun K hK => ?_⟩
      · simp only [opWp, List.getElem?_toArray, List.getElem?_cons_succ, List.getElem?_cons_zero]
        go_simp
        go_at_call 52
        obtain ⟨Aq, cq, hr, hA⟩ := H.out.e.rd
        refine (take_fld R Aq cq D 10 2 _ (by omega) (by rw [LD.out]; exact hd) (by rw [LD.out]; omega) hr).mono ?_
        rintro e u2 ⟨rfl, hS⟩
        rw [← XX.out]
        have H := Lib.hid (H.out.take hA hS)
        clear hr hA hS
        refine hK _ _ (fun _ => H.out.e.shp) ?_
        clear hK
        refine early_take (i := 8) 20 (.int .i64 (ix : Int)) rfl rfl (by kernel_rfl) (by kernel_rfl) (by kernel_rfl) (by kernel_rfl) rfl (fun _ _ _ h => h) (fun w' hw' => by go_simp; exact wrap_of (by omega) (by omega)) H.out.e.shp ?_
        simp only [Act.put, List.setIfInBounds_toArray, List.set_cons_zero, List.set_cons_succ]
        have NX := ih 4 (by omega) _ _ _ (PSt.s3001 _ _ H.out)
        simp only [Act.put, List.setIfInBounds_toArray, List.set_cons_zero, List.set_cons_succ] at NX ⊢
        exact NX
      · simp only [opWp, List.getElem?_toArray, List.getElem?_cons_succ, List.getElem?_cons_zero]
        refine wp_make_seg (.tmp 22) (.tmp 22) rfl g rfl rfl (by omega) ?_
        intro u2 hat hb
        have H := Lib.hid (H.out.make1 hat hb)
        clear hat hb
        refine hK _ _ (fun _ => H.out.e.shp) ?_
        clear hK
        have NX := ih 5 (by omega) _ _ _ (PSt.s2101 _ _ _ H.out)
        simp only [Act.put, List.setIfInBounds_toArray, List.set_cons_zero, List.set_cons_succ] at NX ⊢
        exact NX
      · simp only [opWp, List.getElem?_toArray, List.getElem?_cons_succ, List.getElem?_cons_zero]
        refine wp_make_int (.tmp 25) (.tmp 25) rfl l rfl rfl (by omega) ?_
        intro u2 hat hb
        have H := Lib.hid (H.out.make2 hat hb)
        clear hat hb
        refine hK _ _ (fun _ => H.out.e.shp) ?_
        clear hK
        have NX := ih 5 (by omega) _ _ _ (PSt.s2011 _ _ _ H.out)
        simp only [Act.put, List.setIfInBounds_toArray, List.set_cons_zero, List.set_cons_succ] at NX ⊢
        exact NX
    | s2010 _ r2 h =>
      simp only [Act.put, List.setIfInBounds_toArray, List.set_cons_zero, List.set_cons_succ]
      have H := Lib.hid h
      clear h
      refine early_three (i := 7) (j := 11) (k := 16) (by kernel_rfl) ⟨rfl, fun K hK => ?_⟩ ⟨rfl, fun K hK => ?_⟩ ⟨rfl, fun K hK => ?_⟩
      · simp only [opWp, List.getElem?_toArray, List.getElem?_cons_succ, List.getElem?_cons_zero]
        go_simp
        go_at_call 52
        obtain ⟨Aq, cq, hr, hA⟩ := H.out.e.rd
        refine (take_fld R Aq cq D 10 2 _ (by omega) (by rw [LD.out]; exact hd) (by rw [LD.out]; omega) hr).mono ?_
        rintro e u2 ⟨rfl, hS⟩
        rw [← XX.out]
        have H := Lib.hid (H.out.take hA hS)
        clear hr hA hS
        refine hK _ _ (fun _ => H.out.e.shp) ?_
        clear hK
        refine early_take (i := 8) 20 (.int .i64 (ix : Int)) rfl rfl (by kernel_rfl) (by kernel_rfl) (by kernel_rfl) (by kernel_rfl) rfl (fun _ _ _ h => h) (fun w' hw' => by go_simp; exact wrap_of (by omega) (by omega)) H.out.e.shp ?_
        simp only [Act.put, List.setIfInBounds_toArray, List.set_cons_zero, List.set_cons_succ]
        have NX := ih 4 (by omega) _ _ _ (PSt.s3010 _ _ H.out)
        simp only [Act.put, List.setIfInBounds_toArray, List.set_cons_zero, List.set_cons_succ] at NX ⊢
        exact NX
      · simp only [opWp, List.getElem?_toArray, List.getElem?_cons_succ, List.getElem?_cons_zero]
        refine wp_make_seg (.tmp 22) (.tmp 22) rfl g rfl rfl (by omega) ?_
        intro u2 hat hb
        have H := Lib.hid (H.out.make1 hat hb)
        clear hat hb
        refine hK _ _ (fun _ => H.out.e.shp) ?_
        clear hK
        have NX := ih 5 (by omega) _ _ _ (PSt.s2110 _ _ _ H.out)
        simp only [Act.put, List.setIfInBounds_toArray, List.set_cons_zero, List.set_cons_succ] at NX ⊢
        exact NX
      · simp only [opWp, List.getElem?_toArray, List.getElem?_cons_succ, List.getElem?_cons_zero]
        go_simp
        have H := Lib.hid (H.out.make3 (At.new zcs 37 rfl) (BB1 _ _))
        refine hK _ _ (fun _ => H.out.e.shp) ?_
        clear hK
        have NX := ih 5 (by omega) _ _ _ (PSt.s2011 _ _ _ H.out)
        simp only [Act.put, List.setIfInBounds_toArray, List.set_cons_zero, List.set_cons_succ] at NX ⊢
        exact NX
    | s2011 _ r2 p h =>
      simp only [Act.put, List.setIfInBounds_toArray, List.set_cons_zero, List.set_cons_succ]
      have H := Lib.hid h
      clear h
      refine early_two (i := 7) (j := 11) (by kernel_rfl) ⟨rfl, fun K hK => ?_⟩ ⟨rfl, fun K hK => ?_⟩
      · simp only [opWp, List.getElem?_toArray, List.getElem?_cons_succ, List.getElem?_cons_zero]
        go_simp
        go_at_call 52
        obtain ⟨Aq, cq, hr, hA⟩ := H.out.e.rd
        refine (take_fld R Aq cq D 10 2 _ (by omega) (by rw [LD.out]; exact hd) (by rw [LD.out]; omega) hr).mono ?_
        rintro e u2 ⟨rfl, hS⟩
        rw [← XX.out]
        have H := Lib.hid (H.out.take hA hS)
        clear hr hA hS
        refine hK _ _ (fun _ => H.out.e.shp) ?_
        clear hK
        refine early_take (i := 8) 20 (.int .i64 (ix : Int)) rfl rfl (by kernel_rfl) (by kernel_rfl) (by kernel_rfl) (by kernel_rfl) rfl (fun _ _ _ h => h) (fun w' hw' => by go_simp; exact wrap_of (by omega) (by omega)) H.out.e.shp ?_
        simp only [Act.put, List.setIfInBounds_toArray, List.set_cons_zero, List.set_cons_succ]
        have NX := ih 3 (by omega) _ _ _ (PSt.s3011 _ _ _ H.out)
        simp only [Act.put, List.setIfInBounds_toArray, List.set_cons_zero, List.set_cons_succ] at NX ⊢
        exact NX
      · simp only [opWp, List.getElem?_toArray, List.getElem?_cons_succ, List.getElem?_cons_zero]
        refine wp_make_seg (.tmp 22) (.tmp 22) rfl g rfl rfl (by omega) ?_
        intro u2 hat hb
        have H := Lib.hid (H.out.make1 hat hb)
        clear hat hb
        refine hK _ _ (fun _ => H.out.e.shp) ?_
        clear hK
        have NX := ih 4 (by omega) _ _ _ (PSt.s2111 _ _ _ _ H.out)
        simp only [Act.put, List.setIfInBounds_toArray, List.set_cons_zero, List.set_cons_succ] at NX ⊢
        exact NX
    | s2100 _ r1 h =>
      simp only [Act.put, List.setIfInBounds_toArray, List.set_cons_zero, List.set_cons_succ]
      have H := Lib.hid h
      clear h
      refine early_three (i := 7) (j := 14) (k := 16) (by kernel_rfl) ⟨rfl, fun K hK => ?_⟩ ⟨rfl, fun K hK => ?_⟩ ⟨rfl, fun K hK => ?_⟩
      · simp only [opWp, List.getElem?_toArray, List.getElem?_cons_succ, List.getElem?_cons_zero]
        go_simp
        go_at_call 52
        obtain ⟨Aq, cq, hr, hA⟩ := H.out.e.rd
        refine (take_fld R Aq cq D 10 2 _ (by omega) (by rw [LD.out]; exact hd) (by rw [LD.out]; omega) hr).mono ?_
        rintro e u2 ⟨rfl, hS⟩
        rw [← XX.out]
        have H := Lib.hid (H.out.take hA hS)
        clear hr hA hS
        refine hK _ _ (fun _ => H.out.e.shp) ?_
        clear hK
        refine early_take (i := 8) 20 (.int .i64 (ix : Int)) rfl rfl (by kernel_rfl) (by kernel_rfl) (by kernel_rfl) (by kernel_rfl) rfl (fun _ _ _ h => h) (fun w' hw' => by go_simp; exact wrap_of (by omega) (by omega)) H.out.e.shp ?_
        simp only [Act.put, List.setIfInBounds_toArray, List.set_cons_zero, List.set_cons_succ]
        have NX := ih 4 (by omega) _ _ _ (PSt.s3100 _ _ H.out)
        simp only [Act.put, List.setIfInBounds_toArray, List.set_cons_zero, List.set_cons_succ] at NX ⊢
        exact NX
      · simp only [opWp, List.getElem?_toArray, List.getElem?_cons_succ, List.getElem?_cons_zero]
        refine wp_make_int (.tmp 25) (.tmp 25) rfl l rfl rfl (by omega) ?_
        intro u2 hat hb
        have H := Lib.hid (H.out.make2 hat hb)
        clear hat hb
        refine hK _ _ (fun _ => H.out.e.shp) ?_
        clear hK
        have NX := ih 5 (by omega) _ _ _ (PSt.s2110 _ _ _ H.out)
        simp only [Act.put, List.setIfInBounds_toArray, List.set_cons_zero, List.set_cons_succ] at NX ⊢
        exact NX
      · simp only [opWp, List.getElem?_toArray, List.getElem?_cons_succ, List.getElem?_cons_zero]
        go_simp
        have H := Lib.hid (H.out.make3 (At.new zcs 37 rfl) (BB1 _ _))
        refine hK _ _ (fun _ => H.out.e.shp) ?_
        clear hK
        have NX := ih 5 (by omega) _ _ _ (PSt.s2101 _ _ _ H.out)
        simp only [Act.put, List.setIfInBounds_toArray, List.set_cons_zero, List.set_cons_succ] at NX ⊢
        exact NX
    | s2101 _ r1 p h =>
      simp only [Act.put, List.setIfInBounds_toArray, List.set_cons_zero, List.set_cons_succ]
      have H := Lib.hid h
      clear h
      refine early_two (i := 7) (j := 14) (by kernel_rfl) ⟨rfl, fun K hK => ?_⟩ ⟨rfl, fun K hK => ?_⟩
      · simp only [opWp, List.getElem?_toArray, List.getElem?_cons_succ, List.getElem?_cons_zero]
        go_simp
        go_at_call 52
        obtain ⟨Aq, cq, hr, hA⟩ := H.out.e.rd
        refine (take_fld R Aq cq D 10 2 _ (by omega) (by rw [LD.out]; exact hd) (by rw [LD.out]; omega) hr).mono ?_
        rintro e u2 ⟨rfl, hS⟩
        rw [← XX.out]
        have H := Lib.hid (H.out.take hA hS)
        clear hr hA hS
        refine hK _ _ (fun _ => H.out.e.shp) ?_
        clear hK
        refine early_take (i := 8) 20 (.int .i64 (ix : Int)) rfl rfl (by kernel_rfl) (by kernel_rfl) (by kernel_rfl) (by kernel_rfl) rfl (fun _ _ _ h => h) (fun w' hw' => by go_simp; exact wrap_of (by omega) (by omega)) H.out.e.shp ?_
        simp only [Act.put, List.setIfInBounds_toArray, List.set_cons_zero, List.set_cons_succ]
        have NX := ih 3 (by omega) _ _ _ (PSt.s3101 _ _ _ H.out)
        simp only [Act.put, List.setIfInBounds_toArray, List.set_cons_zero, List.set_cons_succ] at NX ⊢
        exact NX
      · simp only [opWp, List.getElem?_toArray, List.getElem?_cons_succ, List.getElem?_cons_zero]
        refine wp_make_int (.tmp 25) (.tmp 25) rfl l rfl rfl (by omega) ?_
        intro u2 hat hb
        have H := Lib.hid (H.out.make2 hat hb)
        clear hat hb
        refine hK _ _ (fun _ => H.out.e.shp) ?_
        clear hK
        have NX := ih 4 (by omega) _ _ _ (PSt.s2111 _ _ _ _ H.out)
        simp only [Act.put, List.setIfInBounds_toArray, List.set_cons_zero, List.set_cons_succ] at NX ⊢
        exact NX
    | s2110 _ r1 r2 h =>
      simp only [Act.put, List.setIfInBounds_toArray, List.set_cons_zero, List.set_cons_succ]
      have H := Lib.hid h
      clear h
      refine early_two (i := 7) (j := 16) (by kernel_rfl) ⟨rfl, fun K hK => ?_⟩ ⟨rfl, fun K hK => ?_⟩
      · simp only [opWp, List.getElem?_toArray, List.getElem?_cons_succ, List.getElem?_cons_zero]
        go_simp
        go_at_call 52
        obtain ⟨Aq, cq, hr, hA⟩ := H.out.e.rd
        refine (take_fld R Aq cq D 10 2 _ (by omega) (by rw [LD.out]; exact hd) (by rw [LD.out]; omega) hr).mono ?_
        rintro e u2 ⟨rfl, hS⟩
        rw [← XX.out]
        have H := Lib.hid (H.out.take hA hS)
        clear hr hA hS
        refine hK _ _ (fun _ => H.out.e.shp) ?_
        clear hK
        refine early_take (i := 8) 20 (.int .i64 (ix : Int)) rfl rfl (by kernel_rfl) (by kernel_rfl) (by kernel_rfl) (by kernel_rfl) rfl (fun _ _ _ h => h) (fun w' hw' => by go_simp; exact wrap_of (by omega) (by omega)) H.out.e.shp ?_
        simp only [Act.put, List.setIfInBounds_toArray, List.set_cons_zero, List.set_cons_succ]
        have NX := ih 3 (by omega) _ _ _ (PSt.s3110 _ _ _ H.out)
        simp only [Act.put, List.setIfInBounds_toArray, List.set_cons_zero, List.set_cons_succ] at NX ⊢
        exact NX
      · simp only [opWp, List.getElem?_toArray, List.getElem?_cons_succ, List.getElem?_cons_zero]
        go_simp
        have H := Lib.hid (H.out.make3 (At.new zcs 37 rfl) (BB1 _ _))
        refine hK _ _ (fun _ => H.out.e.shp) ?_
        clear hK
        have NX := ih 4 (by omega) _ _ _ (PSt.s2111 _ _ _ _ H.out)
        simp only [Act.put, List.setIfInBounds_toArray, List.set_cons_zero, List.set_cons_succ] at NX ⊢
        exact NX
    | s2111 _ r1 r2 p h =>
      simp only [Act.put, List.setIfInBounds_toArray, List.set_cons_zero, List.set_cons_succ]
      have H := Lib.hid h
      clear h
      refine early_only (i := 7) (by kernel_rfl) rfl (fun K hK => ?_)
      simp only [opWp, List.getElem?_toArray, List.getElem?_cons_succ, List.getElem?_cons_zero]
      go_simp
      go_at_call 52
      obtain ⟨Aq, cq, hr, hA⟩ := H.out.e.rd
      refine (take_fld R Aq cq D 10 2 _ (by omega) (by rw [LD.out]; exact hd) (by rw [LD.out]; omega) hr).mono ?_
      rintro e u2 ⟨rfl, hS⟩
      rw [← XX.out]
      have H := Lib.hid (H.out.take hA hS)
      clear hr hA hS
      refine hK _ _ (fun _ => H.out.e.shp) ?_
      clear hK
      refine early_take (i := 8) 20 (.int .i64 (ix : Int)) rfl rfl (by kernel_rfl) (by kernel_rfl) (by kernel_rfl) (by kernel_rfl) rfl (fun _ _ _ h => h) (fun w' hw' => by go_simp; exact wrap_of (by omega) (by omega)) H.out.e.shp ?_
      simp only [Act.put, List.setIfInBounds_toArray, List.set_cons_zero, List.set_cons_succ]
      have NX := ih 2 (by omega) _ _ _ (PSt.s3111 _ _ _ _ H.out)
      simp only [Act.put, List.setIfInBounds_toArray, List.set_cons_zero, List.set_cons_succ] at NX ⊢
      exact NX
    | s3000 _ h =>
      simp only [Act.put, List.setIfInBounds_toArray, List.set_cons_zero, List.set_cons_succ]
      have H := Lib.hid h
      clear h
      refine early_three (i := 11) (j := 14) (k := 16) (by kernel_rfl) ⟨rfl, fun K hK => ?_⟩ ⟨rfl, fun K hK => ?_⟩ ⟨rfl, fun K hK => ?_⟩
      · simp only [opWp, List.getElem?_toArray, List.getElem?_cons_succ, List.getElem?_cons_zero]
        refine wp_make_seg (.tmp 22) (.tmp 22) rfl g rfl rfl (by omega) ?_
        intro u2 hat hb
        have H := Lib.hid (H.out.make1 hat hb)
        clear hat hb
        refine hK _ _ (fun _ => H.out.e.shp) ?_
        clear hK
        have NX := ih 4 (by omega) _ _ _ (PSt.s3100 _ _ H.out)
        simp only [Act.put, List.setIfInBounds_toArray, List.set_cons_zero, List.set_cons_succ] at NX ⊢
        exact NX
      · simp only [opWp, List.getElem?_toArray, List.getElem?_cons_succ, List.getElem?_cons_zero]
        refine wp_make_int (.tmp 25) (.tmp 25) rfl l rfl rfl (by omega) ?_
        intro u2 hat hb
        have H := Lib.hid (H.out.make2 hat hb)
        clear hat hb
        refine hK _ _ (fun _ => H.out.e.shp) ?_
        clear hK
        have NX := ih 4 (by omega) _ _ _ (PSt.s3010 _ _ H.out)
        simp only [Act.put, List.setIfInBounds_toArray, List.set_cons_zero, List.set_cons_succ] at NX ⊢
        exact NX
      · simp only [opWp, List.getElem?_toArray, List.getElem?_cons_succ, List.getElem?_cons_zero]
        go_simp
        have H := Lib.hid (H.out.make3 (At.new zcs 37 rfl) (BB1 _ _))
        refine hK _ _ (fun _ => H.out.e.shp) ?_
        clear hK
        have NX := ih 4 (by omega) _ _ _ (PSt.s3001 _ _ H.out)
        simp only [Act.put, List.setIfInBounds_toArray, List.set_cons_zero, List.set_cons_succ] at NX ⊢
        exact NX
    | s3001 _ p h =>
      simp only [Act.put, List.setIfInBounds_toArray, List.set_cons_zero, List.set_cons_succ]
      have H := Lib.hid h
      clear h
      refine early_two (i := 11) (j := 14) (by kernel_rfl) ⟨rfl, fun K hK => ?_⟩ ⟨rfl, fun K hK => ?_⟩
      · simp only [opWp, List.getElem?_toArray, List.getElem?_cons_succ, List.getElem?_cons_zero]
        refine wp_make_seg (.tmp 22) (.tmp 22) rfl g rfl rfl (by omega) ?_
        intro u2 hat hb
        have H := Lib.hid (H.out.make1 hat hb)
        clear hat hb
        refine hK _ _ (fun _ => H.out.e.shp) ?_
        clear hK
        have NX := ih 3 (by omega) _ _ _ (PSt.s3101 _ _ _ H.out)
        simp only [Act.put, List.setIfInBounds_toArray, List.set_cons_zero, List.set_cons_succ] at NX ⊢
        exact NX
      · simp only [opWp, List.getElem?_toArray, List.getElem?_cons_succ, List.getElem?_cons_zero]
        refine wp_make_int (.tmp 25) (.tmp 25) rfl l rfl rfl (by omega) ?_
        intro u2 hat hb
        have H := Lib.hid (H.out.make2 hat hb)
        clear hat hb
        refine hK _ _ (fun _ => H.out.e.shp) ?_
        clear hK
        have NX := ih 3 (by omega) _ _ _ (PSt.s3011 _ _ _ H.out)
        simp only [Act.put, List.setIfInBounds_toArray, List.set_cons_zero, List.set_cons_succ] at NX ⊢
        exact NX
    | s3010 _ r2 h =>
      simp only [Act.put, List.setIfInBounds_toArray, List.set_cons_zero, List.set_cons_succ]
      have H := Lib.hid h
      clear h
      refine early_two (i := 11) (j := 16) (by kernel_rfl) ⟨rfl, fun K hK => ?_⟩ ⟨rfl, fun K hK => ?_⟩
      · simp only [opWp, List.getElem?_toArray, List.getElem?_cons_succ, List.getElem?_cons_zero]
        refine wp_make_seg (.tmp 22) (.tmp 22) rfl g rfl rfl (by omega) ?_
        intro u2 hat hb
        have H := Lib.hid (H.out.make1 hat hb)
        clear hat hb
        refine hK _ _ (fun _ => H.out.e.shp) ?_
        clear hK
        have NX := ih 3 (by omega) _ _ _ (PSt.s3110 _ _ _ H.out)
        simp only [Act.put, List.setIfInBounds_toArray, List.set_cons_zero, List.set_cons_succ] at NX ⊢
        exact NX
      · simp only [opWp, List.getElem?_toArray, List.getElem?_cons_succ, List.getElem?_cons_zero]
        go_simp
        have H := Lib.hid (H.out.make3 (At.new zcs 37 rfl) (BB1 _ _))
        refine hK _ _ (fun _ => H.out.e.shp) ?_
        clear hK
        have NX := ih 3 (by omega) _ _ _ (PSt.s3011 _ _ _ H.out)
        simp only [Act.put, List.setIfInBounds_toArray, List.set_cons_zero, List.set_cons_succ] at NX ⊢
        exact NX
    | s3011 _ r2 p h =>
      simp only [Act.put, List.setIfInBounds_toArray, List.set_cons_zero, List.set_cons_succ]
      have H := Lib.hid h
      clear h
      refine early_only (i := 11) (by kernel_rfl) rfl (fun K hK => ?_)
      simp only [opWp, List.getElem?_toArray, List.getElem?_cons_succ, List.getElem?_cons_zero]
      refine wp_make_seg (.tmp 22) (.tmp 22) rfl g rfl rfl (by omega) ?_
      intro u2 hat hb
      have H := Lib.hid (H.out.make1 hat hb)
      clear hat hb
      refine hK _ _ (fun _ => H.out.e.shp) ?_
      clear hK
      have NX := ih 2 (by omega) _ _ _ (PSt.s3111 _ _ _ _ H.out)
      simp only [Act.put, List.setIfInBounds_toArray, List.set_cons_zero, List.set_cons_succ] at NX ⊢
      exact NX
    | s3100 _ r1 h =>
      simp only [Act.put, List.setIfInBounds_toArray, List.set_cons_zero, List.set_cons_succ]
      have H := Lib.hid h
      clear h
      refine early_two (i := 14) (j := 16) (by kernel_rfl) ⟨rfl, fun K hK => ?_⟩ ⟨rfl, fun K hK => ?_⟩
      · simp only [opWp, List.getElem?_toArray, List.getElem?_cons_succ, List.getElem?_cons_zero]
        refine wp_make_int (.tmp 25) (.tmp 25) rfl l rfl rfl (by omega) ?_
        intro u2 hat hb
        have H := Lib.hid (H.out.make2 hat hb)
        clear hat hb
        refine hK _ _ (fun _ => H.out.e.shp) ?_
        clear hK
        have NX := ih 3 (by omega) _ _ _ (PSt.s3110 _ _ _ H.out)
        simp only [Act.put, List.setIfInBounds_toArray, List.set_cons_zero, List.set_cons_succ] at NX ⊢
        exact NX
      · simp only [opWp, List.getElem?_toArray, List.getElem?_cons_succ, List.getElem?_cons_zero]
        go_simp
        have H := Lib.hid (H.out.make3 (At.new zcs 37 rfl) (BB1 _ _))
        refine hK _ _ (fun _ => H.out.e.shp) ?_
        clear hK
        have NX := ih 3 (by omega) _ _ _ (PSt.s3101 _ _ _ H.out)
        simp only [Act.put, List.setIfInBounds_toArray, List.set_cons_zero, List.set_cons_succ] at NX ⊢
        exact NX
    | s3101 _ r1 p h =>
      simp only [Act.put, List.setIfInBounds_toArray, List.set_cons_zero, List.set_cons_succ]
      have H := Lib.hid h
      clear h
      refine early_only (i := 14) (by kernel_rfl) rfl (fun K hK => ?_)
      simp only [opWp, List.getElem?_toArray, List.getElem?_cons_succ, List.getElem?_cons_zero]
      refine wp_make_int (.tmp 25) (.tmp 25) rfl l rfl rfl (by omega) ?_
      intro u2 hat hb
      have H := Lib.hid (H.out.make2 hat hb)
      clear hat hb
      refine hK _ _ (fun _ => H.out.e.shp) ?_
      clear hK
      have NX := ih 2 (by omega) _ _ _ (PSt.s3111 _ _ _ _ H.out)
      simp only [Act.put, List.setIfInBounds_toArray, List.set_cons_zero, List.set_cons_succ] at NX ⊢
      exact NX
    | s3110 _ r1 r2 h =>
      simp only [Act.put, List.setIfInBounds_toArray, List.set_cons_zero, List.set_cons_succ]
      have H := Lib.hid h
      clear h
      refine early_take (i := 15) 27 (.agg (ics q z ix (some ⟨r1, 0, none⟩) g g (some ⟨r2, 0, none⟩) l l)) rfl rfl (by kernel_rfl) (by kernel_rfl) (by kernel_rfl) (by kernel_rfl) rfl (fun _ _ _ h => h) (fun w' hw' => by go_simp) H.out.e.shp ?_
      simp only [Act.put, List.setIfInBounds_toArray, List.set_cons_zero, List.set_cons_succ]
      refine early_only (i := 16) (by kernel_rfl) rfl (fun K hK => ?_)
      simp only [opWp, List.getElem?_toArray, List.getElem?_cons_succ, List.getElem?_cons_zero]
      go_simp
      have H := Lib.hid (H.out.make3 (At.new zcs 37 rfl) (BB1 _ _))
      refine hK _ _ (fun _ => H.out.e.shp) ?_
      clear hK
      generalize u.alloc (.cells zcs 37) = u1 at *
      generalize u.heap.size = p at *
      refine early_only (i := 17) (by kernel_rfl) rfl (fun K hK => ?_)
      simp only [opWp, List.getElem?_toArray, List.getElem?_cons_succ, List.getElem?_cons_zero]
      refine wp_store_part 37 (.tmp 7) (.tmp 27) rfl p 0 37 zcs (ics q z ix (some ⟨r1, 0, none⟩) g g (some ⟨r2, 0, none⟩) l l) rfl rfl (H.out.a3 _ rfl).1 size37 (by simp) (ics_one _ _ _ _ _ _ _ _ _) ?_
      intro u2 hat hb
      have R2 := Lib.hid (H.out.store (show At u2 p (ics q z ix (some ⟨r1, 0, none⟩) g g (some ⟨r2, 0, none⟩) l l) 37 from hat) hb)
      clear hat hb
      refine hK _ _ (fun _ => R2.out.e.shp) ?_
      refine early_done (by kernel_rfl) ?_
      clear ih hK H
      go_wp2_with fail
      go_meet
      exact ⟨p, r1, r2, rfl, R2.out⟩
    | s3111 _ r1 r2 p h =>
      simp only [Act.put, List.setIfInBounds_toArray, List.set_cons_zero, List.set_cons_succ]
      have H := Lib.hid h
      clear h
      refine early_take (i := 15) 27 (.agg (ics q z ix (some ⟨r1, 0, none⟩) g g (some ⟨r2, 0, none⟩) l l)) rfl rfl (by kernel_rfl) (by kernel_rfl) (by kernel_rfl) (by kernel_rfl) rfl (fun _ _ _ h => h) (fun w' hw' => by go_simp) H.out.e.shp ?_
      simp only [Act.put, List.setIfInBounds_toArray, List.set_cons_zero, List.set_cons_succ]
      refine early_only (i := 17) (by kernel_rfl) rfl (fun K hK => ?_)
      simp only [opWp, List.getElem?_toArray, List.getElem?_cons_succ, List.getElem?_cons_zero]
      refine wp_store_part 37 (.tmp 7) (.tmp 27) rfl p 0 37 zcs (ics q z ix (some ⟨r1, 0, none⟩) g g (some ⟨r2, 0, none⟩) l l) rfl rfl (H.out.a3 _ rfl).1 size37 (by simp) (ics_one _ _ _ _ _ _ _ _ _) ?_
      intro u2 hat hb
      have R2 := Lib.hid (H.out.store (show At u2 p (ics q z ix (some ⟨r1, 0, none⟩) g g (some ⟨r2, 0, none⟩) l l) 37 from hat) hb)
      clear hat hb
      refine hK _ _ (fun _ => R2.out.e.shp) ?_
      refine early_done (by kernel_rfl) ?_
      clear ih hK H
      go_wp2_with fail
      go_meet
      exact ⟨p, r1, r2, rfl, R2.out⟩
  case rest =>
    clear E
    obtain ⟨P, R1, R2, rfl, hP⟩ := hcut
    rw [← rowG_zero D g, ← rowP_zero D (12 + 9 * g) l] at hP
    have E := Lib.hid hP
    have c3 := hP.box.cell 3
    clear hP
    go_wp2
    clear c3
    go_loopw [31] (fun i wr => ∃ k : Nat, k ≤ g ∧ i = .int .i64 k ∧ Pst w wr #[.int .i64 (m : Int), .int .i64 (b : Int), .int .i64 (g : Int), .int .i64 (s : Int), .int .i64 (n : Int), .int .i64 (l : Int)] R b1 D (12 + 9 * k) P R1 R2 q z ix g l (rowG D g k) (rowP D (12 + 9 * g) l 0)) (fun i _ => g - (intOf i).toNat)
    case atStart => exact ⟨0, Nat.zero_le _, rfl, E.out⟩
    case round =>
      clear E
      obtain ⟨k, hk, rfl, hE⟩ := hrel
      have E := Lib.hid hE
      clear hE
      by_cases hlt : k < g
      · have G1 := Lib.hid (rowG_set D g k hlt)
        have G2 := Lib.hid (rowH_set D g k hlt)
        have LG := Lib.hid (rowG_len D g k (by omega))
        have LH := Lib.hid (rowH_len D g k hlt)
        have hX : fld D (12 + 9 * k) 1 < 256 := fld_lt D _ 1
        have hY : fld D (12 + 9 * k + 1) 8 < 18446744073709551616 := fld_lt D _ 8
        obtain ⟨X, hXe⟩ : ∃ y, y = fld D (12 + 9 * k) 1 := ⟨_, rfl⟩
        obtain ⟨Y, hYe⟩ : ∃ y, y = fld D (12 + 9 * k + 1) 8 := ⟨_, rfl⟩
        rw [← hXe] at hX G1
        rw [← hYe] at hY G2
        have XE := Lib.hid hXe
        have YE := Lib.hid hYe
        clear hXe hYe
        go_wp2_with fail
        refine wp_region_early (fun w' : World => At w' P (ics q z ix (some ⟨R1, 0, none⟩) g g (some ⟨R2, 0, none⟩) l l) 37) (fun _ => true) (by kernel_rfl) ?_
        change wpEarly _ _ _ _ _ _ 9 (Array.replicate 9 false) _ wr.drew
        have E := Lib.hid (E.out.up (below_drew (Below.refl _ _)))
        generalize wr.drew = wa at *
        refine early_take (i := 0) 34 (.pointer (some ⟨P, 3, none⟩)) rfl rfl (by kernel_rfl) (by kernel_rfl) (by kernel_rfl) (by kernel_rfl) rfl (fun _ _ _ h => h) (fun w' hw' => by go_simp) E.out.box ?_
        simp only [Act.put, List.setIfInBounds_toArray, List.set_cons_zero, List.set_cons_succ]
        refine early_take (i := 1) 35 (.slice (some ⟨R1, 0, none⟩) g g) rfl rfl (by kernel_rfl) (by kernel_rfl) (by kernel_rfl) (by kernel_rfl) rfl (fun _ _ _ h => h) (fun w' hw' => by have hc0 := hw'.cell 3; go_simp) E.out.box ?_
        simp only [Act.put, List.setIfInBounds_toArray, List.set_cons_zero, List.set_cons_succ]
        refine early_take (i := 2) 36 (.int .i64 (k : Int)) rfl rfl (by kernel_rfl) (by kernel_rfl) (by kernel_rfl) (by kernel_rfl) rfl (fun _ _ _ h => h) (fun w' hw' => by go_simp) E.out.box ?_
        simp only [Act.put, List.setIfInBounds_toArray, List.set_cons_zero, List.set_cons_succ]
        refine early_take (i := 3) 37 (.pointer (some ⟨R, 0, none⟩)) rfl rfl (by kernel_rfl) (by kernel_rfl) (by kernel_rfl) (by kernel_rfl) rfl (fun _ _ _ h => h) (fun w' hw' => by go_simp) E.out.box ?_
        simp only [Act.put, List.setIfInBounds_toArray, List.set_cons_zero, List.set_cons_succ]
        refine early_only (i := 4) (by kernel_rfl) rfl (fun K hK => ?_)
        simp only [opWp, List.getElem?_toArray, List.getElem?_cons_succ, List.getElem?_cons_zero]
        go_simp
        go_at_call 52
        obtain ⟨Aq, cq, hr, hA⟩ := E.out.e.rd
        refine (take_fld R Aq cq D (12 + 9 * k) 1 _ (by omega) (by rw [LD.out]; exact hd) (by rw [LD.out]; omega) hr).mono ?_
        rintro e u2 ⟨rfl, hS⟩
        rw [← XE.out]
        have E := Lib.hid (E.out.take hA hS)
        clear hr hA hS
        refine hK _ _ (fun _ => E.out.box) ?_
        clear hK
        refine early_take (i := 5) 39 (.int .i64 (X : Int)) rfl rfl (by kernel_rfl) (by kernel_rfl) (by kernel_rfl) (by kernel_rfl) rfl (fun _ _ _ h => h) (fun w' hw' => by go_simp; exact wrap_of (by omega) (by omega)) E.out.box ?_
        simp only [Act.put, List.setIfInBounds_toArray, List.set_cons_zero, List.set_cons_succ]
        refine early_take (i := 6) 40 (.pointer (some ⟨R1, k * 2, none⟩)) rfl rfl (by kernel_rfl) (by kernel_rfl) (by kernel_rfl) (by kernel_rfl) rfl (fun _ _ _ h => h) (fun w' hw' => by go_simp) E.out.box ?_
        simp only [Act.put, List.setIfInBounds_toArray, List.set_cons_zero, List.set_cons_succ]
        refine early_take (i := 7) 41 (.pointer (some ⟨R1, k * 2, none⟩)) rfl rfl (by kernel_rfl) (by kernel_rfl) (by kernel_rfl) (by kernel_rfl) rfl (fun _ _ _ h => h) (fun w' hw' => by go_simp) E.out.box ?_
        simp only [Act.put, List.setIfInBounds_toArray, List.set_cons_zero, List.set_cons_succ]
        refine early_only (i := 8) (by kernel_rfl) rfl (fun K hK => ?_)
        simp only [opWp, List.getElem?_toArray, List.getElem?_cons_succ, List.getElem?_cons_zero]
        have ca : ∃ x, u2.cell? ⟨R1, k * 2, none⟩ = some x := by
          rw [E.out.r1.cell, List.getElem?_toArray]
          exact ⟨_, List.getElem?_eq_getElem (by rw [flat_len, LG.out]; omega)⟩
        obtain ⟨xa, ca⟩ := ca
        have fa := E.out.r1.frozen (k * 2)

        have E2 := Lib.hid (E.out.set1 (k := k * 2) (v := .int .i64 (X : Int)) G1.out)
        go_simp
        clear ca fa
        refine hK _ _ (fun _ => E2.out.box) ?_
        refine early_done (by kernel_rfl) ?_
        clear hK
        have E := Lib.hid E2.out
        clear E2
        generalize u2.setCell ⟨R1, k * 2, none⟩ (.int .i64 (X : Int)) = u3 at *
        go_wp2_with fail
        refine wp_region_early (fun w' : World => At w' P (ics q z ix (some ⟨R1, 0, none⟩) g g (some ⟨R2, 0, none⟩) l l) 37) (fun _ => true) (by kernel_rfl) ?_
        change wpEarly _ _ _ _ _ _ 8 (Array.replicate 8 false) _ u3.drew
        have E := Lib.hid (E.out.up (below_drew (Below.refl _ _)))
        generalize u3.drew = u4 at *
        refine early_take (i := 0) 42 (.pointer (some ⟨P, 3, none⟩)) rfl rfl (by kernel_rfl) (by kernel_rfl) (by kernel_rfl) (by kernel_rfl) rfl (fun _ _ _ h => h) (fun w' hw' => by go_simp) E.out.box ?_
        simp only [Act.put, List.setIfInBounds_toArray, List.set_cons_zero, List.set_cons_succ]
        refine early_take (i := 1) 43 (.slice (some ⟨R1, 0, none⟩) g g) rfl rfl (by kernel_rfl) (by kernel_rfl) (by kernel_rfl) (by kernel_rfl) rfl (fun _ _ _ h => h) (fun w' hw' => by have hc0 := hw'.cell 3; go_simp) E.out.box ?_
        simp only [Act.put, List.setIfInBounds_toArray, List.set_cons_zero, List.set_cons_succ]
        refine early_take (i := 2) 44 (.int .i64 (k : Int)) rfl rfl (by kernel_rfl) (by kernel_rfl) (by kernel_rfl) (by kernel_rfl) rfl (fun _ _ _ h => h) (fun w' hw' => by go_simp) E.out.box ?_
        simp only [Act.put, List.setIfInBounds_toArray, List.set_cons_zero, List.set_cons_succ]
        refine early_take (i := 3) 45 (.pointer (some ⟨R, 0, none⟩)) rfl rfl (by kernel_rfl) (by kernel_rfl) (by kernel_rfl) (by kernel_rfl) rfl (fun _ _ _ h => h) (fun w' hw' => by go_simp) E.out.box ?_
        simp only [Act.put, List.setIfInBounds_toArray, List.set_cons_zero, List.set_cons_succ]
        refine early_only (i := 4) (by kernel_rfl) rfl (fun K hK => ?_)
        simp only [opWp, List.getElem?_toArray, List.getElem?_cons_succ, List.getElem?_cons_zero]
        go_simp
        go_at_call 52
        obtain ⟨Aq, cq, hr, hA⟩ := E.out.e.rd
        refine (take_fld R Aq cq D (12 + 9 * k + 1) 8 _ (by omega) (by rw [LD.out]; exact hd) (by rw [LD.out]; omega) hr).mono ?_
        rintro e u2 ⟨rfl, hS⟩
        rw [← YE.out]
        have E := Lib.hid (E.out.take hA hS)
        clear hr hA hS
        refine hK _ _ (fun _ => E.out.box) ?_
        clear hK
        refine early_take (i := 5) 47 (.pointer (some ⟨R1, k * 2, none⟩)) rfl rfl (by kernel_rfl) (by kernel_rfl) (by kernel_rfl) (by kernel_rfl) rfl (fun _ _ _ h => h) (fun w' hw' => by go_simp) E.out.box ?_
        simp only [Act.put, List.setIfInBounds_toArray, List.set_cons_zero, List.set_cons_succ]
        refine early_take (i := 6) 48 (.pointer (some ⟨R1, k * 2 + 1, none⟩)) rfl rfl (by kernel_rfl) (by kernel_rfl) (by kernel_rfl) (by kernel_rfl) rfl (fun _ _ _ h => h) (fun w' hw' => by go_simp) E.out.box ?_
        simp only [Act.put, List.setIfInBounds_toArray, List.set_cons_zero, List.set_cons_succ]
        refine early_only (i := 7) (by kernel_rfl) rfl (fun K hK => ?_)
        simp only [opWp, List.getElem?_toArray, List.getElem?_cons_succ, List.getElem?_cons_zero]
        have ca : ∃ x, u2.cell? ⟨R1, k * 2 + 1, none⟩ = some x := by
          rw [E.out.r1.cell, List.getElem?_toArray]
          exact ⟨_, List.getElem?_eq_getElem (by rw [flat_len, LH.out]; omega)⟩
        obtain ⟨xa, ca⟩ := ca
        have fa := E.out.r1.frozen (k * 2 + 1)

        have E2 := Lib.hid (E.out.set1 (k := k * 2 + 1) (v := .int .u64 (Y : Int)) G2.out)
        go_simp
        clear ca fa
        refine hK _ _ (fun _ => E2.out.box) ?_
        refine early_done (by kernel_rfl) ?_
        clear hK
        go_wp2_with fail
        exact ⟨⟨k + 1, by omega, by go_num, E2.out⟩, by simp [intOf]; omega⟩
      · obtain rfl : k = g := by omega
        have E := Lib.hid (show Pst w wr #[.int .i64 (m : Int), .int .i64 (b : Int), .int .i64 (k : Int), .int .i64 (s : Int), .int .i64 (n : Int), .int .i64 (l : Int)] R b1 D (12 + 9 * k) P R1 R2 q z ix k l (sgUpto D k) (rowP D (12 + 9 * k) l 0) by have := E.out; rw [rowG_all] at this; exact this)
        have c4 := E.out.box.cell 4
        go_wp2
        clear c4
        go_loopw [53] (fun i wr => ∃ j : Nat, j ≤ l ∧ i = .int .i64 j ∧ Pst w wr #[.int .i64 (m : Int), .int .i64 (b : Int), .int .i64 (k : Int), .int .i64 (s : Int), .int .i64 (n : Int), .int .i64 (l : Int)] R b1 D (12 + 9 * k + 4 * j) P R1 R2 q z ix k l (sgUpto D k) (rowP D (12 + 9 * k) l j)) (fun i _ => l - (intOf i).toNat)
        case atStart => exact ⟨0, Nat.zero_le _, rfl, E.out⟩
        case round =>
          clear E hlt
          obtain ⟨j, hj, rfl, hE⟩ := hrel
          have E := Lib.hid hE
          clear hE
          by_cases hlt : j < l
          · have G1 := Lib.hid (rowP_set D (12 + 9 * k) l j hlt)
            have LG := Lib.hid (rowP_len D (12 + 9 * k) l j (by omega))
            have hX : fld D (12 + 9 * k + 4 * j) 4 < 4294967296 := fld_lt D _ 4
            obtain ⟨X, hXe⟩ : ∃ y, y = fld D (12 + 9 * k + 4 * j) 4 := ⟨_, rfl⟩
            rw [← hXe] at hX G1
            have XE := Lib.hid hXe
            clear hXe
            go_wp2_with fail
            refine wp_region_early (fun w' : World => At w' P (ics q z ix (some ⟨R1, 0, none⟩) k k (some ⟨R2, 0, none⟩) l l) 37) (fun _ => true) (by kernel_rfl) ?_
            change wpEarly _ _ _ _ _ _ 9 (Array.replicate 9 false) _ wr.drew
            have E := Lib.hid (E.out.up (below_drew (Below.refl _ _)))
            generalize wr.drew = wa at *
            refine early_take (i := 0) 56 (.pointer (some ⟨P, 4, none⟩)) rfl rfl (by kernel_rfl) (by kernel_rfl) (by kernel_rfl) (by kernel_rfl) rfl (fun _ _ _ h => h) (fun w' hw' => by go_simp) E.out.box ?_
            simp only [Act.put, List.setIfInBounds_toArray, List.set_cons_zero, List.set_cons_succ]
            refine early_take (i := 1) 57 (.slice (some ⟨R2, 0, none⟩) l l) rfl rfl (by kernel_rfl) (by kernel_rfl) (by kernel_rfl) (by kernel_rfl) rfl (fun _ _ _ h => h) (fun w' hw' => by have hc0 := hw'.cell 4; go_simp) E.out.box ?_
            simp only [Act.put, List.setIfInBounds_toArray, List.set_cons_zero, List.set_cons_succ]
            refine early_take (i := 2) 58 (.int .i64 (j : Int)) rfl rfl (by kernel_rfl) (by kernel_rfl) (by kernel_rfl) (by kernel_rfl) rfl (fun _ _ _ h => h) (fun w' hw' => by go_simp) E.out.box ?_
            simp only [Act.put, List.setIfInBounds_toArray, List.set_cons_zero, List.set_cons_succ]
            refine early_take (i := 3) 59 (.pointer (some ⟨R, 0, none⟩)) rfl rfl (by kernel_rfl) (by kernel_rfl) (by kernel_rfl) (by kernel_rfl) rfl (fun _ _ _ h => h) (fun w' hw' => by go_simp) E.out.box ?_
            simp only [Act.put, List.setIfInBounds_toArray, List.set_cons_zero, List.set_cons_succ]
            refine early_only (i := 4) (by kernel_rfl) rfl (fun K hK => ?_)
            simp only [opWp, List.getElem?_toArray, List.getElem?_cons_succ, List.getElem?_cons_zero]
            go_simp
            go_at_call 52
            obtain ⟨Aq, cq, hr, hA⟩ := E.out.e.rd
            refine (take_fld R Aq cq D (12 + 9 * k + 4 * j) 4 _ (by omega) (by rw [LD.out]; exact hd) (by rw [LD.out]; omega) hr).mono ?_
            rintro e u2 ⟨rfl, hS⟩
            rw [← XE.out]
            have E := Lib.hid (E.out.take hA hS)
            clear hr hA hS
            refine hK _ _ (fun _ => E.out.box) ?_
            clear hK
            refine early_take (i := 5) 61 (.int .i64 (X : Int)) rfl rfl (by kernel_rfl) (by kernel_rfl) (by kernel_rfl) (by kernel_rfl) rfl (fun _ _ _ h => h) (fun w' hw' => by go_simp; exact wrap_of (by omega) (by omega)) E.out.box ?_
            simp only [Act.put, List.setIfInBounds_toArray, List.set_cons_zero, List.set_cons_succ]
            refine early_take (i := 6) 62 (.int .i64 ((X : Int) - 1)) rfl rfl (by kernel_rfl) (by kernel_rfl) (by kernel_rfl) (by kernel_rfl) rfl (fun _ _ _ h => h) (fun w' hw' => by go_simp; exact wrap_of (by omega) (by omega)) E.out.box ?_
            simp only [Act.put, List.setIfInBounds_toArray, List.set_cons_zero, List.set_cons_succ]
            refine early_take (i := 7) 63 (.pointer (some ⟨R2, j, none⟩)) rfl rfl (by kernel_rfl) (by kernel_rfl) (by kernel_rfl) (by kernel_rfl) rfl (fun _ _ _ h => h) (fun w' hw' => by go_simp) E.out.box ?_
            simp only [Act.put, List.setIfInBounds_toArray, List.set_cons_zero, List.set_cons_succ]
            refine early_only (i := 8) (by kernel_rfl) rfl (fun K hK => ?_)
            simp only [opWp, List.getElem?_toArray, List.getElem?_cons_succ, List.getElem?_cons_zero]
            have ca : ∃ x, u2.cell? ⟨R2, j, none⟩ = some x := by
              rw [E.out.r2.cell, List.getElem?_toArray]
              exact ⟨_, List.getElem?_eq_getElem (by rw [ints_len, LG.out]; omega)⟩
            obtain ⟨xa, ca⟩ := ca
            have fa := E.out.r2.frozen (j)

            have E2 := Lib.hid (E.out.set2 (k := j) (v := .int .i64 ((X : Int) - 1)) G1.out)
            go_simp
            clear ca fa
            refine hK _ _ (fun _ => E2.out.box) ?_
            refine early_done (by kernel_rfl) ?_
            clear hK
            go_wp2_with fail
            exact ⟨⟨j + 1, by omega, by go_num, E2.out⟩, by simp [intOf]; omega⟩
          · obtain rfl : j = l := by omega
            have E := Lib.hid (show Pst w wr #[.int .i64 (m : Int), .int .i64 (b : Int), .int .i64 (k : Int), .int .i64 (s : Int), .int .i64 (n : Int), .int .i64 (j : Int)] R b1 D (12 + 9 * k + 4 * j) P R1 R2 q z ix k j (sgUpto D k) (mpUpto D (12 + 9 * k) j) by have := E.out; rw [rowP_all] at this; exact this)
            go_wp2_with fail
            refine wp_region_early (fun w' : World => At w' P (ics q z ix (some ⟨R1, 0, none⟩) k k (some ⟨R2, 0, none⟩) j j) 37) (fun _ => true) (by kernel_rfl) ?_
            change wpEarly _ _ _ _ _ _ 5 (Array.replicate 5 false) _ wr.drew
            have E := Lib.hid (E.out.up (below_drew (Below.refl _ _)))
            generalize wr.drew = wa at *
            refine early_take (i := 0) 65 (.agg (ics q z ix (some ⟨R1, 0, none⟩) k k (some ⟨R2, 0, none⟩) j j)) rfl rfl (by kernel_rfl) (by kernel_rfl) (by kernel_rfl) (by kernel_rfl) rfl (fun _ _ _ h => h) (fun w' hw' => exec_load_whole rfl rfl hw' Try.underlying37 size37) E.out.box ?_
            simp only [Act.put, List.setIfInBounds_toArray, List.set_cons_zero, List.set_cons_succ]
            refine early_take (i := 1) 66 (.pointer (some ⟨R, 0, none⟩)) rfl rfl (by kernel_rfl) (by kernel_rfl) (by kernel_rfl) (by kernel_rfl) rfl (fun _ _ _ h => h) (fun w' hw' => by go_simp) E.out.box ?_
            simp only [Act.put, List.setIfInBounds_toArray, List.set_cons_zero, List.set_cons_succ]
            refine early_only (i := 2) (by kernel_rfl) rfl (fun K hK => ?_)
            simp only [opWp, List.getElem?_toArray, List.getElem?_cons_succ, List.getElem?_cons_zero]
            go_simp
            go_at_call 53
            obtain ⟨Aq, cq, hr, hA⟩ := E.out.e.rd
            refine (rrest_any R Aq _ cq (D.drop (12 + 9 * k + 4 * j)) false _ (by rw [List.length_drop, LD.out]; omega) hr).mono ?_
            rintro e u2 ⟨v2, rfl, hf2⟩
            have B0 := Lib.hid E.out.e.bel
            have RL := Lib.hid E.out.e.res.lt
            have E := Lib.hid (E.out.up hf2.2)
            have OV := Lib.hid (show u2.ownsRow w.heap.size 5 1 v2 (D.length - (12 + 9 * k + 4 * j)) ((D.drop (12 + 9 * k + 4 * j)).map val) by have h9 := hf2.1; rw [List.length_drop] at h9; exact own_base h9 (fun x hx => Nat.le_trans B0.out.size (h9.lt x hx).1))
            have OL := Lib.hid (show ∀ x, v2.ownBlock = some x → ¬ x = w.heap.size + 1 from fun x hx e => by have := (hf2.1.lt x hx).1; have := RL.out; omega)
            clear hr hA hf2 B0 RL
            refine hK _ _ (fun _ => E.out.box) ?_
            clear hK
            refine early_only (i := 3) (by kernel_rfl) rfl (fun K hK => ?_)
            simp only [opWp, List.getElem?_toArray, List.getElem?_cons_succ, List.getElem?_cons_zero]
            refine wp_store_part 37 (.tmp 4) (.tmp 65) rfl (w.heap.size + 1) 0 37 zcs (ics q z ix (some ⟨R1, 0, none⟩) k k (some ⟨R2, 0, none⟩) j j) rfl rfl E.out.e.res size37 (by simp) (ics_one _ _ _ _ _ _ _ _ _) ?_
            intro u3 hat hb
            have RS := Lib.hid (show At u3 (w.heap.size + 1) (ics q z ix (some ⟨R1, 0, none⟩) k k (some ⟨R2, 0, none⟩) j j) 37 from hat)
            have BB := Lib.hid hb
            have BX := Lib.hid (E.out.box.but hb (by have := E.out.w3.1; omega))
            clear hat hb
            refine hK _ _ (fun _ => BX.out) ?_
            clear hK
            refine early_take (i := 4) 5 v2 rfl rfl (by kernel_rfl) (by kernel_rfl) (by kernel_rfl) (by kernel_rfl) rfl (fun _ _ _ h => h) (fun w' hw' => by go_simp) BX.out ?_
            simp only [Act.put, List.setIfInBounds_toArray, List.set_cons_zero, List.set_cons_succ]
            refine early_done (by kernel_rfl) ?_
            go_wp2_with fail
            refine bodyPost_ret (results_cell_slot (p := 4) (u := 5) (ty := 37) rfl _ _ (w.heap.size + 1) (ics q z ix (some ⟨R1, 0, none⟩) k k (some ⟨R2, 0, none⟩) j j) _ rfl RS.out Try.underlying37 size37) rfl ?_
            refine ⟨some ⟨R1, 0, none⟩, k, some ⟨R2, 0, none⟩, j, v2, by rw [← QQ.out, ← ZZ.out, ← XX.out]; rfl, ⟨(row_sgs E.out.r1 (sgUpto_len D k)).but BB.out (fun h0 x hx e => by injection hx with hx; subst hx; have e' : R1 = w.heap.size + 1 := e; have := E.out.w1.1; omega), (Row.of_at E.out.r2 rfl (by rw [ints_len, mpUpto_len])).but BB.out (fun h0 x hx e => by injection hx with hx; subst hx; have e' : R2 = w.heap.size + 1 := e; have := E.out.w2.1; omega)⟩, fun x hx => by injection hx with hx; subst hx; show w.heap.size ≤ R1; have := E.out.w1.1; omega, fun x hx => by injection hx with hx; subst hx; show w.heap.size ≤ R2; have := E.out.w2.1; omega, own_but OV.out BB.out (fun x hx e => OL.out x hx e), E.out.e.bel.trans (BB.out.below (fun x e => by omega) E.out.e.bel.size)⟩
end Go.Proofs.Ytlmponcoghfghaa
