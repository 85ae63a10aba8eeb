/-
  A MEMORY AND ITS POWER; THE WALK OF Awake.
-/
import Derived.Test.YtolienlbdfbdeaaAppend2
import Derived.Test.YtolienlbdfbdeaaCommit
import Derived.Test.YtolienlbdfbdeaaSame
namespace Go.Proofs.Ytolienlbdfbdeaa
open Go.RowKit
set_option linter.unusedVariables false
set_option maxRecDepth 100000

/-- A memory and its power, all of it above B; below B nothing has turned since w0. -/
structure Sys (B : Nat) (w0 w : World) (g p : Nat) (T : Nat → Prop) (s : NS) (u l : Int) : Prop where
  nv : Nv w g p T s
  pw : Pw w p u l
  below : Below B w0 w
  own : ∀ k, T k → B ≤ k
  pB : B ≤ p
  size : B ≤ w.heap.size

section
variable {B : Nat} {w0 w w' : World} {g p : Nat} {T T' : Nat → Prop} {s s' : NS} {u l u' l' : Int}
theorem Sys.go (h : Sys B w0 w g p T s u l) (hd : Nv w' g p T' s') (hp : Pw w' p u' l') (hT : ∀ k, T' k → T k ∨ w.heap.size ≤ k) (hb : But (fun k => T k ∨ k = p) w w') : Sys B w0 w' g p T' s' u' l' where
  nv := hd
  pw := hp
  below := h.below.trans (hb.below (fun k hk => hk.elim (h.own k) (fun e => e ▸ h.pB)) h.size)
  own := fun k hk => (hT k hk).elim (h.own k) (fun h' => Nat.le_trans h.size h')
  pB := h.pB
  size := Nat.le_trans h.size hb.size
/-- While the caller does something of its own. -/
theorem Sys.but {S : Nat → Prop} (h : Sys B w0 w g p T s u l) (hb : But S w w') (hT : ∀ k, T k → ¬ S k) (hp : ¬ S p) (hS : ∀ k, S k → B ≤ k) : Sys B w0 w' g p T s u l where
  nv := h.nv.but hb hT
  pw := h.pw.but hb hp
  below := h.below.trans (hb.below hS h.size)
  own := h.own
  pB := h.pB
  size := Nat.le_trans h.size hb.size
theorem Sys.alloc (h : Sys B w0 w g p T s u l) (o : Obj) : Sys B w0 (w.alloc o) g p T s u l :=
  h.but (S := fun _ => False) ((But.refl _ _).alloc o) (fun _ _ h => h) (fun h => h) (fun _ h => h.elim)
theorem Sys.drewN (h : Sys B w0 w g p T s u l) (n : Nat) : Sys B w0 (w.drewN n) g p T s u l :=
  h.but (S := fun _ => False) ((But.refl _ _).drewN n) (fun _ _ h => h) (fun h => h) (fun _ h => h.elim)
theorem Sys.up (h : Sys B w0 w g p T s u l) (hb : Below w.heap.size w w') : Sys B w0 w' g p T s u l :=
  h.but (S := fun _ => False) (But.of_below hb) (fun _ _ h => h) (fun h => h) (fun _ h => h.elim)
theorem Sys.off (h : Sys B w0 w g p T s u l) : ∀ (k : Nat), w.heap.size ≤ k → ¬ T k ∧ ¬ k = p := by
  intro k hk
  have h2 := h.pw.lt
  refine ⟨fun ht => ?_, fun e => ?_⟩
  · have := h.nv.lt k ht; omega
  · omega
/-- A new memory with a new power. -/
theorem Sys.start {w1 w2 : World} {l : Int} (hw1 : w1 = w.alloc (.cells #[.int .i64 0, .int .i64 l] 58)) (hd : Nv w2 g w.heap.size T NS.new) (hT : ∀ k, T k → w1.heap.size ≤ k) (hb : Below w1.heap.size w1 w2) : Sys w.heap.size w w2 g w.heap.size T NS.new 0 l := by
  subst hw1
  have hp : Pw (w.alloc (.cells #[.int .i64 0, .int .i64 l] 58)) w.heap.size 0 l := At.new _ 58 rfl
  have b1 : Below w.heap.size w (w.alloc (.cells #[.int .i64 0, .int .i64 l] 58)) := (Below.refl _ _).alloc (Nat.le_refl _) _
  exact
    { nv := hd
      pw := hp.below hb hp.lt
      below := b1.trans (hb.mono (by simp))
      own := fun k hk => by have := hT k hk; simp at this; omega
      pB := Nat.le_refl _
      size := Nat.le_trans b1.size hb.size }
end

theorem less_neg : less (-1) = -1 := rfl
/-- A root with so many records. -/
def rt (n : Int) (gen : Int) : Rt := ⟨0, 0, 0, 0, n, 0, gen, 0, 0⟩

set_option maxHeartbeats 1600000 in
theorem awake_any (w : World) : Calls Try.prog 7 #[] w fun e w' => e = .returned (.bool true) ∧ Below w.heap.size w w' := by
  go_enter Try.func7, Try.ntmps7
  go_wp2_with fail
  refine (new_any (-1) w).mono ?_
  rintro e w1 ⟨rfl, hw1⟩
  have W1 := Lib.hid hw1
  have hlt1 : w.heap.size < w1.heap.size := by rw [hw1]; simp
  clear hw1
  go_wp2_with fail
  refine (new_nv w.heap.size w1 hlt1).mono ?_
  rintro e w2 ⟨rfl, hd, hb⟩
  have Y2 := Lib.hid (Sys.start W1.out hd (fun k e => Nat.le_of_eq e.symm) hb)
  clear hd hb hlt1
  generalize hB : w.heap.size = B
  rw [hB] at Y2
  have HB := Lib.hid hB
  generalize hg : w1.heap.size = g at *
  clear hB W1 hg
  go_wp2_with fail
  refine (set_go 0 (-1) (rt 1 0) Y2.out.nv Y2.out.pw (by decide) (by decide) (by decide)).mono ?_
  rintro e w3 ⟨rfl, hd, hp, hb⟩
  have Y3 := Lib.hid (Y2.out.go hd hp (fun _ h => .inl h) hb)
  rw [less_neg] at Y3
  clear hd hp hb
  go_wp2_with fail
  refine (append_go 1 0 (0 + 1) (-1) none 0 0 [] Y3.out.nv Y3.out.pw (by decide) (Has.nil _ _) (by decide) (fun h => absurd h (by decide)) (by decide) (by decide) (by decide) (by decide) (by decide)).mono ?_
  rintro e w4 ⟨T4, rfl, hd, hp, hT, hb⟩
  have Y4 := Lib.hid (Y3.out.go hd hp hT hb)
  rw [less_neg] at Y4
  clear hd hp hT hb
  go_wp2_with fail
  refine (append_full 1 0 none 0 0 Y4.out.nv (by decide)).mono ?_
  rintro e w5 ⟨rfl, m5, hw5⟩
  have Y5 := Lib.hid (Y4.out.drewN m5)
  rw [← hw5] at Y5
  clear hw5
  go_wp2_with fail
  refine (commit_go 1 (0 + 1 + 1) (-1) 1 Y5.out.nv Y5.out.pw (by decide) (by decide) (by decide) (by decide)).mono ?_
  rintro e w6 ⟨rfl, hd, hp, hb⟩
  have Y6 := Lib.hid (Y5.out.go hd hp (fun _ h => .inl h) hb)
  rw [less_neg] at Y6
  clear hd hp hb
  go_wp2_with fail
  refine (append_go 2 0 (0 + 1 + 1 + 1) (-1) none 0 0 [] Y6.out.nv Y6.out.pw (by decide) (Has.nil _ _) (by decide) (fun h => absurd h (by decide)) (by decide) (by decide) (by decide) (by decide) (by decide)).mono ?_
  rintro e w7 ⟨T7, rfl, hd, hp, hT, hb⟩
  have Y7 := Lib.hid (Y6.out.go hd hp hT hb)
  rw [less_neg] at Y7
  clear hd hp hT hb
  go_wp2_with fail
  refine (len_any Y7.out.nv).mono ?_
  rintro e w8 ⟨rfl, rfl⟩
  go_wp2
  go_ret
  exact ⟨rfl, by rw [HB.out]; exact Y7.out.below⟩

end Go.Proofs.Ytolienlbdfbdeaa
