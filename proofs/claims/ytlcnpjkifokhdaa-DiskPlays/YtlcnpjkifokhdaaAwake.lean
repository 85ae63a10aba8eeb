/-
  A DISK THAT DOES NOT FAIL; THE WALK OF Awake.
-/
import Derived.Test.YtlcnpjkifokhdaaDisk4
namespace Go.Proofs.Ytlcnpjkifokhdaa
open Go.RowKit Go.Maps Go.Shelf
set_option linter.unusedVariables false
set_option maxRecDepth 100000

theorem op_live {s : DS} (hd : s.dead = false) (hf : s.failAt < 0) (u : Int) : s.op u = s := by
  have : ¬ 0 ≤ s.failAt := by omega
  unfold DS.op
  rw [decide_eq_false this, hd]
  cases s
  simp_all

section
variable {w : World} {g p : Nat} {T : Nat → Prop} {s : DS}

theorem own_slice {w2 : World} {base : Nat} {A : Option Addr} {n cap : Nat} {b : Bytes} (h : w2.ownsRow base 5 1 (.slice A n cap) n (b.map val)) :
    Has w2 A n b ∧ (A = none → cap = 0) ∧ ∀ x, A = some x → base ≤ x.block ∧ x.block < w2.heap.size := by
  obtain ⟨A', cap', e, h1⟩ := own_form h
  injection e with e1 _ e2
  subst e1 e2
  exact h1

theorem read_live (i u l : Int) (b : Bytes) (n : Nat) (hb : s.read i = b) (hn : b.length = n) (hi : s.has i) (hd : s.dead = false) (hf : s.failAt < 0) (h : Dk w g p T s) (hp : Pw w p u l) (hu : 0 ≤ u ∧ u ≤ 1000000) (hl : ¬ l = 0) (hm : l ≤ 9223372036854775807) :
    Calls Try.prog 24 #[.pointer (some ⟨g, 0, none⟩), .int .i64 i] w fun e w' => ∃ A cap, e = .returned (.tuple #[.slice A n cap, .int .i64 0]) ∧ w'.ownsRow w.heap.size 5 1 (.slice A n cap) n (b.map val) ∧
      Dk w' g p T s ∧ Pw w' p (u + 1) (less l) ∧ But (fun k => k = g ∨ k = p) w w' := by
  subst hb hn
  refine (read_go i u l hi h hp hu hl hm).mono ?_
  rintro e w' ⟨v, rfl, h1, h2, h3, h4⟩
  have e1 := op_live hd hf u
  rw [e1] at h2 ⊢
  rw [DS.got_ok i (by rw [e1]; exact hd)] at h1
  obtain ⟨A, cap, rfl, _⟩ := own_form h1
  rw [hd]
  exact ⟨A, cap, rfl, h1, h2, h3, h4⟩

theorem write_live (i u l : Int) (A : Option Addr) (cap : Nat) (b : Bytes) (hi : s.has i) (hd : s.dead = false) (hf : s.failAt < 0) (h : Dk w g p T s) (hp : Pw w p u l) (hb : Has w A s.size b) (hA : ∀ x, A = some x → ¬ x.block = g ∧ ¬ x.block = p) (hu : 0 ≤ u ∧ u ≤ 1000000) (hl : ¬ l = 0) (hm : l ≤ 9223372036854775807) (hw : -1000000 ≤ s.writes i ∧ s.writes i ≤ 1000000) :
    Calls Try.prog 21 #[.pointer (some ⟨g, 0, none⟩), .int .i64 i, .slice A s.size cap] w fun e w' => ∃ T', e = .returned (.int .i64 0) ∧ 
      Dk w' g p T' (s.write i b) ∧ Pw w' p (u + 1) (less l) ∧ (∀ k, T' k → T k ∨ w.heap.size ≤ k) ∧ But (fun k => T k ∨ k = p) w w' := by
  refine (write_go i u l A cap b hi h hp hb hA hu hl hm hw).mono ?_
  rintro e w' ⟨T', rfl, h1, h2, h3, h4⟩
  have e1 := op_live hd hf u
  rw [DS.put_ok i b (by rw [e1]; exact hd), e1] at h1
  rw [e1, hd]
  exact ⟨T', rfl, h1, h2, h3, h4⟩

theorem flush_live (u l : Int) (hd : s.dead = false) (hf : s.failAt < 0) (h : Dk w g p T s) (hp : Pw w p u l) (hu : 0 ≤ u ∧ u ≤ 1000000) (hl : ¬ l = 0) (hm : l ≤ 9223372036854775807) :
    Calls Try.prog 22 #[.pointer (some ⟨g, 0, none⟩)] w fun e w' => e = .returned (.int .i64 0) ∧ Dk w' g p T s.flush ∧ Pw w' p (u + 1) (less l) ∧ But (fun k => T k ∨ k = p) w w' := by
  refine (flush_go u l h hp hu hl hm).mono ?_
  rintro e w' ⟨rfl, h1, h2, h3⟩
  have e1 := op_live hd hf u
  rw [DS.fl_ok (by rw [e1]; exact hd), e1] at h1
  rw [e1, hd]
  exact ⟨rfl, h1, h2, h3⟩

theorem waits_one {ss tt : List Int} (h1 : Waits s ss) (h2 : Waits s tt) : ss = tt := by
  have n1 : ss.Nodup := h1.1.imp (fun h => by omega)
  have n2 : tt.Nodup := h2.1.imp (fun h => by omega)
  have hp : ss.Perm tt := (List.perm_ext_iff_of_nodup n1 n2).2 (fun x => by rw [h1.2 x, h2.2 x])
  exact List.Perm.eq_of_pairwise (le := fun a b => a < b) (fun a b _ _ h1 h2 => by omega) h1.1 h2.1 hp
end

/-- A disk and its power, all of it above B; below B nothing has turned since w0. -/
structure Sys (B : Nat) (w0 w : World) (g p : Nat) (T : Nat → Prop) (s : DS) (u l : Int) : Prop where
  dk : Dk w g p T s
  pw : Pw w p u l
  below : Below B w0 w
  own : ∀ k, T k → B ≤ k
  pB : B ≤ p
  size : B ≤ w.heap.size

section
variable {B : Nat} {w0 w w' : World} {g p : Nat} {T T' : Nat → Prop} {s s' : DS} {u l u' l' : Int}
theorem Sys.go (h : Sys B w0 w g p T s u l) (hd : Dk w' g p T' s') (hp : Pw w' p u' l') (hT : ∀ k, T' k → T k ∨ w.heap.size ≤ k) (hb : But (fun k => T k ∨ k = p) w w') : Sys B w0 w' g p T' s' u' l' where
  dk := hd
  pw := hp
  below := h.below.trans (hb.below (fun k hk => hk.elim (h.own k) (fun e => e ▸ h.pB)) h.size)
  own := fun k hk => (hT k hk).elim (h.own k) (fun h' => Nat.le_trans h.size h')
  pB := h.pB
  size := Nat.le_trans h.size hb.size
theorem Sys.keep (h : Sys B w0 w g p T s u l) (hd : Dk w' g p T s') (hp : Pw w' p u' l') (hb : But (fun k => k = g ∨ k = p) w w') : Sys B w0 w' g p T s' u' l' :=
  h.go hd hp (fun _ h => .inl h) (hb.mono (fun k hk _ => hk.elim (fun e => .inl (e ▸ h.dk.own)) .inr))
/-- While the caller does something of its own. -/
theorem Sys.but {S : Nat → Prop} (h : Sys B w0 w g p T s u l) (hb : But S w w') (hT : ∀ k, T k → ¬ S k) (hp : ¬ S p) (hS : ∀ k, S k → B ≤ k) : Sys B w0 w' g p T s u l where
  dk := h.dk.but hb hT
  pw := h.pw.but hb hp
  below := h.below.trans (hb.below hS h.size)
  own := h.own
  pB := h.pB
  size := Nat.le_trans h.size hb.size
theorem Sys.alloc (h : Sys B w0 w g p T s u l) (o : Obj) : Sys B w0 (w.alloc o) g p T s u l :=
  h.but (S := fun _ => False) ((But.refl _ _).alloc o) (fun _ _ h => h) (fun h => h) (fun _ h => h.elim)
theorem Sys.drewN (h : Sys B w0 w g p T s u l) (n : Nat) : Sys B w0 (w.drewN n) g p T s u l :=
  h.but (S := fun _ => False) ((But.refl _ _).drewN n) (fun _ _ h => h) (fun h => h) (fun _ h => h.elim)
theorem Sys.up (h : Sys B w0 w g p T s u l) (hb : Below w.heap.size w w') : Sys B w0 w' g p T s u l :=
  h.but (S := fun _ => False) (But.of_below hb) (fun _ _ h => h) (fun h => h) (fun _ h => h.elim)
theorem Sys.off (h : Sys B w0 w g p T s u l) : ∀ (k : Nat), w.heap.size ≤ k → ¬ T k ∧ ¬ k = g ∧ ¬ k = p := by
  intro k hk
  have h1 := h.dk.lt
  have h2 := h.pw.lt
  refine ⟨fun ht => ?_, fun e => ?_, fun e => ?_⟩
  · have := h1 k ht; omega
  · have := h1 g h.dk.own; omega
  · omega
/-- A new disk with a new power. -/
theorem Sys.start {w1 w2 : World} {l : Int} {S z : Nat} (hw1 : w1 = w.alloc (.cells #[.int .i64 0, .int .i64 l] 60)) (hd : Dk w2 g w.heap.size T (blank S z)) (hT : ∀ k, T k → w1.heap.size ≤ k) (hb : Below w1.heap.size w1 w2) : Sys w.heap.size w w2 g w.heap.size T (blank S z) 0 l := by
  subst hw1
  have hp : Pw (w.alloc (.cells #[.int .i64 0, .int .i64 l] 60)) w.heap.size 0 l := At.new _ 60 rfl
  have b1 : Below w.heap.size w (w.alloc (.cells #[.int .i64 0, .int .i64 l] 60)) := (Below.refl _ _).alloc (Nat.le_refl _) _
  exact
    { dk := hd
      pw := hp.below hb hp.lt
      below := b1.trans (hb.mono (by simp))
      own := fun k hk => by have := hT k hk; simp at this; omega
      pB := Nat.le_refl _
      size := Nat.le_trans b1.size hb.size }
end

theorem less_neg : less (-1) = -1 := rfl

/-- The disk of the document's example. -/
def wrote : DS := ((blank 3 1).write 0 [7#8]).write 2 [9#8]
theorem wrote_waits : Waits wrote [0, 2] := by
  refine ⟨by decide, fun x => ?_⟩
  simp [wrote, DS.write, blank]
  by_cases h0 : x = 0
  · simp [h0]
  · by_cases h2 : x = 2
    · simp [h2]
    · simp [h0, h2]
theorem wrote_read0 : (wrote.cycle 2 [0, 2]).read 0 = [0#8] := by decide
theorem wrote_read2 : (wrote.cycle 2 [0, 2]).read 2 = [9#8] := by decide

theorem one_has (w : World) (B : Nat) (hB : w.heap.size = B) (x : BitVec 8) (X : Int) (hX : X = (x.toNat : Int)) : Has (w.alloc (.cells #[.int .u8 X] 5)) (some ⟨B, 0, none⟩) 1 [x] := by
  subst hB hX
  refine Has.of_block (heap_alloc_new _ _) rfl ?_
  intro k hk
  match k, hk with
  | 0, _ => rfl

set_option maxHeartbeats 1600000 in
theorem awake_any (w : World) : Calls Try.prog 8 #[] w fun e w' => e = .returned (.bool true) ∧ Below w.heap.size w w' := by
  go_enter Try.func8, Try.ntmps8
  go_wp2_with fail
  refine (new_any (-1) w).mono ?_
  rintro e w1 ⟨rfl, hw1⟩
  have W1 := Lib.hid hw1
  have hlt1 : w.heap.size < w1.heap.size := by rw [hw1]; simp
  clear hw1
  go_wp2_with fail
  refine (new_disk w.heap.size 3 1 3 1 w1 hlt1 (by decide) (by decide) (by decide)).mono ?_
  rintro e w2 ⟨g, T, rfl, hd, hT, hb⟩
  have Y2 := Lib.hid (Sys.start W1.out hd hT hb)
  clear hd hT hb hlt1
  generalize hB : w.heap.size = B
  rw [hB] at Y2
  have HB := Lib.hid hB
  clear hB W1
  go_wp2_with fail
  refine (write_live 0 0 (-1) (some ⟨w2.heap.size, 0, none⟩) 1 [7#8] (by decide) rfl (by decide) (Y2.out.alloc _).dk (Y2.out.alloc _).pw (one_has w2 _ rfl 7#8 7 rfl) (fun x hx => by injection hx with hx; subst hx; exact (Y2.out.off _ (Nat.le_refl _)).2) (by decide) (by decide) (by decide) (by decide)).mono ?_
  rintro e w3 ⟨T3, rfl, hd, hp, hT, hb⟩
  have Y3 := Lib.hid ((Y2.out.alloc _).go hd hp hT hb)
  clear hd hp hT hb
  rw [less_neg] at Y3
  go_wp2_with fail
  refine (write_live 2 (0 + 1) (-1) (some ⟨w3.heap.size, 0, none⟩) 1 [9#8] (by decide) rfl (by decide) (Y3.out.alloc _).dk (Y3.out.alloc _).pw (one_has w3 _ rfl 9#8 9 rfl) (fun x hx => by injection hx with hx; subst hx; exact (Y3.out.off _ (Nat.le_refl _)).2) (by decide) (by decide) (by decide) (by decide)).mono ?_
  rintro e w4 ⟨T4, rfl, hd, hp, hT, hb⟩
  have Y4 := Lib.hid ((Y3.out.alloc _).go hd hp hT hb)
  clear hd hp hT hb
  rw [less_neg] at Y4
  go_wp2_with fail
  refine (cycle_any 2 (by decide) Y4.out.dk).mono ?_
  rintro e w5 ⟨ss, rfl, hW, hd, hb⟩
  obtain rfl := waits_one hW wrote_waits
  have Y5 := Lib.hid (Y4.out.go (T' := T4) (u' := 0 + 1 + 1) (l' := -1) hd (Y4.out.pw.but hb Y4.out.dk.np) (fun _ h => .inl h) (hb.mono (fun _ h _ => .inl h)))
  clear hW hd hb
  go_wp2_with fail
  refine (read_live 0 (0 + 1 + 1) (-1) [0#8] 1 wrote_read0 rfl (by decide) rfl (by decide) Y5.out.dk Y5.out.pw (by decide) (by decide) (by decide)).mono ?_
  rintro e w6 ⟨A6, c6, rfl, hr, hd, hp, hb⟩
  have Y6 := Lib.hid (Y5.out.keep hd hp hb)
  have R6 := Lib.hid (own_slice hr)
  clear hr hd hp hb
  go_wp2_with fail
  refine (read_live 2 (0 + 1 + 1 + 1) (-1) [9#8] 1 wrote_read2 rfl (by decide) rfl (by decide) Y6.out.dk Y6.out.pw (by decide) (by decide) (by decide)).mono ?_
  rintro e w7 ⟨A7, c7, rfl, hr, hd, hp, hb⟩
  have Y7 := Lib.hid (Y6.out.keep hd hp hb)
  have R7 := Lib.hid (own_slice hr)
  have R67 := Lib.hid (R6.out.1.but hb (fun x hx h => by
    have h1 := (R6.out.2.2 x hx).1
    have h2 := Y5.out.off _ h1
    exact h.elim h2.2.1 h2.2.2))
  clear hr hd hp hb
  go_wp2_with fail
  refine (equal_any A6 (some ⟨w7.heap.size, 0, none⟩) 1 1 c6 1 [0#8] [0#8] _ (by decide) (by decide) (R67.out.below ((Below.refl _ _).alloc (Nat.le_refl _) _)) (one_has w7 _ rfl 0#8 0 rfl)).mono ?_
  rintro e w8 ⟨rfl, m8, hw8⟩
  have Y8 := Lib.hid ((Y7.out.alloc (.cells #[.int .u8 0] 5)).drewN m8)
  have R8 := Lib.hid ((R7.out.1.below ((Below.refl _ _).alloc (Nat.le_refl _) (.cells #[.int .u8 0] 5))).drewN m8)
  rw [← hw8] at Y8 R8
  clear hw8
  go_wp2_with fail
  refine (equal_any A7 (some ⟨w8.heap.size, 0, none⟩) 1 1 c7 1 [9#8] [9#8] _ (by decide) (by decide) (R8.out.below ((Below.refl _ _).alloc (Nat.le_refl _) _)) (one_has w8 _ rfl 9#8 9 rfl)).mono ?_
  rintro e w9 ⟨rfl, m9, hw9⟩
  have Y9 := Lib.hid ((Y8.out.alloc (.cells #[.int .u8 9] 5)).drewN m9)
  rw [← hw9] at Y9
  clear hw9
  go_wp2
  go_ret
  exact ⟨rfl, by rw [HB.out]; exact Y9.out.below⟩

end Go.Proofs.Ytlcnpjkifokhdaa
