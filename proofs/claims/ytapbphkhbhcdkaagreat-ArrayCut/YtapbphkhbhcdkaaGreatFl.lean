/-
  THE SHAPE OF AN ARRAY, AS IT IS LOADED, AND ITS CALLS; THE WALKS OF Flush AND PutSame.
-/
import Derived.Test.YtapbphkhbhcdkaaGreatEach
import Derived.Test.YtapbphkhbhcdkaaGreatBlks
import Derived.Lib.QuietBelow
namespace Go.Proofs.YtapbphkhbhcdkaaGreat
open Go.RowKit Go.Maps
set_option linter.unusedVariables false
set_option maxRecDepth 100000

/-- The shape, by value. -/
def AS.sh (s : AS) : List Value := [.int .i64 (s.M : Int), .int .i64 s.b, .int .i64 s.g, .int .i64 s.s, .int .i64 s.n, .int .i64 s.l]
def AS.N (s : AS) : Int := s.g * s.s
def AS.at_ (s : AS) (t : Int) : Int := 1 + 2 * pgs s.b s.g s.l + t
theorem shape_size : (Tryz.prog.info? 33).map (·.size) = some 6 := by kernel_rfl

section
variable {w w' : World} {P : Pl} {O : Nat → Prop} {s : AS}
theorem Arr.range (h : Arr w P O s) : w.rangeAt P.a 0 s.sh := by
  obtain ⟨c0, c1, c2, c3, c4, c5⟩ := h.shape
  intro j v hv
  rw [Nat.zero_add]
  match j, hv with
  | 0, hv => rw [c0]; simpa [AS.sh] using hv
  | 1, hv => rw [c1]; simpa [AS.sh] using hv
  | 2, hv => rw [c2]; simpa [AS.sh] using hv
  | 3, hv => rw [c3]; simpa [AS.sh] using hv
  | 4, hv => rw [c4]; simpa [AS.sh] using hv
  | 5, hv => rw [c5]; simpa [AS.sh] using hv
/-- The shape, loaded. -/
theorem Arr.load (h : Arr w P O s) : (Instr.loadAt 33 (.pointer (some ⟨P.a, 0, none⟩))).run Tryz.prog w = .ok (sv (s.M : Int) s.b s.g s.s s.n s.l) w :=
  run_loadAt_mid w P.a 0 33 s.sh _ h.range Tryz.underlying33 rfl shape_size
theorem exec_shape {a : Act} {op : Oper} {x : Operand} {b : Nat} (ho : op.op = .load 33 x) (hx : a.eval x = .pointer (some ⟨b, 0, none⟩)) (hc : w.rangeAt b 0 s.sh) :
    (execOp a.eval op).run Tryz.prog w = .ok (.value (sv (s.M : Int) s.b s.g s.s s.n s.l)) w := by
  have hrun := run_loadAt_mid (P := Tryz.prog) w b 0 33 s.sh _ hc Tryz.underlying33 rfl shape_size
  unfold execOp
  simp only [ho, hx, hrun, Sem.run_bind, Result.andThen_ok]
  rfl

theorem AS.Wf.n (h : s.Wf) : 8 ≤ s.N ∧ s.N ≤ 18 := by
  have h1 := h.small.hg
  have h2 := h.small.hs
  unfold AS.N
  rcases (show s.s = 2 ∨ s.s = 3 by omega) with e | e <;> rw [e] <;> omega
theorem AS.Wf.total (h : s.Wf) : (s.S : Int) = s.at_ s.N := h.sect
theorem sectors_call (h : s.Wf) (w : World) : Calls Tryz.prog 27 #[sv (s.M : Int) s.b s.g s.s s.n s.l] w fun e w' => e = .returned (.int .i64 (s.S : Int)) ∧ Below w.heap.size w w' := by
  have hs := h.small
  rw [h.sect]
  exact sectors_any _ _ _ _ _ _ _ (Lib.hid rfl) h.some_ (by have := hs.hb; omega) (by have := hs.hg; omega) (by have := hs.hs; omega) (by have := hs.hl; omega) w
theorem all_call (h : s.Wf) (w : World) : Calls Tryz.prog 8 #[sv (s.M : Int) s.b s.g s.s s.n s.l] w fun e w' => e = .returned (.int .i64 s.N) ∧ Below w.heap.size w w' := by
  have hs := h.small
  exact all_any _ _ _ _ _ _ (by have := hs.hg; omega) (by have := hs.hs; omega) w
theorem at_call (h : s.Wf) (t : Int) (ht : 0 ≤ t ∧ t ≤ 1000000) (w : World) : Calls Tryz.prog 37 #[sv (s.M : Int) s.b s.g s.s s.n s.l, .int .i64 t] w fun e w' => e = .returned (.int .i64 (s.at_ t)) ∧ Below w.heap.size w w' := by
  have hs := h.small
  exact stripeAt_any _ _ _ _ _ _ _ (Lib.hid rfl) h.some_ t ht (by have := hs.hb; omega) (by have := hs.hg; omega) (by have := hs.hl; omega) w
theorem parity_call (h : s.Wf) (t : Int) (ht : 0 ≤ t ∧ t ≤ 1000000) (w : World) : Calls Tryz.prog 36 #[sv (s.M : Int) s.b s.g s.s s.n s.l, .int .i64 t] w fun e w' => e = .returned (.int .i64 (t % (s.M : Int))) ∧ Below w.heap.size w w' := by
  have hs := h.small
  exact parity_any _ _ _ _ _ _ t ht (by have := hs.hm; omega) w
theorem member_call (h : s.Wf) (t : Int) (ht : 0 ≤ t ∧ t ≤ 1000000) (k : Int) (hk : 0 ≤ k ∧ k ≤ 1000000) (w : World) : Calls Tryz.prog 17 #[sv (s.M : Int) s.b s.g s.s s.n s.l, .int .i64 t, .int .i64 k] w fun e w' => e = .returned (.int .i64 ((t + 1 + k) % (s.M : Int))) ∧ Below w.heap.size w w' := by
  have hs := h.small
  exact member_any _ _ _ _ _ _ t ht k hk (by have := hs.hm; omega) w

theorem box_new (h : Arr w P O s) : Box (w.alloc (.cells #[.pointer (some ⟨P.a, 0, none⟩)] 40)) w.heap.size P O := ⟨At.new _ 40 rfl, fun e => by have := h.lt _ e; omega⟩
theorem Box.frame {O' : Nat → Prop} {bx : Nat} (h : Box w bx P O) (hb : But O w w') (hO : ∀ k, O' k → O k ∨ w.heap.size ≤ k) : Box w' bx P O' :=
  ⟨h.1.but hb h.2, fun e => (hO _ e).elim h.2 (fun e => by have := h.1.lt; omega)⟩
theorem enters52 (m : Nat) (bx : Nat) (w : World) : (callFunc 59 (#[.int .i64 (m : Int)] ++ #[.pointer (some ⟨bx, 0, none⟩)])).run Tryz.prog w = .ok (.enter 59 (#[.int .i64 (m : Int)] ++ #[.pointer (some ⟨bx, 0, none⟩)])) w := by kernel_rfl
theorem flush_act : Act1 (fun _ d u => d.fl u) := Act1.of (R := fun _ d _ => d.read) (fun _ d u => fl_turns d u) (fun _ d u => fl_dead d u)

theorem Flush_any (h : Arr w P O s) (hu : s.u ≤ 800000) : Calls Tryz.prog 41 #[.pointer (some ⟨P.a, 0, none⟩)] w fun e w' => ∃ er s', e = .returned (.int .i64 er) ∧ Did w P O s' w' ∧ EachAs (fun _ d u => d.fl u) s s' er := by
  have HA := Lib.hid (h.alloc (.cells #[.pointer (some ⟨P.a, 0, none⟩)] 40))
  have HB := Lib.hid (box_new h)
  have B1 := Lib.hid ((But.refl O w).alloc (.cells #[.pointer (some ⟨P.a, 0, none⟩)] 40))
  have hmf : ∀ (fn : Fn) (first cap : Array Value) (w : World), (Instr.makeFunc fn first cap).run Tryz.prog w = .ok (.func fn first cap) w := fun _ _ _ _ => rfl
  clear h
  go_enter Tryz.func41, Tryz.ntmps41
  go_wp2_with fail
  refine (each_any 59 #[.pointer (some ⟨w.heap.size, 0, none⟩)] (fun _ d u => d.fl u) flush_act (fun w O => Box w _ P O) (fun m w => enters52 m _ w) (fun _ _ _ _ hz hb hO => hz.frame hb hO) (fun m w O s' hm hs ha hz hu => flushOne _ m (by rw [hs.M]; exact hm) ha hz hu) HA.out HB.out hu).mono ?_
  rintro e w2 ⟨er, s', rfl, hD, hE⟩
  have D2 := Lib.hid (hD.trans (fun _ h => .inl h) B1.out)
  have E2 := Lib.hid hE
  clear hD hE
  go_wp2
  go_ret
  exact ⟨er, s', rfl, D2.out, E2.out⟩
end
end Go.Proofs.YtapbphkhbhcdkaaGreat
