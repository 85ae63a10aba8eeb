/-
  THE WALK OF Commit.
-/
import Derived.Test.YtolienlbdfbdeaaDelete
namespace Go.Proofs.Ytolienlbdfbdeaa
open Go.RowKit
set_option linter.unusedVariables false
set_option maxRecDepth 100000

section
variable {w : World} {g p : Nat} {T : Nat → Prop} {s : NS}

theorem commit_out (d u : Int) (q : Nat) (h : Nv w g p T s) (hp : Pw w p u 0) : Calls Try.prog 10 #[.pointer (some ⟨g, 0, none⟩), .int .u64 d, .int .u64 (q : Int)] w fun e w' => e = .panicked out ∧ ∃ o, w' = w.alloc o := by
  obtain ⟨v, L, h⟩ := h
  have c0 : (w.alloc (.cells #[.int .u64 (q : Int)] 30)).cell? ⟨g, 0, none⟩ = some (.pointer (some ⟨p, 0, none⟩)) := (h.at_.alloc _).cell 0
  have P1 := Lib.hid (show Pw (w.alloc (.cells #[.int .u64 (q : Int)] 30)) p u 0 from At.alloc hp _)
  clear h hp
  go_enter Try.func10, Try.ntmps10
  go_wp2_with fail
  refine (tick_out p u _ P1.out).mono ?_
  rintro e w' ⟨rfl, rfl⟩
  unfold out
  go_wp2
  exact ⟨rfl, rfl, _, rfl⟩

theorem abs_filter (L : List Rc) (q : Nat) : (L.filter (stays q)).map Rc.abs = (L.map Rc.abs).filter (fun r => decide (q < r.seq)) := by
  rw [List.filter_map]
  rfl
theorem part_dur (p : Nat) (r : Rt) (v : Value) (last : Nat) (d : Int) : (ncells p r v last).setIfInBounds 8 (.int .u64 d) = ncells p { r with dur := d } v last := rfl
theorem part_recs' (p : Nat) (r : Rt) (v v' : Value) (last : Nat) : (ncells p r v last).setIfInBounds 10 v' = ncells p r v' last := rfl

theorem NvIs.kept {w2 w3 : World} {v v' : Value} {L : List Rc} {q : Nat} (h : NvIs w g p T s v L) (hr : Rw w2 0 v' (L.filter (stays q))) (hv : ∀ k, v'.ownBlock = some k → v.ownBlock = some k) (hb : But (fun k => v.ownBlock = some k) w w2) :
    NvIs (w2.setCell ⟨g, 10, none⟩ v') g p T { s with recs := s.recs.filter (fun r => decide (q < r.seq)) } v' (L.filter (stays q)) ∧ But T w (w2.setCell ⟨g, 10, none⟩ v') := by
  have bo := But.own w2 g 10 v'
  have v5 : ∀ k, v'.ownBlock = some k → T k ∧ k ≠ g := fun k hk => h.vT k (hv k hk)
  have d5 : ∀ x ∈ L.filter (stays q), 0 < x.n → ∀ a, x.A = some a → T a.block ∧ a.block ≠ g := fun x hx => h.dT x (List.mem_filter.1 hx).1
  have a2 : At w2 g (ncells p s.root v s.last) 60 := h.at_.but hb (fun e => (h.vT g e).2 rfl)
  refine ⟨⟨?_, hr.but bo (fun k hk => (v5 k hk).2) (fun x hx h0 a ha => (d5 x hx h0 a ha).2), ?_, h.gT, v5, d5, fun k hk => Nat.lt_of_lt_of_le (h.lt k hk) (Nat.le_trans hb.size bo.size), h.np⟩, (hb.mono (fun k hk _ => (h.vT k hk).1)).trans bo (fun k hk _ => hk ▸ h.gT)⟩
  · have := a2.set 10 v'
    rw [part_recs'] at this
    exact this
  · rw [abs_filter, h.abs]

set_option maxHeartbeats 800000 in
theorem commit_go (d u l : Int) (q : Nat) (h : Nv w g p T s) (hp : Pw w p u l) (hfew : s.recs.length ≤ 1000) (hu : 0 ≤ u ∧ u ≤ 1000000) (hl : ¬ l = 0) (hm : l ≤ 9223372036854775807) :
    Calls Try.prog 10 #[.pointer (some ⟨g, 0, none⟩), .int .u64 d, .int .u64 (q : Int)] w fun e w' => e = .returned (.tuple #[]) ∧ Nv w' g p T (s.commit d q) ∧ Pw w' p (u + 1) (less l) ∧ But (fun k => T k ∨ k = p) w w' := by
  have hmf : ∀ (fn : Fn) (first cap : Array Value) (w : World), (Instr.makeFunc fn first cap).run Try.prog w = .ok (.func fn first cap) w := fun _ _ _ _ => rfl
  obtain ⟨v, L, h⟩ := h
  have hL : L.length ≤ 1000 := by rw [h.len]; exact hfew
  have c0 : (w.alloc (.cells #[.int .u64 (q : Int)] 30)).cell? ⟨g, 0, none⟩ = some (.pointer (some ⟨p, 0, none⟩)) := (h.at_.alloc _).cell 0
  have P1 := Lib.hid (show Pw (w.alloc (.cells #[.int .u64 (q : Int)] 30)) p u l from At.alloc hp _)
  have X1 := Lib.hid (show At (w.alloc (.cells #[.int .u64 (q : Int)] 30)) w.heap.size #[.int .u64 (q : Int)] 30 from At.new _ 30 rfl)
  have N1 := Lib.hid (h.but (S := fun _ => False) ((But.refl _ w).alloc (.cells #[.int .u64 (q : Int)] 30)) (fun _ _ h => h))
  have hpl := Lib.hid hp.lt
  have O1 := Lib.hid (show ∀ k, T k → ¬ k = w.heap.size from fun k hk e => by have := h.lt k hk; omega)
  have B1 := Lib.hid ((But.refl (fun k => T k ∨ k = p) w).alloc (.cells #[.int .u64 (q : Int)] 30))
  clear h hp hfew
  go_enter Try.func10, Try.ntmps10
  go_wp2_with fail
  refine (tick_go p u l _ P1.out hu hl hm).mono ?_
  rintro e w2 ⟨rfl, hp2, hb2⟩
  have N2 := N1.out.but hb2 (fun k hk e => N1.out.np (e ▸ hk))
  have X2 := X1.out.but hb2 (by have := hpl.out; omega)
  have B2 := B1.out.trans hb2 (fun k e _ => .inr e)
  have bo := But.own w2 g 8 (.int .u64 d)
  have N3 := Lib.hid (show NvIs (w2.setCell ⟨g, 8, none⟩ (.int .u64 d)) g p T { s with root := { s.root with dur := d } } v L from
    ⟨by have := N2.at_.set 8 (.int .u64 d); rw [part_dur] at this; exact this, N2.rw.but bo (fun k hk => (N2.vT k hk).2) (fun x hx h0 a ha => (N2.dT x hx h0 a ha).2), N2.abs, N2.gT, N2.vT, N2.dT, fun k hk => Nat.lt_of_lt_of_le (N2.lt k hk) bo.size, N2.np⟩)
  have P3 := Lib.hid (show Pw (w2.setCell ⟨g, 8, none⟩ (.int .u64 d)) p (u + 1) (less l) from At.but hp2 bo (fun e => N2.np (e ▸ N2.gT)))
  have X3 := Lib.hid (X2.but bo (fun e => O1.out g N2.gT e.symm))
  have B3 := Lib.hid (B2.trans bo (fun k e _ => .inl (e ▸ N2.gT)))
  have c8 : w2.cell? ⟨g, 8, none⟩ = some (.int .u64 s.root.dur) := N2.at_.cell 8
  have f8 := N2.frozen 8
  have c10 : (w2.setCell ⟨g, 8, none⟩ (.int .u64 d)).cell? ⟨g, 10, none⟩ = some v := N3.out.cells.2.2.1
  clear hp2 hb2 N2 X2 B2 bo c0
  go_wp2_with fail
  generalize w2.setCell ⟨g, 8, none⟩ (.int .u64 d) = w3 at *
  refine (delete_any v w.heap.size q L w3 0 hL N3.out.rw X3.out (fun e => O1.out _ (N3.out.vT _ e).1 rfl)).mono ?_
  rintro e w4 ⟨v4, rfl, hr4, hv4, hb4⟩
  obtain ⟨A4, c4, rfl⟩ := hr4.slice
  generalize (L.filter (stays q)).length = n4 at *
  obtain ⟨nn4, b4⟩ := N3.out.kept (w3 := w3) hr4 hv4 hb4
  have a4 : At w4 g (ncells p { s.root with dur := d } v s.last) 60 := N3.out.at_.but hb4 (fun e => (N3.out.vT g e).2 rfl)
  have e10 : w4.cell? ⟨g, 10, none⟩ = some v := a4.cell 10
  have z10 := a4.frozen 10
  have N4 := Lib.hid nn4
  have P4 := Lib.hid (show Pw (w4.setCell ⟨g, 10, none⟩ (.slice A4 n4 c4)) p (u + 1) (less l) from At.but P3.out b4 N3.out.np)
  have B4 := Lib.hid (B3.out.trans b4 (fun k hk _ => .inl hk))
  clear nn4 b4 a4 hr4 hv4 hb4 c8 f8 c10
  go_wp2
  go_end0
  exact ⟨rfl, ⟨_, _, N4.out⟩, P4.out, B4.out⟩
end

end Go.Proofs.Ytolienlbdfbdeaa
