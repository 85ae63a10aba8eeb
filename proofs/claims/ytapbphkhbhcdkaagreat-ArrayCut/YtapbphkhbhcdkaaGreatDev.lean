/-
  THE WALKS OF has, chunks, Stale, Broken, setStale, lose AND Lose; a member's operation at the array.
-/
import Derived.Test.YtapbphkhbhcdkaaGreatRels
import Derived.Test.YtapbphkhbhcdkaaGreatEarly
namespace Go.Proofs.YtapbphkhbhcdkaaGreat
open Go.RowKit Go.Maps
set_option linter.unusedVariables false
set_option maxRecDepth 100000

theorem inside_any (i n : Int) (w : World) : Calls Tryz.prog 34 #[.int .i64 i, .int .i64 n] w fun e w' => e = .returned (.bool (decide (0 ≤ i ∧ i < n))) ∧ w' = w := by
  by_cases h0 : 0 ≤ i
  · by_cases h1 : i < n
    · rw [decide_eq_true (show 0 ≤ i ∧ i < n from ⟨h0, h1⟩)]
      go_enter Tryz.func34, Tryz.ntmps34
      go_wp2
      go_ret
      exact ⟨rfl, rfl⟩
    · rw [decide_eq_false (show ¬ (0 ≤ i ∧ i < n) from fun h => h1 h.2)]
      go_enter Tryz.func34, Tryz.ntmps34
      go_wp2
      go_ret
      exact ⟨rfl, rfl⟩
  · rw [decide_eq_false (show ¬ (0 ≤ i ∧ i < n) from fun h => h0 h.1)]
    go_enter Tryz.func34, Tryz.ntmps34
    go_wp2
    go_ret
    exact ⟨rfl, rfl⟩

theorem field_stale (a b c d e f g h i : Value) (w : World) : (Instr.field 64 (.agg #[a, b, c, d, e, f, g, h, i]) 3).run Tryz.prog w = .ok i w := by kernel_rfl
theorem field_shape (a b c d e f g h i : Value) (w : World) : (Instr.field 64 (.agg #[a, b, c, d, e, f, g, h, i]) 0).run Tryz.prog w = .ok (.agg #[a, b, c, d, e, f]) w := by kernel_rfl
theorem meth_flush (a : Addr) (w : World) : (method 271 50 (.pointer (some a)) "Flush").run Tryz.prog w = .ok (120, .pointer (some a)) w := by kernel_rfl
theorem meth_read (a : Addr) (w : World) : (method 271 50 (.pointer (some a)) "Read").run Tryz.prog w = .ok (121, .pointer (some a)) w := by kernel_rfl
theorem meth_write (a : Addr) (w : World) : (method 271 50 (.pointer (some a)) "Write").run Tryz.prog w = .ok (122, .pointer (some a)) w := by kernel_rfl
section
variable {w w' : World} {P : Pl} {O : Nat → Prop} {s : AS}

theorem Arr.u (h : Arr w P O s) : 0 ≤ s.u := h.wf.u0
theorem Arr.many (h : Arr w P O s) : 3 ≤ (s.M : Int) ∧ (s.M : Int) ≤ 5 := h.wf.small.hm

/-- A member's operation: the disk, then the array. -/
theorem Ay.keep {T : Nat → Nat → Prop} {i : Nat} {d : DS} (h : Ay w P T s) (hO : ∀ k, O k ↔ ∃ i, T i k) (hi : i < s.M) (hd : Dk w' (P.g i) P.p (T (4 + i)) d) (hp : Pw w' P.p (s.u + 1) (-1)) (hb : But (fun k => T (4 + i) k ∨ k = P.p) w w')
    (h1 : d.sectors = (s.d i).sectors) (h2 : d.size = (s.d i).size) (h3 : d.writes = (s.d i).writes) : Arr w' P O (s.turn i d) ∧ But O w w' := by
  refine ⟨⟨_, h.turn hi hd hp (fun k hk => .inl hk) hb h1 h2 (fun j => by rw [h3]; omega), fun k => ?_⟩, hb.mono ?_⟩
  · rw [hO k]
    constructor
    · rintro ⟨j, hj⟩
      refine ⟨j, ?_⟩
      by_cases e : j = 4 + i
      · simp only [e, if_true]; rw [← e]; exact hj
      · simp only [e, if_false]; exact hj
    · rintro ⟨j, hj⟩
      by_cases e : j = 4 + i
      · simp only [e, if_true] at hj; exact ⟨_, hj⟩
      · simp only [e, if_false] at hj; exact ⟨_, hj⟩
  · rintro k (e | e) _
    · exact (hO k).2 ⟨_, e⟩
    · exact (hO k).2 ⟨2, e ▸ h.t2⟩
theorem Ay.did {T : Nat → Nat → Prop} {T' : Nat → Prop} {i : Nat} {d : DS} (h : Ay w P T s) (hO : ∀ k, O k ↔ ∃ i, T i k) (hi : i < s.M) (hd : Dk w' (P.g i) P.p T' d) (hp : Pw w' P.p (s.u + 1) (-1)) (hT : ∀ k, T' k → T (4 + i) k ∨ w.heap.size ≤ k) (hb : But (fun k => T (4 + i) k ∨ k = P.p) w w')
    (h1 : d.sectors = (s.d i).sectors) (h2 : d.size = (s.d i).size) (h3 : ∀ j, (s.d i).writes j ≤ d.writes j ∧ d.writes j ≤ (s.d i).writes j + 1) : Did w P O (s.turn i d) w' := by
  refine ⟨fun k => ∃ j, (fun j k => if j = 4 + i then T' k else T j k) j k, ⟨_, h.turn hi hd hp hT hb h1 h2 h3, fun k => Iff.rfl⟩, ?_, hb.mono ?_⟩
  · rintro k ⟨j, hj⟩
    by_cases e : j = 4 + i
    · simp only [e, if_true] at hj
      exact (hT k hj).imp (fun h => (hO k).2 ⟨_, h⟩) id
    · simp only [e, if_false] at hj
      exact .inl ((hO k).2 ⟨_, hj⟩)
  · rintro k (e | e) _
    · exact (hO k).2 ⟨_, e⟩
    · exact (hO k).2 ⟨2, e ▸ h.t2⟩

/-- A member is read. -/
theorem dread (m : Nat) (hm : m < s.M) (i : Int) (hi : 0 ≤ i ∧ i < (s.S : Int)) (h : Arr w P O s) (hu : s.u ≤ 900000) :
    Calls Tryz.prog 121 #[.pointer (some ⟨P.g m, 0, none⟩), .int .i64 i] w fun e w' => ∃ v, e = .returned (.tuple #[v, .int .i64 (err ((s.d m).op s.u).dead)]) ∧ NewRow w w' v ((s.d m).got s.u i) ∧ Arr w' P O (s.turn m ((s.d m).op s.u)) ∧ But O w w' := by
  obtain ⟨T, hA, hO⟩ := h
  have hw := hA.wf.each m hm
  refine (read_go i s.u (-1) (by unfold DS.has; rw [hw.1]; exact hi) (hA.dk m hm) hA.pw (by have := hA.wf.u0; omega) (by decide) (by decide)).mono ?_
  rintro e w' ⟨v, rfl, hr, hd, hp, hb⟩
  have ha := (Aged.op (s.d m) s.u).sizes
  have hb' : But (fun k => T (4 + m) k ∨ k = P.p) w w' := hb.mono (fun k hk _ => hk.imp (fun e => by rw [e]; exact (hA.dk m hm).own) id)
  obtain ⟨k1, k2⟩ := hA.keep hO hm hd hp hb' ha.1 ha.2.1 ha.2.2.1
  exact ⟨v, rfl, hr, k1, k2⟩
/-- A member is flushed. -/
theorem dflush (m : Nat) (hm : m < s.M) (h : Arr w P O s) (hu : s.u ≤ 900000) :
    Calls Tryz.prog 120 #[.pointer (some ⟨P.g m, 0, none⟩)] w fun e w' => e = .returned (.int .i64 (err ((s.d m).op s.u).dead)) ∧ Arr w' P O (s.turn m ((s.d m).fl s.u)) ∧ But O w w' := by
  obtain ⟨T, hA, hO⟩ := h
  refine (flush_go s.u (-1) (hA.dk m hm) hA.pw (by have := hA.wf.u0; omega) (by decide) (by decide)).mono ?_
  rintro e w' ⟨rfl, hd, hp, hb⟩
  have ht := fl_turns (s.d m) s.u
  obtain ⟨k1, k2⟩ := hA.keep hO hm hd hp hb ht.sectors ht.size (by unfold DS.fl; split <;> rfl)
  exact ⟨rfl, k1, k2⟩
/-- A member is written. -/
theorem dwrite (m : Nat) (hm : m < s.M) (i : Int) (hi : 0 ≤ i ∧ i < (s.S : Int)) (A : Option Addr) (n cap : Nat) (b : Bytes) (hn : (n : Int) = s.b) (hb : Has w A n b) (hA : ∀ x, A = some x → ¬ O x.block) (h : Arr w P O s) (hu : s.u ≤ 900000) :
    Calls Tryz.prog 122 #[.pointer (some ⟨P.g m, 0, none⟩), .int .i64 i, .slice A n cap] w fun e w' => e = .returned (.int .i64 (err ((s.d m).op s.u).dead)) ∧ Did w P O (s.turn m ((s.d m).put s.u i b)) w' := by
  obtain ⟨T, hY, hO⟩ := h
  have hw := hY.wf.each m hm
  have u0 := hY.wf.u0
  have hn' : n = (s.d m).size := by have := hw.2.1; omega
  subst hn'
  refine (write_go i s.u (-1) A cap b (by unfold DS.has; rw [hw.1]; exact hi) (hY.dk m hm) hY.pw hb (fun x hx => ⟨fun e => hA x hx ((hO _).2 ⟨4 + m, by rw [e]; exact (hY.dk m hm).own⟩), fun e => hA x hx ((hO _).2 ⟨2, by rw [e]; exact hY.t2⟩)⟩) (by omega) (by decide) (by decide) (by have := hw.2.2 i; omega)).mono ?_
  rintro e w' ⟨T', rfl, hd, hp, hT, hb⟩
  have ht := put_turns (s.d m) s.u i b
  refine ⟨rfl, hY.did hO hm hd hp hT hb ht.sectors ht.size (fun j => ?_)⟩
  unfold DS.put
  split
  · show (s.d m).writes j ≤ (s.d m).writes j ∧ _
    exact ⟨Int.le_refl _, by show (s.d m).writes j ≤ (s.d m).writes j + 1; omega⟩
  · unfold DS.write
    show (s.d m).writes j ≤ (if j = i then (s.d m).writes j + 1 else (s.d m).writes j) ∧ (if j = i then (s.d m).writes j + 1 else (s.d m).writes j) ≤ (s.d m).writes j + 1
    split <;> omega
theorem stale_any (h : Arr w P O s) : Calls Tryz.prog 22 #[.pointer (some ⟨P.a, 0, none⟩)] w fun e w' => e = .returned (.int .i64 s.stale) ∧ Below w.heap.size w w' := by
  obtain ⟨c6, c7, c8⟩ := h.cells
  have N := Lib.hid h.nv
  have hf := field_stale
  clear h c6 c8
  go_enter Tryz.func22, Tryz.ntmps22
  go_wp2_with fail
  refine (root_any N.out).mono ?_
  rintro e w' ⟨rfl, hb⟩
  unfold Rt.cs AS.rt
  go_wp2
  go_ret
  exact ⟨rfl, hb⟩
theorem broken_any (h : Arr w P O s) : Calls Tryz.prog 30 #[.pointer (some ⟨P.a, 0, none⟩)] w fun e w' => e = .returned (.bool s.broken) ∧ w' = w := by
  obtain ⟨c6, c7, c8⟩ := h.cells
  clear h c6 c7
  go_enter Tryz.func30, Tryz.ntmps30
  go_wp2
  go_ret
  exact ⟨rfl, rfl⟩
theorem chunks_any (h : Arr w P O s) : Calls Tryz.prog 32 #[.pointer (some ⟨P.a, 0, none⟩)] w fun e w' => e = .returned (.int .i64 ((s.M : Int) - 1)) ∧ w' = w := by
  obtain ⟨c6, c7, c8⟩ := h.cells
  have hM := h.many
  clear h c8 c7
  go_enter Tryz.func32, Tryz.ntmps32
  go_wp2
  go_ret
  exact ⟨rfl, rfl⟩

theorem Arr.setStale (h : Arr w P O s) (q : Int) (hq : -1 ≤ q ∧ q < (s.M : Int)) (hn : Nv w' P.n P.p { s.rt with stale := q }) (hp : Pw w' P.p (s.u + 1) (-1)) (hb : But (fun k => k = P.n ∨ k = P.p) w w') : Arr w' P O { s with stale := q, u := s.u + 1 } ∧ But O w w' := by
  obtain ⟨T, hY, hO⟩ := h
  have off : ∀ j, j ≠ 2 → j ≠ 3 → ∀ k, T j k → ¬ (k = P.n ∨ k = P.p) := fun j h2 h3 k hk e => e.elim (fun e => h3 (hY.ap _ _ _ hk (e ▸ hY.t3))) (fun e => h2 (hY.ap _ _ _ hk (e ▸ hY.t2)))
  refine ⟨⟨T, ?_, hO⟩, hb.mono (fun k hk _ => hk.elim (fun e => (hO k).2 ⟨3, e ▸ hY.t3⟩) (fun e => (hO k).2 ⟨2, e ▸ hY.t2⟩))⟩
  exact
    { arr := hY.arr.but hb (off 0 (by omega) (by omega) _ hY.t0)
      row := fun j hj => (hb.cell (p := ⟨P.r, j, none⟩) (hY.lt _ _ hY.t1) (off 1 (by omega) (by omega) _ hY.t1)).trans (hY.row j hj)
      pw := hp
      nv := hn
      dk := fun j hj => (hY.dk j hj).but hb (off _ (by omega) (by omega))
      ap := hY.ap
      t0 := hY.t0
      t1 := hY.t1
      t2 := hY.t2
      t3 := hY.t3
      lt := fun i k hk => Nat.lt_of_lt_of_le (hY.lt i k hk) hb.size
      wf := ⟨hY.wf.small, hY.wf.sect, hY.wf.some_, by have := hY.wf.u0; show 0 ≤ s.u + 1; omega, hq, fun j hj => ⟨(hY.wf.each j hj).1, (hY.wf.each j hj).2.1, fun x => by have := (hY.wf.each j hj).2.2 x; exact ⟨this.1, by show (s.d j).writes x ≤ s.u + 1; omega⟩⟩⟩ }
theorem Arr.apart (h : Arr w P O s) : ¬ P.n = P.p ∧ O P.a ∧ O P.r ∧ O P.p ∧ O P.n := by
  obtain ⟨T, hY, hO⟩ := h
  refine ⟨fun e => ?_, (hO _).2 ⟨_, hY.t0⟩, (hO _).2 ⟨_, hY.t1⟩, (hO _).2 ⟨_, hY.t2⟩, (hO _).2 ⟨_, hY.t3⟩⟩
  have := hY.ap _ _ _ hY.t3 (e ▸ hY.t2)
  omega
theorem Arr.pw (h : Arr w P O s) : Pw w P.p s.u (-1) := by obtain ⟨T, hY, hO⟩ := h; exact hY.pw
theorem part_stale (r : Rt) (q : Int) : r.cs.setIfInBounds 8 (.int .i64 q) = ({ r with stale := q } : Rt).cs := rfl

set_option maxHeartbeats 800000 in
theorem setStale_any (q : Int) (hq : -1 ≤ q ∧ q < (s.M : Int)) (h : Arr w P O s) (hu : s.u ≤ 990000) : Calls Tryz.prog 75 #[.pointer (some ⟨P.a, 0, none⟩), .int .i64 q] w fun e w' => e = .returned (.tuple #[]) ∧ Arr w' P O { s with stale := q, u := s.u + 1 } ∧ But O w w' := by
  obtain ⟨c6, c7, c8⟩ := h.cells
  have HA := Lib.hid h
  clear h c6 c8
  go_enter Tryz.func75, Tryz.ntmps75
  go_wp2_with fail
  refine (root_any HA.out.nv).mono ?_
  rintro e w1 ⟨rfl, hb⟩
  have B1 := Lib.hid hb
  have H1 := Lib.hid (HA.out.up hb)
  clear hb c7
  go_wp2_with (first | (refine wpList_store_part rfl 64 (.tmp 4) (.tmp 9) rfl w1.heap.size 0 64 #[.int .i64 0, .int .i64 0, .int .i64 0, .int .i64 0, .int .i64 0, .int .i64 0, .int .u64 0, .int .u64 0, .int .i64 0] s.rt.cs ?_ ?_ ?_ (root_size _) ?_ ?_ ?_))
  any_goals first | rfl | exact At.new _ 64 rfl | exact rt_one _ | (show 0 + 9 ≤ 9; omega)
  intro w2 hat hb
  have A2 := Lib.hid (show At w2 w1.heap.size s.rt.cs 64 from hat)
  have H2 := Lib.hid ((H1.out.alloc (.cells #[.int .i64 0, .int .i64 0, .int .i64 0, .int .i64 0, .int .i64 0, .int .i64 0, .int .u64 0, .int .u64 0, .int .i64 0] 64)).but hb (fun k hk e => by have := H1.out.lt k hk; omega))
  have B2 := Lib.hid (((But.of_below (S := fun _ => False) B1.out).alloc (.cells #[.int .i64 0, .int .i64 0, .int .i64 0, .int .i64 0, .int .i64 0, .int .i64 0, .int .u64 0, .int .u64 0, .int .i64 0] 64)).trans hb (fun k e hk => by have := B1.out.size; omega))
  have f8 := A2.out.frozen 8
  have d8 : w2.cell? ⟨w1.heap.size, 8, none⟩ = some (.int .i64 s.stale) := A2.out.cell 8
  clear hat hb
  go_wp2_with fail
  have A3 := Lib.hid (show At (w2.setCell ⟨w1.heap.size, 8, none⟩ (.int .i64 q)) w1.heap.size ({ s.rt with stale := q } : Rt).cs 64 from A2.out.set 8 _)
  have B3 := Lib.hid (B2.out.setCell (p := ⟨w1.heap.size, 8, none⟩) (fun hk => by have := B1.out.size; simp at hk; omega) (.int .i64 q))
  have H3 := Lib.hid (H2.out.but (S := fun k => k = w1.heap.size) (But.own w2 w1.heap.size 8 (.int .i64 q)) (fun k hk e => by have := H1.out.lt k hk; omega))
  generalize w2.setCell ⟨w1.heap.size, 8, none⟩ (.int .i64 q) = w3 at *
  clear d8 f8 A2 B2 H2
  have S0 : (fun w' : World => w'.cell? ⟨P.a, 7, none⟩ = some (.pointer (some ⟨P.n, 0, none⟩)) ∧ At w' w1.heap.size ({ s.rt with stale := q } : Rt).cs 64) w3.drew := ⟨H3.out.drew.cells.2.1, A3.out⟩
  refine wp_region_early (fun w' : World => w'.cell? ⟨P.a, 7, none⟩ = some (.pointer (some ⟨P.n, 0, none⟩)) ∧ At w' w1.heap.size ({ s.rt with stale := q } : Rt).cs 64) (fun _ => true) (by kernel_rfl) ?_
  change wpEarly _ _ _ _ _ _ 6 (Array.replicate 6 false) _ w3.drew
  refine early_take (i := 0) 12 (.pointer (some ⟨P.a, 0, none⟩)) rfl rfl (by kernel_rfl) (by kernel_rfl) (by kernel_rfl) (by kernel_rfl) rfl (fun _ _ _ h => h) (fun w' hw' => by go_simp) S0 ?_
  simp only [Act.put, List.setIfInBounds_toArray, List.set_cons_zero, List.set_cons_succ]
  refine early_take (i := 1) 13 (.pointer (some ⟨P.a, 0, none⟩)) rfl rfl (by kernel_rfl) (by kernel_rfl) (by kernel_rfl) (by kernel_rfl) rfl (fun _ _ _ h => h) (fun w' hw' => by go_simp) S0 ?_
  simp only [Act.put, List.setIfInBounds_toArray, List.set_cons_zero, List.set_cons_succ]
  refine early_take (i := 2) 14 (.pointer (some ⟨P.a, 7, none⟩)) rfl rfl (by kernel_rfl) (by kernel_rfl) (by kernel_rfl) (by kernel_rfl) rfl (fun _ _ _ h => h) (fun w' hw' => by go_simp) S0 ?_
  simp only [Act.put, List.setIfInBounds_toArray, List.set_cons_zero, List.set_cons_succ]
  refine early_take (i := 3) 15 (.pointer (some ⟨P.n, 0, none⟩)) rfl rfl (by kernel_rfl) (by kernel_rfl) (by kernel_rfl) (by kernel_rfl) rfl (fun _ _ _ h => h) (fun w' hw' => by obtain ⟨h7, _⟩ := hw'; go_simp) S0 ?_
  simp only [Act.put, List.setIfInBounds_toArray, List.set_cons_zero, List.set_cons_succ]
  refine early_take (i := 4) 16 (.agg ({ s.rt with stale := q } : Rt).cs) rfl rfl (by kernel_rfl) (by kernel_rfl) (by kernel_rfl) (by kernel_rfl) rfl (fun _ _ _ h => h) (fun w' hw' => exec_load_whole (x := .tmp 4) rfl rfl hw'.2 Tryz.underlying64 (root_size _)) S0 ?_
  simp only [Act.put, List.setIfInBounds_toArray, List.set_cons_zero, List.set_cons_succ]
  refine early_only (i := 5) (by kernel_rfl) rfl (fun K hK => ?_)
  simp only [opWp, List.getElem?_toArray, List.getElem?_cons_succ, List.getElem?_cons_zero]
  go_simp
  go_at_call 25
  refine (set_go s.u (-1) ({ s.rt with stale := q } : Rt) H3.out.drew.nv H3.out.drew.pw H3.out.apart.1 (by have := HA.out.u; omega) (by decide) (by decide)).mono ?_
  rintro e w4 ⟨rfl, hn, hp, hb⟩
  obtain ⟨k1, k2⟩ := H3.out.drew.setStale q hq hn hp hb
  refine hK _ _ (fun _ => ?_) ?_
  · exact ⟨k1.cells.2.1, A3.out.but (But.of_drewN 1 k2) (fun e => by have := H1.out.lt _ e; omega)⟩
  · refine early_done (by kernel_rfl) ?_
    go_wp2
    go_end0
    refine ⟨rfl, k1, (B3.out.mono (fun _ h _ => h.elim)).trans (But.of_drewN 1 k2) (fun k h _ => h)⟩

theorem Arr.brk (h : Arr w P O s) : Arr (w.setCell ⟨P.a, 8, none⟩ (.bool true)) P O { s with broken := true } ∧ But O w (w.setCell ⟨P.a, 8, none⟩ (.bool true)) := by
  obtain ⟨T, hY, hO⟩ := h
  have hb := But.own w P.a 8 (.bool true)
  have off : ∀ j, j ≠ 0 → ∀ k, T j k → ¬ k = P.a := fun j hj k hk e => hj (hY.ap _ _ _ hk (e ▸ hY.t0))
  refine ⟨⟨T, ?_, hO⟩, hb.mono (fun k hk _ => (hO k).2 ⟨0, hk ▸ hY.t0⟩)⟩
  exact
    { arr := hY.arr.set 8 (.bool true)
      row := fun j hj => (hb.cell (p := ⟨P.r, j, none⟩) (hY.lt _ _ hY.t1) (off 1 (by omega) _ hY.t1)).trans (hY.row j hj)
      pw := At.but hY.pw hb (off 2 (by omega) _ hY.t2)
      nv := At.but hY.nv hb (off 3 (by omega) _ hY.t3)
      dk := fun j hj => (hY.dk j hj).but hb (off _ (by omega))
      ap := hY.ap
      t0 := hY.t0
      t1 := hY.t1
      t2 := hY.t2
      t3 := hY.t3
      lt := fun i k hk => Nat.lt_of_lt_of_le (hY.lt i k hk) hb.size
      wf := ⟨hY.wf.small, hY.wf.sect, hY.wf.some_, hY.wf.u0, hY.wf.st, hY.wf.each⟩ }

/-- A member is lost. -/
theorem lose_any (m : Nat) (hm : m < s.M) (h : Arr w P O s) (hu : s.u ≤ 990000) : Calls Tryz.prog 57 #[.pointer (some ⟨P.a, 0, none⟩), .int .i64 (m : Int)] w fun e w' => e = .returned (.int .i64 (s.loss m)) ∧ Arr w' P O (s.lose m) ∧ But O w w' := by
  have HA := Lib.hid h
  have hm2 := hm
  have hM := h.many
  clear h
  go_enter Tryz.func57, Tryz.ntmps57
  go_wp2_with fail
  refine (stale_any HA.out).mono ?_
  rintro e w1 ⟨rfl, hb⟩
  have H1 := Lib.hid (HA.out.up hb)
  have B1 := Lib.hid (But.of_below (S := O) hb)
  clear hb
  by_cases h1 : s.stale = (m : Int)
  · have E1 := Lib.hid (show s.loss m = 0 by unfold AS.loss; rw [if_pos h1])
    have E2 := Lib.hid (show s.lose m = s by unfold AS.lose; rw [if_pos h1])
    go_wp2
    go_ret
    rw [E1.out, E2.out]
    exact ⟨rfl, H1.out, B1.out⟩
  · by_cases h2 : s.stale = -1
    · have E1 := Lib.hid (show s.loss m = 0 by unfold AS.loss; rw [if_neg h1, if_pos h2])
      have E2 := Lib.hid (show s.lose m = { s with stale := (m : Int), u := s.u + 1 } by unfold AS.lose; rw [if_neg h1, if_pos h2])
      go_wp2_with fail
      refine (setStale_any (m : Int) (by omega) H1.out hu).mono ?_
      rintro e w2 ⟨rfl, k1, k2⟩
      go_wp2
      go_ret
      rw [E1.out, E2.out]
      exact ⟨rfl, k1, B1.out.trans k2 (fun _ h _ => h)⟩
    · have E1 := Lib.hid (show s.loss m = 3 by unfold AS.loss; rw [if_neg h1, if_neg h2])
      have E2 := Lib.hid (show s.lose m = { s with broken := true } by unfold AS.lose; rw [if_neg h1, if_neg h2])
      obtain ⟨c6, c7, c8⟩ := H1.out.cells
      have f8 := H1.out.frozen 8
      clear c6 c7
      go_wp2
      go_ret
      rw [E1.out, E2.out]
      obtain ⟨k1, k2⟩ := H1.out.brk
      exact ⟨rfl, k1, B1.out.trans k2 (fun _ h _ => h)⟩

end
end Go.Proofs.YtapbphkhbhcdkaaGreat
