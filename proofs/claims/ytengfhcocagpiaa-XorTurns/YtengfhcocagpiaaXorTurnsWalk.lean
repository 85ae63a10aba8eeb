/-
  THE WALK OF XorTurns: in whatever order, with whatever twice, the parity is the same.
-/
import Derived.Test.YtengfhcocagpiaaAwake
import Derived.Deep.RegionLaw
import Derived.Deep.CutRange
import Derived.Deep.CutBlock
import Derived.Deep.DeepCutAuto
namespace Go.Proofs.Ytengfhcocagpiaa
open Go.RowKit Go.Sort
set_option linter.unusedVariables false
set_option maxRecDepth 100000

theorem par_turn (L : List Sl) (i k : Nat) : par (L.drop i ++ L.take i) k = par L k := by
  rw [par_append, BitVec.xor_comm, ← par_append, List.take_append_drop]
theorem mx_turn (L : List Sl) (i : Nat) : mx (L.drop i ++ L.take i) = mx L := by
  rw [mx_append, Nat.max_comm, ← mx_append, List.take_append_drop]
theorem par_twice (T : List Sl) (x : Sl) (k : Nat) : par (T ++ [x, x]) k = par T k := by
  rw [par_append]
  simp [par]

theorem Row.heap {w w' : World} {A : Option Addr} {n : Nat} {vs : List Value} (h : Row w A n vs) (e : w'.heap = w.heap) : Row w' A n vs :=
  h.keep (by rw [e]; exact Nat.le_refl _) (fun b off _ _ k => World.cell?_of_block (by rw [e]))

theorem below_like {B : Nat} {a w w' : World} (h : Below B a w) (eh : w'.heap = w.heap) (eo : w'.os = w.os) (et : w'.tape = w.tape) (eu : w'.output = w.output) : Below B a w' :=
  ⟨eo.trans h.os, et.trans h.tape, eu.trans h.output, by rw [eh]; exact h.size, fun k hk => by rw [eh]; exact h.block k hk⟩

theorem two_row {w : World} {g : Nat} (x : Sl) (h : At w g #[x.v, x.v] 25) : Row w (some ⟨g, 0, none⟩) 2 ([x, x].map Sl.v) :=
  ⟨rfl, fun _ => ⟨g, 0, rfl, h.lt, fun k hk => by
    rw [h.cell]
    match k, hk with
    | 0, _ => rfl
    | 1, _ => rfl⟩⟩
theorem twos_mem {L : List Sl} {i : Nat} {x y : Sl} (h : y ∈ L.drop i ++ L.take i ++ [x, x]) : y ∈ L ∨ y = x := by
  rcases List.mem_append.1 h with h | h
  · rcases List.mem_append.1 h with h | h
    · exact .inl (List.mem_of_mem_drop h)
    · exact .inl (List.mem_of_mem_take h)
  · simp at h
    exact .inr h
theorem twos_has {w : World} {L : List Sl} {i : Nat} {x : Sl} (h : ∀ y ∈ L, Has w y.A y.n y.l) (hx : Has w x.A x.n x.l) : ∀ y ∈ L.drop i ++ L.take i ++ [x, x], Has w y.A y.n y.l := by
  intro y hy
  rcases twos_mem hy with hy | rfl
  · exact h y hy
  · exact hx
theorem twos_cap {L : List Sl} {i : Nat} {x : Sl} (h : ∀ y ∈ L, y.n ≤ 140737488355328) (hx : x.n ≤ 140737488355328) : ∀ y ∈ L.drop i ++ L.take i ++ [x, x], y.n ≤ 140737488355328 := by
  intro y hy
  rcases twos_mem hy with hy | rfl
  · exact h y hy
  · exact hx

/-- 'append' of slices as one step of a region that draws its order. -/
theorem step_append_ln {w : World} {ops : Array Oper} {o : Oper} {a : Act} {K : Act → World → Prop} {Q : Exit → Act → World → Prop} {E : Prop} (hgd : o.guard = none) (s x : Operand)
    (ho : o.op = .call { callee := .builtin .append, args := #[s, x], argTypes := #[22, 22] }) (base : Nat) (v : Value) (n : Nat) (L : List Sl) (hs : a.eval s = v) (hown : w.ownsRow base 25 1 v n (L.map Sl.v))
    (S : Addr) (m c : Nat) (M : List Sl) (hx : a.eval x = .slice (some S) m c) (hk : Row w (some S) m (M.map Sl.v)) (hm : n + m ≤ 5864062014805) (hbase : base ≤ w.heap.size)
    (h : ∀ A cap w', w'.ownsRow base 25 1 (.slice A (n + m) cap) (n + m) ((L ++ M).map Sl.v) → w.grownBy w' v.ownBlock → K (a.put o.dst (.slice A (n + m) cap)) w') :
    if Region.wanted o (yielded ops a.tmps) = true then Oper.wp Try.prog o a w K Q else E := by
  have hw : Region.wanted o (yielded ops a.tmps) = true := by simp [Region.wanted, hgd]
  rw [if_pos hw]
  obtain ⟨i0, hi, hz0, hz1, hz2⟩ := info_parts line_info
  have hkl : M.length = m := by have := hk.1; simpa using this
  obtain ⟨v', w', hr, h2, h3, h4, h5⟩ := run_append_own_at (P := Try.prog) w base 22 o.type 25 i0 (.slice none 0 0) 1 24 Try.underlying22 hi hz0 hz1 hz2 rfl (by decide) v n (L.map Sl.v) hown S m c (M.map Sl.v) (by simp [hkl]) hk.cells (line_one M) (by unfold maxLen; omega) (by omega) hbase
  obtain ⟨A, cap, rfl⟩ : ∃ A cap, v' = .slice A (n + m) cap := by
    rcases h2.2 with ⟨rfl, e⟩ | ⟨g, cap, cur, rfl, _⟩
    · exact ⟨none, 0, by rw [e]⟩
    · exact ⟨_, cap, rfl⟩
  unfold Oper.wp execOp
  simp only [ho, resolve, invoke, builtin, Sem.run_bind, Sem.run_pure, Result.andThen_ok, List.map_toArray, List.map_cons, List.map_nil, hs, hx, hr]
  exact h A cap w' (by rw [List.map_append]; exact h2) h3

theorem turns_walk (A : Option Addr) (n c : Nat) (L : List Sl) (k : Int) (hk : 0 ≤ k ∧ k ≤ 255) (A2 : Option Addr) (n2 c2 : Nat) (l2 : List (BitVec 8)) (w : World) (h : Ln w A n L) (hfew : n ≤ 5864062014634) (hc1 : n ≤ c) (hc2 : c ≤ maxLen) (h2 : Has w A2 n2 l2) (hn2 : n2 ≤ 140737488351232) :
    Calls Try.prog 7 #[.slice A n c, .int .u8 k, .slice A2 n2 c2] w fun e w' => e = .returned (.bool true) ∧ Below w.heap.size w w' := by
  have hc2 : c ≤ 9223372036854775807 := hc2
  obtain ⟨kn, rfl⟩ : ∃ kn : Nat, k = (kn : Int) := ⟨k.toNat, by omega⟩
  have H := Lib.hid h
  have H2 := Lib.hid h2
  clear h h2
  generalize hB : w.heap.size = B
  go_enter Try.func7, Try.ntmps7
  go_wp2_with fail
  refine (awake_any w).mono ?_
  rintro e w1 ⟨rfl, hb⟩
  have H := Lib.hid (H.out.below hb)
  have H2 := Lib.hid (H2.out.below hb)
  rw [hB] at hb
  have B1 := Lib.hid hb
  clear hb
  go_wp2_with fail
  refine (light_any A n c L w1 H.out).mono ?_
  rintro e w2 ⟨⟨lt, rfl⟩, rfl⟩
  cases lt
  · go_wp2
    go_ret
    exact ⟨rfl, B1.out⟩
  by_cases h0 : n = 0
  · subst h0
    go_wp2
    go_ret
    exact ⟨rfl, B1.out⟩
  have hne : ((n : Int) == 0) = false := by simp; omega
  by_cases h100 : 100 < n2
  · have hd : decide ((100 : Int) < (n2 : Int)) = true := decide_eq_true (by omega)
    go_wp2
    go_ret
    exact ⟨rfl, B1.out⟩
  have hd : decide ((100 : Int) < (n2 : Int)) = false := decide_eq_false (by omega)
  obtain ⟨i, hix⟩ : ∃ i : Nat, i = kn % n := ⟨_, rfl⟩
  have hil : i < n := by rw [hix]; exact Nat.mod_lt _ (by omega)
  have hii : (kn : Int) % (n : Int) = (i : Int) := by rw [hix]; rfl
  go_upto_region 6 with (fail)
  try simp only [hii]
  clear hne hd hii hix
  obtain ⟨b, off, rfl⟩ := H.out.row.some_ (by omega)
  have R1 := Lib.hid (show Row w2 (some ⟨b, off + i, none⟩) (n - i) ((L.drop i).map Sl.v) by rw [List.map_drop]; exact H.out.row.drop i (by omega))
  have R2 := Lib.hid (show Row w2 (some ⟨b, off, none⟩) i ((L.take i).map Sl.v) by rw [List.map_take]; exact H.out.row.take i (by omega))
  go_cut [8] from 34 to 41 (fun v wx => ∃ A3 c3, v = .slice A3 n c3 ∧ wx.ownsRow w2.heap.size 25 1 v n ((L.drop i ++ L.take i).map Sl.v) ∧ Below w2.heap.size w2 wx)
  case first =>
    have hin : i ≤ n := by omega
    have hci : ¬ c = i := by omega
    have hic : i ≤ c := by omega
    go_region_law (first
      | (refine step_append_ln rfl (.tmp 37) (.tmp 40) rfl w2.heap.size v3 (n - i) (L.drop i) rfl hown3 ⟨b, off, none⟩ i c (L.take i) rfl ((R2.out.heap (w' := w2.drew) (by rfl)).below hb3) (by omega) (by have := hb3.size; simpa using this) ?_; intro A4 c4 w4 hown4 hg4)
      | (go_simp; go_at_call 15; refine (clone_any ⟨b, off + i, none⟩ (n - i) (c - i) (L.drop i) _ (by omega) (R1.out.heap (by rfl))).mono ?_; rintro e w3 ⟨v3, rfl, hown3, hb3⟩)
      | fail)
    all_goals
      rw [Nat.sub_add_cancel hin] at hown4
      have OW := Lib.hid hown4
      have B3 := Lib.hid (show Below w2.heap.size w2 w4 from ((below_like (w' := w2.drew) (Below.refl w2.heap.size w2) rfl rfl rfl rfl).trans (hb3.mono (Nat.le_refl _))).grown hg4 (by have := hb3.size; simpa using this) (fun k hk => by have := (hown3.lt k hk).1; simpa using this))
      clear hown4 hg4 hown3 hb3
      go_wp2_with fail
      go_meet
      case rel => exact ⟨A4, c4, rfl, OW.out, B3.out⟩
  case rest =>
    obtain ⟨A3, c3, rfl, hO, hW⟩ := hcut
    have OW := Lib.hid hO
    have B3 := Lib.hid hW
    clear hO hW R1 R2
    have LN := Lib.hid (H.out.below B3.out)
    have H2' := Lib.hid H2.out
    have hml := Lib.hid (show mx L ≤ 140737488355328 by have := H.out.mx_le n; rw [H.out.all] at this; exact this)
    have LL := Lib.hid H.out.len
    go_wp2_with fail
    refine (of_any _ n c L wc LN.out).mono ?_
    rintro e w5 ⟨rfl, hA5, hb5⟩
    generalize hG : wc.heap.size = g5 at *
    have A5 := Lib.hid hA5
    have B5 := Lib.hid hb5
    clear hA5 hb5
    have NB := Lib.hid (show But (fun _ => False) wc (w5.alloc (.cells #[.slice A2 n2 c2, .slice A2 n2 c2] 25)) from (But.of_below (by rw [hG]; exact B5.out)).alloc _)
    have U3 := Lib.hid (up B3.out rfl)
    go_wp2_with (at_builtin; refine wpList_append_ln rfl (.tmp 44) (.tmp 47) rfl w2.heap.size (.slice A3 n c3) n (L.drop i ++ L.take i) rfl (own_but OW.out NB.out (fun _ _ h => h)) ⟨w5.heap.size, 0, none⟩ 2 2 [⟨A2, n2, c2, l2⟩, ⟨A2, n2, c2, l2⟩] rfl (two_row ⟨A2, n2, c2, l2⟩ (At.new #[_, _] 25 rfl)) (by omega) (by have := U3.out; have := NB.out.size; omega) ?_; intro A6 c6 w6 hown6 hg6 hf6; have B6 := Lib.hid (show Below w2.heap.size w2 w6 from (B3.out.trans (NB.out.below (B := w2.heap.size) (fun k h => h.elim) U3.out)).grown hg6 (by have := U3.out; have := NB.out.size; omega) (fun k hk => (OW.out.lt k hk).1)); have A6' := Lib.hid (show At w6 g5 (tabA (mx L) (par L)) 5 from (A5.out.alloc _).but (But.grown (S := fun k => (Value.slice A3 n c3).ownBlock = some k) (But.refl _ _) hg6 (fun k hk _ => hk)) (fun e => by have := (OW.out.lt _ e).2; omega)); have OW6 := Lib.hid hown6; clear hown6 hg6 hf6)
    obtain ⟨A7, c7, e7, hL7⟩ := Ln.of_own OW6.out (twos_has (fun x hx => (H.out.has x hx).below B6.out) (H2'.out.below B6.out)) (twos_cap H.out.cap (by show n2 ≤ _; omega)) (by omega)
    injection e7 with e7 _ e8
    subst e7 e8
    have L7 := Lib.hid hL7
    have B7 := Lib.hid (B1.out.trans (B6.out.mono (up B1.out hB.symm)))
    clear hL7 NB OW6 OW A5 B5 B3 B6 LN U3 hG
    generalize hT : L.drop i ++ L.take i ++ [⟨A2, n2, c2, l2⟩, ⟨A2, n2, c2, l2⟩] = T at *
    have PT := Lib.hid (show ∀ q, par T q = par L q by intro q; rw [← hT, par_twice, par_turn])
    clear hT
    have hmt := Lib.hid (show mx T ≤ 140737488355328 by have := L7.out.mx_le (n + 2); rw [L7.out.all] at this; exact this)
    try go_wp2_with fail
    refine (of_any _ (n + 2) c6 T w6 L7.out).mono ?_
    rintro e w8 ⟨rfl, hA8, hb8⟩
    have A8 := Lib.hid hA8
    have A5 := Lib.hid (A6'.out.below hb8 A6'.out.lt)
    have B8 := Lib.hid (B7.out.trans (hb8.mono (up B7.out hB.symm)))
    clear hA8 hb8 A6' B7 L7 H H2'
    generalize w6.heap.size = g8 at *
    have Z1 := Lib.hid (fun q (h : mx L ≤ q) => par_ge h)
    have Z2 := Lib.hid (fun q (h : mx T ≤ q) => (PT.out q).symm.trans (par_ge h))
    generalize mx L = ma at *
    generalize mx T = mb at *
    have hma := hml.out
    have hmb := hmt.out
    obtain ⟨M, hM⟩ : ∃ M : Nat, M = max ma mb := ⟨_, rfl⟩
    have hmx := fun (w : World) => run_max2 (P := Try.prog) w #[3, 3] 3 (ma : Int) (mb : Int) (M : Int) (by omega)
    have hMM : M ≤ 140737488355328 := by omega
    have HM := Lib.hid hM
    clear hM
    go_wp2_with fail
    clear hmx
    go_loopw [55] (fun v wx => ∃ q : Nat, q ≤ M ∧ v = .int .i64 q ∧ wx = w8) (fun v _ => M - (intOf v).toNat)
    case atStart => exact ⟨0, Nat.zero_le _, rfl, rfl⟩
    case round =>
      obtain ⟨q, hq, rfl, rfl⟩ := hrel
      by_cases hlt : q < M
      · by_cases h1 : q < ma
        · have hc1 : wr.cell? ⟨g5, q, none⟩ = some (.int .u8 ((par L q).toNat : Int)) := by rw [A5.out.cell q, tabA_get _ _ h1]
          by_cases h2 : q < mb
          · have hc2 : wr.cell? ⟨g8, q, none⟩ = some (.int .u8 ((par L q).toNat : Int)) := by rw [A8.out.cell q, tabA_get _ _ h2, PT.out]
            go_wp2
            go_roundw
            case rel => exact ⟨q + 1, by omega, by go_num, trivial⟩
            case measure => simp [intOf]; omega
          · have hz := Z2.out q (by omega)
            rw [hz] at hc1
            have hc1 : wr.cell? ⟨g5, q, none⟩ = some (.int .u8 0) := hc1
            clear hz
            go_wp2
            go_roundw
            case rel => exact ⟨q + 1, by omega, by go_num, trivial⟩
            case measure => simp [intOf]; omega
        · have h2 : q < mb := by have := HM.out; omega
          have hc2 : wr.cell? ⟨g8, q, none⟩ = some (.int .u8 0) := by rw [A8.out.cell q, tabA_get _ _ h2, PT.out, Z1.out q (by omega)]; rfl
          go_wp2
          go_roundw
          case rel => exact ⟨q + 1, by omega, by go_num, trivial⟩
          case measure => simp [intOf]; omega
      · go_wp2
        go_ret
        exact ⟨rfl, B8.out⟩

end Go.Proofs.Ytengfhcocagpiaa
