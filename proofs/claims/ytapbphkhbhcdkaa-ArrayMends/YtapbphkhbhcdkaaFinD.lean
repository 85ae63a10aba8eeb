/-
  THE WALK OF Finish; what is kept while a member is made anew.
-/
import Derived.Test.YtapbphkhbhcdkaaFillM
import Derived.Test.YtapbphkhbhcdkaaSameW
namespace Go.Proofs.Ytapbphkhbhcdkaa
open Go.RowKit Go.Maps
set_option linter.unusedVariables false
set_option maxRecDepth 100000

/-- The first member that is current, m being none. -/
def fst (m : Nat) : Nat := if m = 0 then 1 else 0
theorem AS.Wf.few {s : AS} (h : s.Wf) : pgs s.b s.g s.l ≤ 200 := by
  have hb := h.small.hb
  have hg := h.small.hg
  have hl := h.small.hl
  unfold pgs
  exact Int.le_trans (Int.ediv_le_self _ (by omega)) (by omega)
theorem fillR_congr {R R' : Int → Bytes} {lo : Int} {l : List Bytes} (h : ∀ x, R x = R' x) (x : Int) : fillR R lo l x = fillR R' lo l x := by
  unfold fillR
  split
  · rfl
  · exact h x
/-- Some sectors were read, of the first member that is current. -/
def Sames (s : AS) (m : Nat) (l : List Bytes) (s' : AS) : Prop := Rel (fun _ => Aged) (4 * (l.length : Int)) s s' ∧ s'.stale = (m : Int) ∧ l = (List.range l.length).map (fun i : Nat => (s.d (fst m)).read (1 + (i : Int)))
theorem enters22 (a : Nat) (i : Int) (w : World) : (callFunc 22 (#[ptr a].push (.int .i64 i) ++ #[])).run Try.prog w = .ok (.enter 22 (#[ptr a].push (.int .i64 i) ++ #[])) w := by kernel_rfl
section
variable {w w' : World} {P : Pl} {O : Nat → Prop} {s s1 s' : AS}
theorem sames_read (m : Nat) (l : List Bytes) (hm : m < s.M) (i : Int) (hi : 0 ≤ i ∧ i < (s.S : Int)) (he : i = 1 + (l.length : Int)) (h400 : l.length ≤ 400) (hu : s.u ≤ 600000) (hst : s.stale = (m : Int)) (hJ : Sames s m l s1) (h : Arr w P O s1) :
    Calls Try.prog 22 #[ptr P.a, .int .i64 i] w (Reads P O (Sames s m) (fun er s' => er = 3 ∧ Gone 2000 s s') l w) := by
  obtain ⟨hr, hs, hl⟩ := hJ
  have sm := hr.same
  have hM := h.many
  refine (Same_any i (by rw [sm.S]; exact hi) h (by have := hr.u.2; omega)).mono ?_
  rintro e w2 ⟨v, er, s2, rfl, k1, k2, k3⟩
  cases k3 with
  | gone hg => exact ⟨_, 3, s2, rfl, k1, k2, .inr ⟨by decide, rfl, (hr.gone hg).mono (by omega)⟩⟩
  | got v mm hmm hr2 hv hl2 =>
    have st2 : s2.stale = (m : Int) := by
      rcases hr2.stale with e | ⟨e, _⟩
      · rw [e]; exact hs
      · omega
    have ef : mm = fst m := by
      unfold fst
      rcases hmm with ⟨e, _, e2⟩ | ⟨e, e2⟩
      · rw [if_neg (by omega)]; exact e
      · rw [if_pos (by omega)]; exact e
    have hfm : mm < s.M := by
      rw [sm.M] at hM
      rcases hmm with ⟨e, _⟩ | ⟨e, _⟩ <;> omega
    have hlen := h.len (m := mm) (by rw [sm.M]; exact hfm) i
    have b48 := h.wf.small.hb
    rw [(hr.disk mm hfm).read] at hv hlen
    obtain ⟨A, c, rfl, hh, _, hlt⟩ := own_form hv
    refine ⟨_, 0, s2, rfl, k1, k2, .inl ⟨rfl, A, _, c, _, rfl, hh, by omega, hlt, ?_, st2, ?_⟩⟩
    · refine (hr.aged2 hr2).mono (fun _ _ _ _ h => h) ?_
      simp
      omega
    · rw [List.length_append, List.length_singleton, List.range_succ, List.map_append, ← hl, ef, he]
      rfl

/-- What Finish comes to: first in front, what is the same behind; a label's sector is first. -/
inductive FinAs (m : Nat) (first : Bytes) (s s' : AS) : Int → Prop
  | gone (hg : Gone 2000 s s') : FinAs m first s s' 3
  | dead (s1 : AS) (hr : Rel (fun _ => Aged) 1600 s s1) (hs : s1.stale = (m : Int)) (same : s' = { s1 with d := s'.d, u := s'.u }) (other : ∀ j, j ≠ m → s'.d j = s1.d j) (hu : s.u ≤ s'.u ∧ s'.u ≤ s.u + 2100) (hd : (s'.d m).dead = true) (why : (s1.d m).dead = true ∨ 0 ≤ (s1.d m).failAt) : FinAs m first s s' 8
  | done (s1 : AS) (l : List Bytes) (hr : Rel (fun _ => Aged) 1600 s s1) (hs : s1.stale = (m : Int)) (hl : l = (List.range (2 * pgs s.b s.g s.l).toNat).map (fun i : Nat => (s.d (fst m)).read (1 + (i : Int)))) (same : s' = { s1 with d := s'.d, u := s'.u, stale := -1 }) (other : ∀ j, j ≠ m → s'.d j = s1.d j) (hu : s.u ≤ s'.u ∧ s'.u ≤ s.u + 2100)
      (turns : Turns (fillR (fillR (s1.d m).read 1 l) 0 [first]) (s1.d m) (s'.d m)) (hd : (s'.d m).dead = false) : FinAs m first s s' 0

set_option maxHeartbeats 3200000 in
theorem Finish_any (m : Nat) (hm : m < s.M) (hst : s.stale = (m : Int)) (hbr : s.broken = false) (A : Option Addr) (n c : Nat) (b : Bytes) (hn : (n : Int) = s.b) (hl : Has w A n b) (hA : ∀ x, A = some x → ¬ O x.block) (h : Arr w P O s) (hu : s.u ≤ 600000) :
    Calls Try.prog 29 #[ptr P.a, .slice A n c] w fun e w' => ∃ er s', e = .returned (.int .i64 er) ∧ Did w P O s' w' ∧ FinAs m b s s' er := by
  have HA := Lib.hid h
  have HS := Lib.hid hst
  have HB := Lib.hid hbr
  have HL := Lib.hid hl
  have HN := Lib.hid hn
  have HX := Lib.hid hA
  have b48 := Lib.hid h.wf.small.hb
  have FEW := Lib.hid h.wf.few
  have SE := Lib.hid h.wf.sect
  have SO := Lib.hid h.wf.some_
  have NN := Lib.hid h.wf.n
  have hmf : ∀ (fn : Fn) (first cap : Array Value) (w : World), (Instr.makeFunc fn first cap).run Try.prog w = .ok (.func fn first cap) w := fun _ _ _ _ => rfl
  clear h hst hbr hl hn hA
  go_enter Try.func29, Try.ntmps29
  go_wp2_with fail
  have L1 := Lib.hid (Ln.one_new (c := c) HL.out (by have := HN.out; have := b48.out; omega))
  have A1 := Lib.hid (HA.out.alloc (.cells #[.slice A n c] 46))
  have B1 := Lib.hid ((But.refl O w).alloc (.cells #[.slice A n c] 46))
  refine (blocks_any (some ⟨w.heap.size, 0, none⟩) 1 1 _ A1.out L1.out).mono ?_
  rintro e w1 ⟨rfl, hbl⟩
  have A2 := Lib.hid (A1.out.up hbl)
  have B2 := Lib.hid (B1.out.trans (But.of_below (S := fun _ => False) hbl) (fun _ h _ => h.elim))
  rw [decide_eq_true (show Fits [⟨A, n, c, b⟩] s.b from fun x hx => by simp at hx; subst hx; exact HN.out)]
  clear hbl A1 B1 L1
  go_wp2_with fail
  refine (mendable_any A2.out).mono ?_
  rintro e w3 ⟨rfl, hbl⟩
  have A3 := Lib.hid (A2.out.up hbl)
  have B3 := Lib.hid (B2.out.trans (But.of_below (S := fun _ => False) hbl) (fun _ h _ => h.elim))
  rw [show (if s.broken = true then (3 : Int) else if s.stale = -1 then 10 else 0) = 0 by rw [if_neg (by rw [HB.out]; simp), if_neg (by have := HS.out; omega)]]
  obtain ⟨c0, c1, c2, c3, c4, c5⟩ := A3.out.shape
  clear hbl A2 B2
  go_wp2_with fail
  refine (at_call A3.out.wf 0 (by omega) _).mono ?_
  rintro e w4 ⟨rfl, hbl⟩
  have A4 := Lib.hid (A3.out.up hbl)
  have B4 := Lib.hid (B3.out.trans (But.of_below (S := fun _ => False) hbl) (fun _ h _ => h.elim))
  clear hbl c0 c1 c2 c3 c4 c5 A3 B3
  obtain ⟨many, hmany⟩ : ∃ many : Nat, (many : Int) = 2 * pgs s.b s.g s.l := ⟨(2 * pgs s.b s.g s.l).toNat, by have := SO.out; omega⟩
  have MN := Lib.hid hmany
  have m400 := Lib.hid (show many ≤ 400 by have := FEW.out; omega)
  have ea : s.at_ 0 = 1 + (many : Int) := by unfold AS.at_; rw [hmany]; omega
  rw [ea]
  clear hmany ea
  go_wp2_with fail
  refine (collect_any 22 #[ptr P.a] #[] 1 many (Sames s m) (fun er s' => er = 3 ∧ Gone 2000 s s') (fun _ => True) (by omega) (by have := m400.out; omega) (enters22 P.a) (fun _ _ _ _ _ _ => trivial)
    (fun i l w s1 h _ hJ he hlt => sames_read m l hm i (by have := SE.out; have := MN.out; have := NN.out; unfold AS.N at this; omega) he (by have := m400.out; omega) (by omega) HS.out hJ h) A4.out trivial ⟨Rel.refl (fun _ _ => Aged.refl _) HB.out (by simp), HS.out, rfl⟩).mono ?_
  rintro e w5 ⟨v, er, s1, rfl, k1, k2, k3⟩
  have A5 := Lib.hid k1
  have B5 := Lib.hid (B4.out.trans k2 (fun _ h _ => h))
  have Z4 := Lib.hid A4.out.lt
  clear k1 k2 hmf
  rcases k3 with ⟨rfl, L, hcl, hll, hr, hs, hlm⟩ | ⟨hne, rfl, rfl, hg⟩
  · obtain ⟨A6, c6, rfl, hln⟩ := hcl.ln (by have := m400.out; omega)
    have HR := Lib.hid (show Rel (fun _ => Aged) 1600 s s1 from hr.mono (fun _ _ _ _ h => h) (by have := m400.out; simp; omega))
    have HS1 := Lib.hid hs
    have LM := Lib.hid (show L.map Sl.l = (List.range (2 * pgs s.b s.g s.l).toNat).map (fun i : Nat => (s.d (fst m)).read (1 + (i : Int))) by
      rw [hlm, List.length_map, hll, show (2 * pgs s.b s.g s.l).toNat = many by have := MN.out; omega])
    have fm : fst m < s.M := by have := A4.out.many; unfold fst; split <;> omega
    have FT := Lib.hid (show Fits L s1.b from fun x hx => by
      have h1 : x.l ∈ L.map Sl.l := List.mem_map.2 ⟨x, hx, rfl⟩
      rw [hlm] at h1
      obtain ⟨i, _, hi⟩ := List.mem_map.1 h1
      have h2 := A4.out.len fm (1 + (i : Int))
      rw [hi] at h2
      rw [← (hcl.has x hx).1, hr.same.b]
      exact h2)
    have CA := Lib.hid (show ∀ x, A6 = some x → ¬ O x.block from fun x hx e => by subst hx; have := (hcl.own.lt x.block rfl).1; have := Z4.out _ e; omega)
    have CO := Lib.hid (show ∀ x ∈ L, ∀ a, x.A = some a → ¬ O a.block from fun x hx a ha e => by have := (hcl.off x hx a ha).2.1; have := Z4.out _ e; omega)
    have HLN := Lib.hid hln
    have LEN := Lib.hid hll
    clear hcl hr hs hlm hln hll fm Z4
    have sm1 := HR.out.same
    have hm1 : m < s1.M := by rw [sm1.M]; exact hm
    have S1 := Lib.hid (show (s1.S : Int) = 1 + 2 * pgs s.b s.g s.l + s.N ∧ 8 ≤ s.N ∧ s.N ≤ 18 ∧ (many : Int) = 2 * pgs s.b s.g s.l ∧ s1.u ≤ s.u + 1600 ∧ s.u ≤ s1.u by
      rw [sm1.S]
      have h1 := SE.out
      have h2 := NN.out
      unfold AS.N at h2 ⊢
      exact ⟨h1, h2.1, h2.2, MN.out, HR.out.u.2, HR.out.u.1⟩)
    clear sm1 SE NN MN FEW
    go_wp2_with fail
    refine (stale_any A5.out).mono ?_
    rintro e w6 ⟨rfl, hbl⟩
    have A6' := Lib.hid (A5.out.up hbl)
    have B6 := Lib.hid (B5.out.trans (But.of_below (S := fun _ => False) hbl) (fun _ h _ => h.elim))
    have HLN6 := Lib.hid (HLN.out.below hbl)
    rw [HS1.out]
    clear hbl HLN B5 A5
    go_wp2_with fail
    refine (fill_any m hm1 1 A6 L.length c6 L (by have := S1.out; have := LEN.out; omega) (by have := S1.out; have := m400.out; omega) (by have := LEN.out; have := m400.out; omega) HLN6.out FT.out CA.out CO.out A6'.out (by have := S1.out; omega)).mono ?_
    rintro e w7 ⟨er1, s2, rfl, hD, hf⟩
    have F1 := Lib.hid hf
    have D7 := Lib.hid hD
    have U2 := Lib.hid (show s1.u ≤ s2.u ∧ s2.u ≤ s1.u + 400 by have := hf.u; rw [List.length_map] at this; have := LEN.out; have := m400.out; omega)
    have L0 := Lib.hid (show 0 < (L.map Sl.l).length by rw [List.length_map, LEN.out]; have := S1.out; have := SO.out; omega)
    have E1 := hf.er
    clear hD hf HLN6 FT CA CO A6'
    rcases E1 with ⟨rfl, al⟩ | ⟨rfl, dd⟩
    · have AL := Lib.hid (al L0.out)
      clear al
      obtain ⟨O2, k1, k2, k3⟩ := D7.out
      have A7 := Lib.hid k1
      have O2H := Lib.hid (show ∀ k, O2 k → O k ∨ w.heap.size ≤ k from fun k hk => (k2 k hk).imp id (fun h => Nat.le_trans B6.out.size h))
      have B7 := Lib.hid (show But O w w7 from B6.out.trans k3 (fun k hk _ => hk))
      have HL7 := Lib.hid (HL.out.but B7.out HX.out)
      have HX7 := Lib.hid (show ∀ x, A = some x → ¬ O2 x.block from fun x hx e => by
        rcases O2H.out _ e with h | h
        · exact HX.out x hx h
        · have n0 : 0 < n := by have := HN.out; have := b48.out; omega
          obtain ⟨bb, off, e2, hlt, _⟩ := HL.out.2 n0
          rw [hx] at e2
          injection e2 with e2
          subst e2
          simp at h
          omega)
      clear k1 k2 k3 D7 B6
      go_wp2_with fail
      have A8 := Lib.hid (A7.out.alloc (.cells #[.slice A n c] 46))
      have L8 := Lib.hid (Ln.one_new (c := c) HL7.out (by have := HN.out; have := b48.out; omega))
      have sm2 := F1.out.same_
      refine (fill_any m (by rw [sm2.M]; exact hm1) 0 (some ⟨w7.heap.size, 0, none⟩) 1 1 [⟨A, n, c, b⟩] (by rw [sm2.S]; have := S1.out; have := SO.out; omega) (by rw [sm2.S]; have := S1.out; have := m400.out; omega) (by omega) L8.out
        (fun x hx => by simp at hx; subst hx; show (n : Int) = _; rw [sm2.b, HR.out.same.b]; exact HN.out) (fun x hx e => by injection hx with hx; subst hx; have := A7.out.lt _ e; simp at this) (fun x hx a ha => by simp at hx; subst hx; exact HX7.out a ha) A8.out (by have := S1.out; have := U2.out; omega)).mono ?_
      rintro e w8 ⟨er2, s3, rfl, hD, hf⟩
      have F2 := Lib.hid hf
      obtain ⟨O3, k1, k2, k3⟩ := hD
      have A9 := Lib.hid k1
      have O3H := Lib.hid (show ∀ k, O3 k → O k ∨ w.heap.size ≤ k from fun k hk => (k2 k hk).elim (O2H.out k) (fun h => .inr (by have := B7.out.size; simp at h; omega)))
      have B9 := Lib.hid (show But O w w8 from (B7.out.alloc (.cells #[.slice A n c] 46)).trans k3 (fun k hk hlt => (O2H.out k hk).elim id (fun h => by omega)))
      have E2 := hf.er
      have U3 := Lib.hid (show s2.u ≤ s3.u ∧ s3.u ≤ s2.u + 1 by have := hf.u; simpa using this)
      clear k1 k2 k3 hf A7 A8 L8 HL7 HX7 sm2
      have SAME3 := Lib.hid (show s3 = { s1 with d := s3.d, u := s3.u } by rw [F2.out.same, F1.out.same])
      have OTH3 := Lib.hid (show ∀ j, j ≠ m → s3.d j = s1.d j from fun j hj => (F2.out.other j hj).trans (F1.out.other j hj))
      rcases E2 with ⟨rfl, al⟩ | ⟨rfl, dd⟩
      · have AL3 := Lib.hid (al (by simp))
        clear al
        obtain ⟨c6', c7', c8'⟩ := A9.out.cells
        have hm3 : m < s3.M := by rw [F2.out.same_.M, F1.out.same_.M]; exact hm1
        have cr := A9.out.row hm3
        have m2 : (m : Int) < (s3.M : Int) := by omega
        have hmeth := meth_flush
        clear c7' c8'
        go_wp2_with fail
        refine (dflush m hm3 A9.out (by have := S1.out; have := U2.out; have := U3.out; omega)).mono ?_
        rintro e w9 ⟨rfl, k1, k2⟩
        have A10 := Lib.hid k1
        have B10 := Lib.hid (show But O w w9 from B9.out.trans k2 (fun k hk hlt => (O3H.out k hk).elim id (fun h => by omega)))
        have TF := fl_turns (s3.d m) s3.u
        have FD := fl_dead (s3.d m) s3.u
        clear k1 k2 c6' cr hmeth m2
        cases hdd : ((s3.d m).op s3.u).dead with
        | true =>
          rw [hdd] at FD
          have X := Lib.hid (show FinAs m b s (s3.turn m ((s3.d m).fl s3.u)) 8 from .dead s1 HR.out HS1.out (by rw [SAME3.out]; rfl) (fun j hj => by rw [turn_d, if_neg hj]; exact OTH3.out j hj) (by have := S1.out; have := U2.out; have := U3.out; show s.u ≤ s3.u + 1 ∧ s3.u + 1 ≤ s.u + 2100; omega) (by rw [turn_d, if_pos rfl]; exact FD) (((F1.out.turns.trans F2.out.turns).trans TF).why FD))
          rw [show err true = 8 from rfl]
          clear TF FD hdd
          go_wp2
          go_ret
          exact ⟨8, _, rfl, ⟨O3, A10.out, O3H.out, B10.out⟩, X.out⟩
        | false =>
          rw [hdd] at FD
          rw [show err false = 0 from rfl]
          have TR := Lib.hid (((F1.out.turns.trans (F2.out.turns.congr (R' := fillR (fillR (s1.d m).read 1 (L.map Sl.l)) 0 [b]) (fun e x => fillR_congr (l := [b]) (F1.out.turns.read AL.out) x))).trans TF).congr (R' := fillR (fillR (s1.d m).read 1 (L.map Sl.l)) 0 [b]) (fun e x => (F2.out.turns.read AL3.out x).trans (fillR_congr (l := [b]) (F1.out.turns.read AL.out) x)))
          have FDH := Lib.hid FD
          clear TF FD hdd
          go_wp2_with fail
          refine (setStale_any (-1) (by have := A10.out.many; omega) A10.out (by have := S1.out; have := U2.out; have := U3.out; show s3.u + 1 ≤ 990000; omega)).mono ?_
          rintro e w10 ⟨rfl, k1, k2⟩
          have B11 := Lib.hid (show But O w w10 from B10.out.trans k2 (fun k hk hlt => (O3H.out k hk).elim id (fun h => by omega)))
          have X := Lib.hid (show FinAs m b s { (s3.turn m ((s3.d m).fl s3.u)) with stale := -1, u := (s3.turn m ((s3.d m).fl s3.u)).u + 1 } 0 from
            .done s1 _ HR.out HS1.out LM.out (by rw [SAME3.out]; rfl) (fun j hj => by show (s3.turn m _).d j = _; rw [turn_d, if_neg hj]; exact OTH3.out j hj) (by have := S1.out; have := U2.out; have := U3.out; show s.u ≤ s3.u + 1 + 1 ∧ s3.u + 1 + 1 ≤ s.u + 2100; omega)
              (by show Turns _ _ ((s3.turn m _).d m); rw [turn_d, if_pos rfl]; exact TR.out) (by show ((s3.turn m _).d m).dead = false; rw [turn_d, if_pos rfl]; exact FDH.out))
          have A11 := Lib.hid k1
          clear k1 k2 TR FDH
          go_wp2
          go_ret
          exact ⟨0, _, rfl, ⟨O3, A11.out, O3H.out, B11.out⟩, X.out⟩
      · have X := Lib.hid (show FinAs m b s s3 8 from .dead s1 HR.out HS1.out SAME3.out OTH3.out (by have := S1.out; have := U2.out; have := U3.out; omega) dd ((F1.out.turns.trans F2.out.turns).why dd))
        clear dd
        go_wp2
        go_ret
        exact ⟨8, s3, rfl, ⟨O3, A9.out, O3H.out, B9.out⟩, X.out⟩
    · have X := Lib.hid (show FinAs m b s s2 8 from .dead s1 HR.out HS1.out F1.out.same F1.out.other (by have := S1.out; have := U2.out; omega) dd (F1.out.turns.why dd))
      have D8 := Lib.hid (D7.out.trans (O := O) (w := w) (fun _ h => .inl h) B6.out)
      clear dd D7
      go_wp2
      go_ret
      exact ⟨8, s2, rfl, D8.out, X.out⟩
  · have X := Lib.hid (show FinAs m b s s1 3 from .gone hg)
    clear hg hne
    go_wp2
    go_ret
    exact ⟨3, s1, rfl, ⟨O, A5.out, fun _ h => .inl h, B5.out⟩, X.out⟩
end

/-- Member k is not current; all others are, and do not fail. -/
structure KD (k : Nat) (s : AS) (H : Hv) : Prop where
  sound : Sound k s
  inv : Inv s H
  stale : s.stale = (k : Int)
  lt : k < s.M
section
variable {w w' : World} {P : Pl} {O : Nat → Prop} {s s' : AS} {H : Hv} {k : Nat} {c er i : Int} {b : Bytes}
theorem KD.rel (h : KD k s H) (hr : Rel (fun _ => Aged) c s s') : KD k s' H :=
  ⟨hr.sound k h.sound, inv_read h.inv hr, by
    rcases hr.stale with e | ⟨e, _⟩
    · rw [e]; exact h.stale
    · have := h.stale; omega, by rw [hr.same.M]; exact h.lt⟩
theorem KD.no (h : KD k s H) (hg : Gone c s s') : False := hg.unsound k h.sound
theorem read_dead {k : Nat} : ReadInv false (KD k) where
  right := fun s H h _ => h.inv
  read := fun s s' H h hr => h.rel hr
  gone := fun s s' H h hg => absurd h.sound (hg.unsound k)
/-- What the others are stays; k's disk is another one. -/
theorem KD.only (h : KD k s H) (sm : Same s s') (hs : s'.stale = s.stale) (hb : s'.broken = s.broken) (ho : ∀ j, j ≠ k → s'.d j = s.d j) : KD k s' H :=
  ⟨⟨hb.trans h.sound.whole, by rw [hs]; exact h.sound.stale, fun j hj hne => by rw [ho j hne]; rw [sm.M] at hj; exact h.sound.live j hj hne⟩, fun j hj hne t f h0 h1 hf => by
    rw [hs, h.stale] at hne
    rw [sm.M] at hj
    rw [sm.N] at h1
    rw [sm.M, sm.b, sm.at_, ho j (by omega)]
    exact h.inv j hj (by rw [h.stale]; exact hne) t f h0 h1 hf, by rw [hs]; exact h.stale, by rw [sm.M]; exact h.lt⟩
theorem kd_mend (h : KD k s H) (hm : MendAs k i s s' er) : KD k s' H ∧ Same s s' ∧ s'.u ≤ s.u + 20 ∧ ((s.d k).dead = true → er = 8 ∧ (s'.d k).dead = true) ∧ (Live (s.d k) → er = 0 ∧ Live (s'.d k)) := by
  cases hm with
  | gone hg => exact (h.no hg).elim
  | done er s1 hr hs hf =>
    have h1 := h.rel hr
    have h2 := h1.only hf.same_ hf.stale hf.broken hf.other
    have hu := hf.u.2
    have hu1 := hr.u.2
    have ha := hr.disk k h.lt
    refine ⟨h2, hr.same.trans hf.same_, by simp at hu; omega, fun hd => ?_, fun hl => ?_⟩
    · have hd2 := hf.turns.dies (ha.dies hd)
      rcases hf.er with ⟨_, e⟩ | ⟨e, _⟩
      · have := e (by simp); rw [hd2] at this; cases this
      · exact ⟨e, hd2⟩
    · have e1 := ha.live hl
      have hl2 := (hf.turns.live (by rw [e1]; exact hl)).1
      rcases hf.er with ⟨e, _⟩ | ⟨_, e⟩
      · exact ⟨e, hl2⟩
      · rw [hl2.1] at e; cases e
theorem kd_fin (h : KD k s H) (hm : FinAs k b s s' er) (hd : (s.d k).dead = true) : er = 8 ∧ KD k s' H ∧ Same s s' ∧ s'.u ≤ s.u + 2100 ∧ (s'.d k).dead = true := by
  cases hm with
  | gone hg => exact (h.no hg).elim
  | dead s1 hr hs same other hu hd' _ =>
    have sm : Same s1 s' := by unfold Same; rw [same]
    exact ⟨rfl, (h.rel hr).only sm (by rw [same]) (by rw [same]) other, hr.same.trans sm, hu.2, hd'⟩
  | done s1 l hr hs hl same other hu turns hd' =>
    have := turns.dies ((hr.disk k h.lt).dies hd)
    rw [hd'] at this
    cases this
theorem lose_first (k : Nat) (h : s.stale = -1) : s.lose k = { s with stale := (k : Int), u := s.u + 1 } ∧ s.loss k = 0 := by
  unfold AS.lose AS.loss
  rw [if_neg (by omega), if_pos h, if_neg (by omega), if_pos h]
  exact ⟨rfl, rfl⟩
theorem lose_again (h : s.stale = (k : Int)) : s.lose k = s ∧ s.loss k = 0 := by
  unfold AS.lose AS.loss
  rw [if_pos h, if_pos h]
  exact ⟨rfl, rfl⟩
theorem AS.Wf.less (h : s.Wf) : (s.S : Int) ≤ 2000000000 ∧ 0 < (s.S : Int) := by
  have h1 := h.sect
  have h2 := h.few
  have h3 := h.n
  have h4 := h.some_
  unfold AS.N at h3
  omega
end
end Go.Proofs.Ytapbphkhbhcdkaa
