/-
  THE WALK OF PackTakes.
-/
import Derived.Test.YtgekfhffppfnlaaItems
import Derived.Deep.LoopGhost
import Derived.Deep.CutRange
import Derived.Deep.CutBlock
import Derived.Deep.DeepCutAuto
namespace Go.Proofs.Ytgekfhffppfnlaa
open Go.RowKit
set_option linter.unusedVariables false

/-- Whether s bytes can be read; which; what is left; whether the reader is spent. -/
def okB (l : List (BitVec 8)) (s : Int) : Bool := decide (0 ≤ s) && decide (s ≤ (l.length : Int))
def partOf (l : List (BitVec 8)) (s : Int) : List (BitVec 8) := if okB l s then l.take s.toNat else []
def restOf (l : List (BitVec 8)) (s : Int) : List (BitVec 8) := if okB l s then l.drop s.toNat else []
def badOf (f : Bool) (l : List (BitVec 8)) (s : Int) : Bool := !okB l s || f

theorem ok_cases (l : List (BitVec 8)) (s : Int) : (∃ k : Nat, s = (k : Int) ∧ k ≤ l.length ∧ okB l s = true) ∨ ((s < 0 ∨ (l.length : Int) < s) ∧ okB l s = false) := by
  by_cases h : 0 ≤ s ∧ s ≤ (l.length : Int)
  · exact .inl ⟨s.toNat, by omega, by omega, by simp [okB, h]⟩
  · refine .inr ⟨by omega, ?_⟩
    simp only [okB, Bool.and_eq_false_iff, decide_eq_false_iff_not]
    omega

theorem rraw_any (g : Nat) (A : Option Addr) (n c : Nat) (l : List (BitVec 8)) (f : Bool) (s : Int) (w : World) (hn : n ≤ 1000000) (h : Rd w g A n c l f) :
    Calls Try.prog 14 #[.pointer (some ⟨g, 0, none⟩), .int .i64 s] w (RawDone w g (partOf l s) (restOf l s) (badOf f l s)) := by
  have hl := h.has.1
  unfold partOf restOf badOf
  rcases ok_cases l s with ⟨k, rfl, hk, e⟩ | ⟨hs, e⟩
  · rw [e, if_pos rfl, if_pos rfl, Int.toNat_natCast]
    exact rraw_good g A n c l f k w hn (by omega) h
  · rw [e, if_neg (by simp), if_neg (by simp)]
    exact rraw_bad g A n c l f s w (by omega) h
theorem take_any (g : Nat) (A : Option Addr) (n c : Nat) (l : List (BitVec 8)) (f : Bool) (s : Int) (w : World) (hn : n ≤ 1000000) (h : Rd w g A n c l f) :
    Calls Try.prog 15 #[.pointer (some ⟨g, 0, none⟩), .int .i64 s] w (TakeDone w g (num ((partOf l s).take 8)) (restOf l s) (badOf f l s)) := by
  have hl := h.has.1
  unfold partOf restOf badOf
  rcases ok_cases l s with ⟨k, rfl, hk, e⟩ | ⟨hs, e⟩
  · rw [e, if_pos rfl, if_pos rfl, Int.toNat_natCast]
    have := take_good g A n c l f k (min k 8) w hn (by omega) rfl h
    rw [show (l.take k).take (min k 8) = (l.take k).take 8 by
      rw [List.take_take, List.take_take]
      congr 1
      omega] at this
    exact this
  · rw [e, if_neg (by simp), if_neg (by simp)]
    exact take_bad g A n c l f s w (by omega) h

/-- What is left by the law's own count lies at (A, n, c), apart from the reader. -/
structure Left (w : World) (gr : Nat) (A : Option Addr) (n c : Nat) (l : List (BitVec 8)) : Prop where
  has : Has w A n l
  off : ∀ x, A = some x → x.block ≠ gr ∧ ∃ b o, x = ⟨b, o, none⟩
  cap : n ≤ c ∧ c ≤ maxLen
  nil : A = none → c = 0
  small : n ≤ 300
theorem Left.but {w w' : World} {gr : Nat} {A : Option Addr} {n c : Nat} {l : List (BitVec 8)} (h : Left w gr A n c l) (hb : But (fun k => k = gr) w w') : Left w' gr A n c l :=
  ⟨h.has.but hb (fun x e => (h.off x e).1), h.off, h.cap, h.nil, h.small⟩
/-- The reader has what is left by the law's count, or is spent. -/
def Same (w : World) (gr : Nat) (l : List (BitVec 8)) (gd : Bool) : Prop := ∃ A n c, Rd w gr A n c (if gd then l else []) (!gd)

theorem Left.below {w w' : World} {gr : Nat} {A : Option Addr} {n c : Nat} {l : List (BitVec 8)} (h : Left w gr A n c l) (hb : Below w.heap.size w w') : Left w' gr A n c l :=
  ⟨h.has.below hb, h.off, h.cap, h.nil, h.small⟩
theorem Same.below {w w' : World} {gr : Nat} {l : List (BitVec 8)} {gd : Bool} (h : Same w gr l gd) (hb : Below w.heap.size w w') : Same w' gr l gd := by
  obtain ⟨A, n, c, h⟩ := h
  exact ⟨A, n, c, h.below hb⟩
theorem Left.head {w : World} {gr : Nat} {A : Option Addr} {n c j : Nat} {l : List (BitVec 8)} (h : Left w gr A n c l) (hj : j ≤ n) : Left w gr A j c (l.take j) :=
  ⟨h.has.take j hj, h.off, ⟨Nat.le_trans hj h.cap.1, h.cap.2⟩, h.nil, Nat.le_trans hj h.small⟩
theorem Left.tail {w : World} {gr b o : Nat} {n c j : Nat} {l : List (BitVec 8)} (h : Left w gr (some ⟨b, o, none⟩) n c l) (hj : j ≤ n) : Left w gr (some ⟨b, o + j, none⟩) (n - j) (c - j) (l.drop j) := by
  have hc := h.cap
  have hs := h.small
  refine ⟨h.has.drop j hj, fun x e => ?_, ⟨by omega, by omega⟩, fun e => (by cases e), by omega⟩
  injection e with e
  subst e
  exact ⟨(h.off _ rfl).1, _, _, rfl⟩
theorem Left.last {w : World} {gr b o : Nat} {n : Nat} {l : List (BitVec 8)} (h : Left w gr (some ⟨b, o, none⟩) n n l) : Left w gr (some ⟨b, o, none⟩) 0 0 (l.drop n) := by
  rw [List.drop_eq_nil_of_le (Nat.le_of_eq h.has.1)]
  exact ⟨Has.nil _ _, h.off, ⟨Nat.le_refl _, by unfold maxLen; omega⟩, fun e => (by cases e), by omega⟩
theorem Left.drewN {w : World} {gr : Nat} {A : Option Addr} {n c : Nat} {l : List (BitVec 8)} (h : Left w gr A n c l) (k : Nat) : Left (w.drewN k) gr A n c l := ⟨h.has.drewN k, h.off, h.cap, h.nil, h.small⟩
theorem Same.drewN {w : World} {gr : Nat} {l : List (BitVec 8)} {gd : Bool} (h : Same w gr l gd) (k : Nat) : Same (w.drewN k) gr l gd := by
  obtain ⟨A, n, c, h⟩ := h
  exact ⟨A, n, c, h.drewN k⟩
theorem take_eight (part : List (BitVec 8)) {m K : Nat} (h : part.length = m) (hK : K = min m 8) : part.take K = part.take 8 := by
  subst hK
  rcases Nat.le_total m 8 with h8 | h8
  · rw [Nat.min_eq_left h8, List.take_of_length_le (by omega), List.take_of_length_le (by omega)]
  · rw [Nat.min_eq_right h8]
theorem num_back (part : List (BitVec 8)) (K j : Nat) (hj : j < K) (hp : j < part.length) : num ((part.take K).drop j) = num ((part.take K).drop (j + 1)) * 256 + part[j].toNat := by
  have hl : j < (part.take K).length := by rw [List.length_take]; omega
  rw [List.drop_eq_getElem_cons hl, num, List.getElem_take]
  omega
theorem num_back_lt (part : List (BitVec 8)) (K j : Nat) (hK : K ≤ 8) : num ((part.take K).drop (j + 1)) < 72057594037927936 := by
  refine Nat.lt_of_lt_of_le (num_lt _) (Nat.le_trans (Nat.pow_le_pow_right (by omega) (show _ ≤ 7 from ?_)) (by decide))
  rw [List.length_drop, List.length_take]
  omega
/-- Where a round of the law ends: the reader has what is left by the law's count, or is spent. -/
theorem step_rd {w w1 : World} {gr : Nat} {l l2 lz : List (BitVec 8)} {q f : Bool} {s : Int} (h : Step w gr lz f w1) (h1 : lz = if q then l.drop s.toNat else []) (h2 : f = !q) (h3 : q = true → l2 = l.drop s.toNat) : Same w1 gr l2 q := by
  obtain ⟨⟨A, c, h⟩, _⟩ := h
  subst h1 h2
  cases q
  · exact ⟨A, _, c, h⟩
  · rw [h3 rfl]
    exact ⟨A, _, c, h⟩
theorem same_next (l : List (BitVec 8)) (gd : Bool) (s : Int) :
    restOf (if gd then l else []) s = (if gd && okB l s then l.drop s.toNat else []) ∧ badOf (!gd) (if gd then l else []) s = !(gd && okB l s) ∧ partOf (if gd then l else []) s = (if gd && okB l s then l.take s.toNat else []) := by
  cases gd
  · simp [restOf, badOf, partOf]
  · simp [restOf, badOf, partOf]

set_option maxHeartbeats 1000000 in
set_option maxRecDepth 100000 in
theorem takes_walk (A0 : Option Addr) (len0 cap0 : Nat) (l0 : List (BitVec 8)) (A : Option Addr) (len cap : Nat) (L : List It) (w : World)
    (h0 : Has w A0 len0 l0) (hn0 : A0 = none → cap0 = 0) (hm0 : len0 ≤ cap0) (hc0 : cap0 ≤ maxLen) (h : Items w A len cap L) :
    Calls Try.prog 4 #[.slice A0 len0 cap0, .slice A len cap] w fun e w' => e = .returned (.bool true) ∧ Below w.heap.size w w' := by
  have H := Lib.hid h
  have H0 := Lib.hid h0
  have hcap := h.2.1
  have hmax := h.2.2.1
  unfold maxLen at hmax hc0
  clear h h0 hn0
  by_cases h300 : len0 ≤ 300
  · by_cases h40 : len ≤ 40
    · go_enter Try.func4, Try.ntmps4
      go_wp2_with fail
      refine (awake_any _).mono ?_
      rintro e w1 ⟨rfl, hb1⟩
      have B1 := Lib.hid hb1
      have H01 := Lib.hid (H0.out.below hb1)
      have hs1 := hb1.size
      clear hb1
      go_wp2_with fail
      refine (read_any A0 len0 cap0 l0 w1 (by omega) H01.out).mono ?_
      rintro e w2 ⟨gr, A2, c2, rfl, hrd2, hb2, hgr2, _⟩
      have R2 := Lib.hid hrd2
      have B2 := Lib.hid (B1.out.trans (hb2.mono hs1))
      have H02 := Lib.hid (H01.out.below hb2)
      have hgr : w.heap.size ≤ gr := Nat.le_trans hs1 hgr2
      clear hrd2 hb2 hgr2 H01 B1
      go_wp2_with fail
      refine (clone_any A0 len0 cap0 l0 w2 (by omega) H02.out).mono ?_
      rintro e w3 ⟨v3, rfl, hown3, hb3⟩
      obtain ⟨A3, c3, rfl, hc31, hc32, hnil3, hh3, hx3⟩ := own_slice hown3
      have R3 := Lib.hid (R2.out.below hb3)
      have B3 := Lib.hid (B2.out.trans (hb3.mono B2.out.size))
      have hlr := R2.out.lt
      have L3 := Lib.hid (show Left w3 gr A3 len0 c3 l0 from ⟨hh3, fun x e => ⟨by have := (hx3 x e).1; omega, (hx3 x e).2.2⟩, ⟨hc31, hc32⟩, hnil3, h300⟩)
      clear hown3 hb3 R2 H02 hh3 hx3 hc31 hc32 hnil3 hlr
      go_wp2
      go_loopg [6, 7, 30] len (fun gk s6 s7 s30 wr => ∃ (k n c : Nat) (gd : Bool) (A6 : Option Addr) (l : List (BitVec 8)), k ≤ len ∧ gk = len - k ∧ s30 = .int .i64 k ∧ s7 = .bool gd ∧ s6 = .slice A6 n c ∧
        Left wr gr A6 n c l ∧ Same wr gr l gd ∧ Below w.heap.size w wr)
      case atStart => exact ⟨0, len0, c3, true, A3, l0, Nat.zero_le _, rfl, rfl, rfl, rfl, L3.out, ⟨_, _, _, R3.out⟩, B3.out⟩
      case round =>
        obtain ⟨k, n, c, gd, A6, l, hk, rfl, rfl, rfl, rfl, hL, hS, hB⟩ := hrel
        have HL := Lib.hid hL
        have HS := Lib.hid hS
        have HB := Lib.hid hB
        clear hL hS hB
        by_cases hlt : k < len
        · have I := H.out.below HB.out
          obtain ⟨b, o, rfl, hI⟩ := I.2.2.2.2 (by omega)
          have hkL : k < L.length := by rw [I.1]; omega
          have X := hI k hkL
          have hc0 := X.c0
          have hc1 := X.c1
          have hc2 := X.c2
          have hc3 := X.c3
          have hlo := X.lo
          have hhi := X.hi
          clear I hI
          generalize L[k] = x at *
          go_upto_region 10 with (fail)
          have HLa := Lib.hid (HL.out.below ((Below.refl _ _).alloc (Nat.le_refl _) (.cells #[.int .i8 x.size, .int .u64 (x.n : Int), .slice x.A x.m x.c, .bool x.is] 30)))
          have HSa := Lib.hid (HS.out.below ((Below.refl _ _).alloc (Nat.le_refl _) (.cells #[.int .i8 x.size, .int .u64 (x.n : Int), .slice x.A x.m x.c, .bool x.is] 30)))
          have HBa := Lib.hid (HB.out.alloc HB.out.size (.cells #[.int .i8 x.size, .int .u64 (x.n : Int), .slice x.A x.m x.c, .bool x.is] 30))
          have hca : (wr.alloc (.cells #[.int .i8 x.size, .int .u64 (x.n : Int), .slice x.A x.m x.c, .bool x.is] 30)).cell? ⟨wr.heap.size, 3, none⟩ = some (.bool x.is) := by
            rw [cell_of_row _ _ _ _ _ _ (heap_alloc_new _ _)]
            rfl
          generalize wr.alloc (.cells #[.int .i8 x.size, .int .u64 (x.n : Int), .slice x.A x.m x.c, .bool x.is] 30) = wa at *
          generalize wr.heap.size = gi at *
          clear hc0 hc1 hc2 hc3 X HL HS HB
          generalize x.size = s at *
          have HN := Lib.hid (show n = l.length from HLa.out.has.1.symm)
          go_cut [7] (fun s7 wx => wa = wx ∧ s7 = .bool (gd && okB l s))
          case first =>
            cases gd
            · go_wp2_with fail
              go_meet
              exact ⟨rfl, rfl⟩
            · rcases ok_cases l s with ⟨j, rfl, hj, e⟩ | ⟨hs, e⟩
              · have HE := Lib.hid e
                clear e
                have hjn : j ≤ n := by rw [HN.out]; exact hj
                clear hj
                go_wp2_with fail
                go_meet
                exact ⟨rfl, by rw [HE.out]; rfl⟩
              · have HE := Lib.hid e
                clear e
                rcases hs with hs | hs
                · go_wp2_with fail
                  go_meet
                  exact ⟨rfl, by rw [HE.out]; rfl⟩
                · have h0s : 0 ≤ s := by omega
                  have hsn : decide (s ≤ (n : Int)) = false := by rw [HN.out]; simp; omega
                  clear hs
                  go_wp2_with fail
                  go_meet
                  exact ⟨rfl, by rw [HE.out]; rfl⟩
          case rest =>
            obtain ⟨rfl, rfl⟩ := hcut
            obtain ⟨q, hq⟩ : ∃ q, (gd && okB l s) = q := ⟨_, rfl⟩
            rw [hq]
            have HQ := Lib.hid hq
            clear hq
            go_upto_if 48 with (fail)
            go_cut [6, 11] (fun s6 s11 wx => ∃ (d n' c' m cP : Nat) (A' P : Option Addr) (l' part : List (BitVec 8)), wx = wa.drewN d ∧ s6 = .slice A' n' c' ∧ s11 = .slice P m cP ∧ Left wa gr A' n' c' l' ∧ Left wa gr P m cP part ∧
              part = (if q then l.take s.toNat else []) ∧ (q = true → l' = l.drop s.toNat))
            case first =>
              cases q
              · go_wp2_with fail
                go_meet
                exact ⟨0, n, c, 0, 0, A6, none, l, [], rfl, rfl, rfl, HLa.out, ⟨Has.nil _ _, fun x e => (by cases e), ⟨Nat.le_refl _, by unfold maxLen; omega⟩, fun _ => rfl, by omega⟩, rfl, fun e => (by cases e)⟩
              · obtain ⟨j, rfl, hj, e⟩ : ∃ j : Nat, s = (j : Int) ∧ j ≤ l.length ∧ okB l s = true := by
                  rcases ok_cases l s with h | ⟨_, e⟩
                  · exact h
                  · have := HQ.out
                    rw [e, Bool.and_false] at this
                    cases this
                clear e
                have hjn : j ≤ n := by rw [HN.out]; exact hj
                have hcap := HLa.out.cap.1
                have hcm := HLa.out.cap.2
                unfold maxLen at hcm
                rcases A6 with _ | a6
                · obtain rfl : c = 0 := HLa.out.nil rfl
                  obtain rfl : n = 0 := by omega
                  obtain rfl : j = 0 := by omega
                  go_wp2_with fail
                  go_quiet (fail)
                  go_wp2_with fail
                  obtain rfl : l = [] := List.eq_nil_of_length_eq_zero HN.out.symm
                  go_meet
                  exact ⟨nq, 0, 0, 0, 0, none, none, [], [], rfl, rfl, rfl, HLa.out, HLa.out, rfl, fun _ => rfl⟩
                · obtain ⟨hbg, b6, o6, rfl⟩ := HLa.out.off _ rfl
                  by_cases hcj : c = j
                  · obtain rfl : n = c := by omega
                    subst hcj
                    go_wp2_with fail
                    go_quiet (fail)
                    go_wp2_with fail
                    go_meet
                    exact ⟨nq, 0, 0, n, n, _, _, l.drop n, l.take n, rfl, rfl, rfl, HLa.out.last, HLa.out.head (Nat.le_refl _), rfl, fun _ => rfl⟩
                  · go_wp2_with fail
                    go_quiet (fail)
                    go_wp2_with fail
                    go_meet
                    exact ⟨nq, n - j, c - j, j, c, _, _, l.drop j, l.take j, rfl, rfl, rfl, HLa.out.tail hjn, HLa.out.head hjn, rfl, fun _ => rfl⟩
            case rest =>
              obtain ⟨d, n', c', m, cP, A', P, l', part, rfl, rfl, rfl, hL', hP, hpart, hl'⟩ := hcut
              have HL' := Lib.hid hL'
              have HP := Lib.hid hP
              have hsn := same_next l gd s
              rw [HQ.out, ← hpart] at hsn
              have SN := Lib.hid hsn
              have HL2 := Lib.hid hl'
              obtain ⟨Ar, nr, cr, hr⟩ := HSa.out
              have HR := Lib.hid hr
              have hnr : nr ≤ 1000000 := by
                have h1 := hr.has.1
                have h2 := HLa.out.small
                have h3 := HN.out
                rw [← h1]
                split
                · omega
                · simp
              clear hL' hP hsn hpart hl' hr
              generalize (if gd then l else []) = lr at *
              generalize (!gd) = f at *
              cases hx : x.is
              · rw [hx] at hca
                clear hx
                obtain ⟨K, hK⟩ : ∃ K, K = min m 8 := ⟨_, rfl⟩
                have hmin := fun (w : World) => run_min2 (P := Try.prog) w #[3, 3] 3 m 8 K (by omega)
                have hKm : K ≤ m := by omega
                have hK8 : K ≤ 8 := by omega
                have HK := Lib.hid (take_eight part (m := m) (K := K) HP.out.has.1 hK)
                clear hK
                go_wp2
                go_loopg [12, 13] K (fun gk s12 s13 wx => wa.drewN d = wx ∧ ∃ j : Nat, j ≤ K ∧ gk = j ∧ s13 = .int .i64 ((j : Int) - 1) ∧ s12 = .int .u64 ((num ((part.take K).drop j) : Nat) : Int))
                case atStart => exact ⟨rfl, K, Nat.le_refl _, rfl, rfl, by rw [List.drop_eq_nil_of_le (List.length_take_le _ _)]; rfl⟩
                case round =>
                  obtain ⟨rfl, j, hj, hgk, rfl, rfl⟩ := hrel
                  have HG := Lib.hid hgk
                  clear hgk
                  rcases j with _ | j
                  · rw [List.drop_zero, HK.out]
                    clear hmin HK
                    generalize hN8 : num (part.take 8) = N8
                    have HN8 := Lib.hid hN8
                    clear hN8
                    go_wp2_with fail
                    refine (take_any gr Ar nr cr lr f s (wa.drewN d) hnr (HR.out.drewN d)).mono ?_
                    rintro e w4 ⟨rfl, hst4⟩
                    rw [SN.out.2.2, HN8.out]
                    have hb4 := But.of_drewN d hst4.2
                    have HSz := Lib.hid (step_rd hst4 SN.out.1 SN.out.2.1 HL2.out)
                    have HLz := Lib.hid (HL'.out.but hb4)
                    have HBz := Lib.hid (HBa.out.trans (hb4.below (B := w.heap.size) (fun j hj => by omega) HBa.out.size))
                    have hne : ((N8 : Int) != (N8 : Int)) = false := by simp
                    clear hst4 hb4 HL' HP HBa HSa HLa HR HG
                    cases q
                    · obtain ⟨A6, n6, c6, hr6⟩ := HSz.out
                      obtain rfl : 0 = n6 := hr6.has.1
                      have HR6 := Lib.hid hr6
                      clear hr6
                      go_wp2_with fail
                      refine (good_any gr A6 0 c6 _ true w4 HR6.out).mono ?_
                      rintro e w6 ⟨rfl, rfl⟩
                      go_wp2_with fail
                      refine (rest_any gr A6 0 c6 _ true w4 (by omega) HR6.out).mono ?_
                      rintro e w7 ⟨v7, rfl, hown7, hb7⟩
                      obtain ⟨A7, c7, rfl, _⟩ := own_slice hown7
                      have HS7 := Lib.hid (HSz.out.below hb7)
                      have HL7 := Lib.hid (HLz.out.below hb7)
                      have HB7 := Lib.hid (HBz.out.trans (hb7.mono HBz.out.size))
                      clear hown7 hb7
                      go_wp2
                      go_roundg (len - (k + 1))
                      case measure => omega
                      case rel => exact ⟨k + 1, n', c', false, A', l', by omega, rfl, by go_num, rfl, rfl, HL7.out, HS7.out, HB7.out⟩
                    · obtain ⟨A6, n6, c6, hr6⟩ := HSz.out
                      rw [if_pos rfl] at hr6
                      have HR6 := Lib.hid hr6
                      have hn6 : n6 ≤ 1000000 := by
                        have h1 := hr6.has.1
                        have h2 := HLz.out.has.1
                        have h3 := HLz.out.small
                        omega
                      clear hr6
                      go_wp2_with fail
                      refine (good_any gr A6 n6 c6 l' false w4 HR6.out).mono ?_
                      rintro e w6 ⟨rfl, rfl⟩
                      go_wp2_with fail
                      refine (rest_any gr A6 n6 c6 l' false w4 hn6 HR6.out).mono ?_
                      rintro e w7 ⟨v7, rfl, hown7, hb7⟩
                      obtain ⟨A7, c7, rfl, _, _, _, hh7, _⟩ := own_slice hown7
                      have HS7 := Lib.hid (HSz.out.below hb7)
                      have HL7 := Lib.hid (HLz.out.below hb7)
                      have HB7 := Lib.hid (HBz.out.trans (hb7.mono HBz.out.size))
                      have HH7 := Lib.hid hh7
                      clear hown7 hb7 hh7
                      go_wp2_with fail
                      refine (equal_any A7 A' n6 n' c7 c' l' l' w7 hn6 (by have := HL7.out.small; omega) HH7.out HL7.out.has).mono ?_
                      rintro e w8 ⟨rfl, m8, rfl⟩
                      rw [decide_eq_true rfl]
                      have HS8 := Lib.hid (HS7.out.drewN m8)
                      have HL8 := Lib.hid (HL7.out.drewN m8)
                      have HB8 := Lib.hid (below_drewN HB7.out m8)
                      go_wp2
                      go_roundg (len - (k + 1))
                      case measure => omega
                      case rel => exact ⟨k + 1, n', c', true, A', l', by omega, rfl, by go_num, rfl, rfl, HL8.out, HS8.out, HB8.out⟩
                  · rw [show ((j + 1 : Nat) : Int) - 1 = (j : Int) by omega]
                    obtain ⟨b6, o6, rfl⟩ := HP.out.has.some_ (by omega)
                    have hjp : j < part.length := by have := HP.out.has.1; omega
                    have hcj : wa.cell? ⟨b6, o6 + j, none⟩ = some (.int .u8 (part[j].toNat : Int)) := HP.out.has.cell j (by omega)
                    have hjm : j < m := by omega
                    have HS2 := Lib.hid (num_back part K j (by omega) hjp)
                    have hb7 := num_back_lt part K j (by omega)
                    have hx8 : part[j].toNat < 256 := part[j].isLt
                    generalize part[j].toNat = y at *
                    generalize num ((part.take K).drop (j + 1)) = z at *
                    go_wp2_with fail
                    go_roundg j
                    case measure => rw [HG.out]; omega
                    case rel => exact ⟨rfl, j, by omega, rfl, rfl, by rw [HS2.out]; go_num⟩
              · rw [hx] at hca
                clear hx
                go_wp2_with fail
                refine (rraw_any gr Ar nr cr lr f s (wa.drewN d) hnr (HR.out.drewN d)).mono ?_
                rintro e w4 ⟨v4, rfl, hown4, hst4⟩
                rw [SN.out.2.2] at hown4
                obtain ⟨A4, c4, rfl, _, _, _, hh4, _⟩ := own_slice hown4
                have hb4 := But.of_drewN d hst4.2
                have HS4 := Lib.hid (step_rd hst4 SN.out.1 SN.out.2.1 HL2.out)
                have HL4 := Lib.hid (HL'.out.but hb4)
                have HP4 := Lib.hid (HP.out.but hb4)
                have HB4 := Lib.hid (HBa.out.trans (hb4.below (B := w.heap.size) (fun j hj => by omega) HBa.out.size))
                have HH4 := Lib.hid hh4
                have hpl : part.length ≤ 1000000 := by
                  have h1 := HP4.out.has.1
                  have h2 := HP4.out.small
                  omega
                clear hown4 hst4 hh4 hb4 HL' HP HBa HSa HLa HR
                go_wp2_with fail
                refine (equal_any A4 P part.length m c4 cP part part w4 hpl (by have := HP4.out.small; omega) HH4.out HP4.out.has).mono ?_
                rintro e w5 ⟨rfl, m5, rfl⟩
                rw [decide_eq_true rfl]
                have HSz := Lib.hid (HS4.out.drewN m5)
                have HLz := Lib.hid (HL4.out.drewN m5)
                have HBz := Lib.hid (below_drewN HB4.out m5)
                clear HS4 HL4 HB4 HP4 HH4 hpl
                cases q
                · obtain ⟨A6, n6, c6, hr6⟩ := HSz.out
                  obtain rfl : 0 = n6 := hr6.has.1
                  have HR6 := Lib.hid hr6
                  clear hr6
                  go_wp2_with fail
                  refine (good_any gr A6 0 c6 _ true (w4.drewN m5) HR6.out).mono ?_
                  rintro e w6 ⟨rfl, rfl⟩
                  go_wp2_with fail
                  refine (rest_any gr A6 0 c6 _ true (w4.drewN m5) (by omega) HR6.out).mono ?_
                  rintro e w7 ⟨v7, rfl, hown7, hb7⟩
                  obtain ⟨A7, c7, rfl, _⟩ := own_slice hown7
                  have HS7 := Lib.hid (HSz.out.below hb7)
                  have HL7 := Lib.hid (HLz.out.below hb7)
                  have HB7 := Lib.hid (HBz.out.trans (hb7.mono HBz.out.size))
                  clear hown7 hb7
                  go_wp2
                  go_roundg (len - (k + 1))
                  case measure => omega
                  case rel => exact ⟨k + 1, n', c', false, A', l', by omega, rfl, by go_num, rfl, rfl, HL7.out, HS7.out, HB7.out⟩
                · obtain ⟨A6, n6, c6, hr6⟩ := HSz.out
                  rw [if_pos rfl] at hr6
                  have HR6 := Lib.hid hr6
                  have hn6 : n6 ≤ 1000000 := by
                    have h1 := hr6.has.1
                    have h2 := HLz.out.has.1
                    have h3 := HLz.out.small
                    omega
                  clear hr6
                  go_wp2_with fail
                  refine (good_any gr A6 n6 c6 l' false (w4.drewN m5) HR6.out).mono ?_
                  rintro e w6 ⟨rfl, rfl⟩
                  go_wp2_with fail
                  refine (rest_any gr A6 n6 c6 l' false (w4.drewN m5) hn6 HR6.out).mono ?_
                  rintro e w7 ⟨v7, rfl, hown7, hb7⟩
                  obtain ⟨A7, c7, rfl, _, _, _, hh7, _⟩ := own_slice hown7
                  have HS7 := Lib.hid (HSz.out.below hb7)
                  have HL7 := Lib.hid (HLz.out.below hb7)
                  have HB7 := Lib.hid (HBz.out.trans (hb7.mono HBz.out.size))
                  have HH7 := Lib.hid hh7
                  clear hown7 hb7 hh7
                  go_wp2_with fail
                  refine (equal_any A7 A' n6 n' c7 c' l' l' w7 hn6 (by have := HL7.out.small; omega) HH7.out HL7.out.has).mono ?_
                  rintro e w8 ⟨rfl, m8, rfl⟩
                  rw [decide_eq_true rfl]
                  have HS8 := Lib.hid (HS7.out.drewN m8)
                  have HL8 := Lib.hid (HL7.out.drewN m8)
                  have HB8 := Lib.hid (below_drewN HB7.out m8)
                  go_wp2
                  go_roundg (len - (k + 1))
                  case measure => omega
                  case rel => exact ⟨k + 1, n', c', true, A', l', by omega, rfl, by go_num, rfl, rfl, HL8.out, HS8.out, HB8.out⟩
        · obtain rfl : k = len := by omega
          go_wp2
          go_ret
          exact ⟨rfl, HB.out⟩
    · go_enter Try.func4, Try.ntmps4
      go_wp2_with fail
      refine (awake_any _).mono ?_
      rintro e w1 ⟨rfl, hb1⟩
      have B1 := Lib.hid hb1
      clear hb1
      go_wp2
      go_ret
      exact ⟨rfl, B1.out⟩
  · go_enter Try.func4, Try.ntmps4
    go_wp2_with fail
    refine (awake_any _).mono ?_
    rintro e w1 ⟨rfl, hb1⟩
    have B1 := Lib.hid hb1
    clear hb1
    go_wp2
    go_ret
    exact ⟨rfl, B1.out⟩

end Go.Proofs.Ytgekfhffppfnlaa
