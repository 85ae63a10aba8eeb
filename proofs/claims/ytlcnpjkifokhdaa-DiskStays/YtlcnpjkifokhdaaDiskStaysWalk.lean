/-
  THE WALK OF DiskStays.
-/
import Derived.Test.YtlcnpjkifokhdaaAwake
namespace Go.Proofs.Ytlcnpjkifokhdaa
open Go.RowKit Go.Maps Go.Shelf
set_option linter.unusedVariables false
set_option maxRecDepth 100000

/-- The first k bytes of l, a sector each. -/
def firsts (l : Bytes) (k : Nat) : Int → Option Bytes := fun i => if 0 ≤ i ∧ i < (k : Int) then some [l.getD i.toNat 0#8] else none
/-- So much is durable; of l the first k wait. -/
def Fill (s : DS) (on : Int → Option Bytes) (l : Bytes) (k m : Nat) : Prop :=
  s.sectors = 6 ∧ s.size = 1 ∧ s.dead = false ∧ s.failAt < 0 ∧ (∀ i, 0 ≤ s.writes i ∧ s.writes i ≤ (m : Int)) ∧ s.on = on ∧ s.wait = firsts l k
def Stay (B : Nat) (w0 : World) (g p : Nat) (on : Int → Option Bytes) (l : Bytes) (k m : Nat) (w : World) : Prop := ∃ T s, Sys B w0 w g p T s (m : Nat) (-1) ∧ Fill s on l k m

theorem firsts_zero (l : Bytes) : firsts l 0 = fun _ => none := by
  funext i
  unfold firsts
  rw [if_neg (by omega)]
theorem firsts_succ (l : Bytes) (k : Nat) (b : BitVec 8) (hb : l.getD k 0#8 = b) : (fun j => if j = (k : Int) then some [b] else firsts l k j) = firsts l (k + 1) := by
  funext i
  unfold firsts
  by_cases e : i = (k : Int)
  · subst e
    rw [if_pos rfl, if_pos (by omega)]
    simp only [Int.toNat_natCast]
    rw [hb]
  · rw [if_neg e]
    by_cases h : 0 ≤ i ∧ i < (k : Int)
    · rw [if_pos h, if_pos (by omega)]
    · rw [if_neg h, if_neg (by omega)]
theorem over_none (c : Int → Option Bytes) : over (fun _ => none) c = c := by
  funext i
  unfold over
  cases c i <;> rfl

theorem stay_write {B : Nat} {w0 wr : World} {g p : Nat} {on : Int → Option Bytes} {l : Bytes} {k m : Nat} (h : Stay B w0 g p on l k m wr) (hk : k < 6) (hm : m ≤ 100) (b : BitVec 8) (hb : l.getD k 0#8 = b) (X : Int) (hX : X = (b.toNat : Int)) :
    Calls Try.prog 21 #[.pointer (some ⟨g, 0, none⟩), .int .i64 (k : Int), .slice (some ⟨wr.heap.size, 0, none⟩) 1 1] (wr.alloc (.cells #[.int .u8 X] 5)) fun e w' => e = .returned (.int .i64 0) ∧ Stay B w0 g p on l (k + 1) (m + 1) w' := by
  obtain ⟨T, s, h1, h2, h3, h4, h5, h6, h7, h8⟩ := h
  have hone : Has (wr.alloc (.cells #[.int .u8 X] 5)) (some ⟨wr.heap.size, 0, none⟩) s.size [b] := by
    rw [h3]
    exact one_has wr _ rfl b X hX
  have hcall := write_live (k : Int) m (-1) (some ⟨wr.heap.size, 0, none⟩) 1 [b] ⟨by omega, by rw [h2]; omega⟩ h4 h5 (h1.alloc (.cells #[.int .u8 X] 5)).dk (h1.alloc (.cells #[.int .u8 X] 5)).pw hone (fun x hx => by
    injection hx with hx
    subst hx
    exact (h1.off _ (Nat.le_refl _)).2) (by omega) (by decide) (by decide) (by have := h6 k; omega)
  rw [h3] at hcall
  refine hcall.mono ?_
  rintro e w' ⟨T', rfl, hd, hp, hT, hb'⟩
  refine ⟨rfl, T', s.write k [b], ?_, h2, h3, h4, h5, ?_, h7, ?_⟩
  · have := (h1.alloc (.cells #[.int .u8 X] 5)).go hd hp hT hb'
    rw [less_neg] at this
    exact_mod_cast this
  · intro i
    have := h6 i
    simp only [DS.write]
    split <;> omega
  · show (fun j => if j = (k : Int) then some [b] else s.wait j) = _
    rw [h8, firsts_succ l k b hb]

theorem stay_flush {B : Nat} {w0 wr : World} {g p : Nat} {l l2 : Bytes} {k m : Nat} (h : Stay B w0 g p (fun _ => none) l k m wr) (hm : m ≤ 100) :
    Calls Try.prog 22 #[.pointer (some ⟨g, 0, none⟩)] wr fun e w' => e = .returned (.int .i64 0) ∧ Stay B w0 g p (firsts l k) l2 0 (m + 1) w' := by
  obtain ⟨T, s, h1, h2, h3, h4, h5, h6, h7, h8⟩ := h
  refine (flush_live m (-1) h4 h5 h1.dk h1.pw (by omega) (by decide) (by decide)).mono ?_
  rintro e w' ⟨rfl, hd, hp, hb⟩
  refine ⟨rfl, T, s.flush, ?_, h2, h3, h4, h5, ?_, ?_, ?_⟩
  · have := h1.go hd hp (fun _ h => .inl h) hb
    rw [less_neg] at this
    exact_mod_cast this
  · intro i
    have := h6 i
    show 0 ≤ s.writes i ∧ s.writes i ≤ _
    omega
  · show over s.on s.wait = _
    rw [h7, h8, over_none]
  · show (fun _ => none) = _
    rw [firsts_zero]

theorem kept_mem (keep : Nat) (ss : List Int) (i : Int) : ∀ k, k ≤ ss.length → kept keep ss i k = true → i ∈ ss
  | 0, _, h => by cases h
  | k + 1, hk, h => by
    unfold kept at h
    rcases Bool.or_eq_true_iff.1 h with h | h
    · exact kept_mem keep ss i k (by omega) h
    · have h1 := (Bool.and_eq_true_iff.1 h).1
      have h2 : ss.getD k 0 = i := of_decide_eq_true h1
      rw [← h2, List.getD_eq_getElem?_getD, List.getElem?_eq_getElem (by omega)]
      exact List.getElem_mem _

/-- What a sector was, and what it was to be. -/
def old (l : Bytes) (n : Nat) (i : Nat) : BitVec 8 := if i < n then l.getD i 0#8 else 0#8
def now (l l2 : Bytes) (n n2 : Nat) (i : Nat) : BitVec 8 := if i < n2 then l2.getD i 0#8 else old l n i
/-- Behind the cycle: nothing waits; each sector is what it was, or what it was to be. -/
def Went (B : Nat) (w0 : World) (g p : Nat) (l l2 : Bytes) (n n2 m : Nat) (w : World) : Prop :=
  ∃ T s, Sys B w0 w g p T s (m : Nat) (-1) ∧ s.sectors = 6 ∧ s.dead = false ∧ s.failAt < 0 ∧ Waits s [] ∧ ∀ i : Nat, i < 6 → ∃ y, s.read i = [y] ∧ (y = old l n i ∨ y = now l l2 n n2 i)

theorem stay_cycle {B : Nat} {w0 wr : World} {g p : Nat} {l l2 : Bytes} {n n2 m : Nat} (keep : Nat) (hk : keep < 18446744073709551616) (h : Stay B w0 g p (firsts l n) l2 n2 m wr) :
    Calls Try.prog 23 #[.pointer (some ⟨g, 0, none⟩), .int .u64 (keep : Int)] wr fun e w' => e = .returned (.tuple #[]) ∧ Went B w0 g p l l2 n n2 m w' := by
  obtain ⟨T, s, h1, h2, h3, h4, h5, h6, h7, h8⟩ := h
  refine (cycle_any keep hk h1.dk).mono ?_
  rintro e w' ⟨ss, rfl, hW, hd, hb⟩
  refine ⟨rfl, T, _, h1.go hd (h1.pw.but hb h1.dk.np) (fun _ h => .inl h) (hb.mono (fun _ h _ => .inl h)), h2, h4, h5, ⟨List.Pairwise.nil, fun x => by simp [DS.cycle]⟩, ?_⟩
  intro i hi
  have hr : (s.cycle keep ss).read i = ((if kept keep ss i ss.length then s.wait i else s.on i)).getD (List.replicate 1 0#8) := by
    simp only [DS.read, DS.last, DS.cycle, mix, h3]
  rw [hr, h7, h8]
  cases hc : kept keep ss i ss.length
  · simp only [Bool.false_eq_true, if_false]
    unfold firsts
    by_cases hin : (i : Int) < (n : Int)
    · rw [if_pos ⟨by omega, hin⟩]
      exact ⟨_, rfl, .inl (by unfold old; rw [if_pos (by omega)]; simp)⟩
    · rw [if_neg (by omega)]
      exact ⟨0#8, rfl, .inl (by unfold old; rw [if_neg (by omega)])⟩
  · simp only [if_true]
    have hm := (hW.2 i).1 (kept_mem keep ss i _ (Nat.le_refl _) hc)
    rw [h8] at hm
    unfold firsts at hm ⊢
    by_cases hin : 0 ≤ (i : Int) ∧ (i : Int) < (n2 : Int)
    · rw [if_pos hin]
      exact ⟨_, rfl, .inr (by unfold now; rw [if_pos (by omega)]; simp)⟩
    · rw [if_neg hin] at hm
      cases hm

theorem stay_read {B : Nat} {w0 wr : World} {g p : Nat} {l l2 : Bytes} {n n2 m : Nat} (h : Went B w0 g p l l2 n n2 m wr) {i : Nat} (hi : i < 6) (hm : m ≤ 100) :
    Calls Try.prog 24 #[.pointer (some ⟨g, 0, none⟩), .int .i64 (i : Int)] wr fun e w' => ∃ A cap y, e = .returned (.tuple #[.slice A 1 cap, .int .i64 0]) ∧ Has w' A 1 [y] ∧ (y = old l n i ∨ y = now l l2 n n2 i) ∧ Went B w0 g p l l2 n n2 (m + 1) w' := by
  obtain ⟨T, s, h1, h2, h4, h5, h6, h7⟩ := h
  obtain ⟨y, hy, hy2⟩ := h7 i hi
  refine (read_live i m (-1) [y] 1 hy rfl ⟨by omega, by rw [h2]; omega⟩ h4 h5 h1.dk h1.pw (by omega) (by decide) (by decide)).mono ?_
  rintro e w' ⟨A, cap, rfl, hr, hd, hp, hb⟩
  refine ⟨A, cap, y, rfl, (own_slice hr).1, hy2, T, s, ?_, h2, h4, h5, h6, h7⟩
  have := h1.keep hd hp hb
  rw [less_neg] at this
  exact_mod_cast this

set_option maxHeartbeats 3200000 in
theorem diskStays_walk (A1 A2 : Option Addr) (n c1 n2 c2 : Nat) (l l2 : Bytes) (keep : Nat) (hkeep : keep < 18446744073709551616) (w : World) (h : Has w A1 n l) (h2 : Has w A2 n2 l2) : Calls Try.prog 4 #[.slice A1 n c1, .slice A2 n2 c2, .int .u64 (keep : Int)] w fun e w' => e = .returned (.bool true) ∧ Below w.heap.size w w' := by
  have H1 := Lib.hid h
  have H2 := Lib.hid h2
  have HK := Lib.hid hkeep
  clear h h2 hkeep
  go_enter Try.func4, Try.ntmps4
  go_wp2_with fail
  refine (awake_any _).mono ?_
  rintro e w0 ⟨rfl, hb0⟩
  have B0 := Lib.hid hb0
  clear hb0
  by_cases hb1 : 6 < n
  · have hbi : (6 : Int) < (n : Int) := by omega
    go_wp2
    go_ret
    exact ⟨rfl, B0.out⟩
  · have hbi : ¬ (6 : Int) < (n : Int) := by omega
    by_cases hb2 : 6 < n2
    · have hbj : (6 : Int) < (n2 : Int) := by omega
      go_wp2
      go_ret
      exact ⟨rfl, B0.out⟩
    · have hbj : ¬ (6 : Int) < (n2 : Int) := by omega
      go_wp2_with fail
      refine (new_any (-1) w0).mono ?_
      rintro e w1 ⟨rfl, hw1⟩
      have W1 := Lib.hid hw1
      have hlt1 : w0.heap.size < w1.heap.size := by rw [hw1]; simp
      clear hw1
      go_wp2_with fail
      refine (new_disk w0.heap.size 6 1 6 1 w1 hlt1 (by decide) (by decide) (by decide)).mono ?_
      rintro e w2 ⟨g, T, rfl, hd, hT, hb⟩
      have Y2 := Lib.hid (show Stay w0.heap.size w0 g w0.heap.size (fun _ => none) l 0 0 w2 from ⟨T, _, Sys.start W1.out hd hT hb, rfl, rfl, rfl, (by show (-1 : Int) < 0; decide), fun i => ⟨Int.le_refl _, Int.le_refl _⟩, rfl, by rw [firsts_zero]; rfl⟩)
      clear hd hT hb hlt1
      have up : ∀ {B0' : Nat} {wx : World} {T s u l}, Sys w0.heap.size w0 wx g w0.heap.size T s u l → Below w.heap.size w wx := fun hs => B0.out.trans (hs.below.mono B0.out.size)
      generalize hB : w0.heap.size = B at *
      clear hB W1
      have UP := Lib.hid (show ∀ wx T s u l, Sys B w0 wx g B T s u l → Below w.heap.size w wx from fun wx T s u l hs => up (B0' := 0) hs)
      clear up
      go_wp2
      go_loopw [31] (fun i wr => ∃ k : Nat, k ≤ n ∧ i = .int .i64 k ∧ Stay B w0 g B (fun _ => none) l k k wr) (fun i _ => n - (intOf i).toNat)
      case atStart => exact ⟨0, Nat.zero_le _, rfl, Y2.out⟩
      case round =>
        obtain ⟨k, hk, rfl, hS⟩ := hrel
        have S1 := Lib.hid hS
        by_cases hlt : k < n
        · obtain ⟨b0, o0, rfl⟩ := H1.out.some_ (by omega)
          have hkl : k < l.length := by rw [H1.out.1]; exact hlt
          have hce : wr.cell? ⟨b0, o0 + k, none⟩ = some (.int .u8 (l[k].toNat : Int)) := by
            obtain ⟨T, s, h1, _⟩ := hS
            exact (H1.out.below (UP.out _ _ _ _ _ h1)).cell k hlt
          generalize hX : (l[k].toNat : Int) = X at hce
          have CC := Lib.hid (stay_write hS (by omega) (by omega) l[k] (by rw [List.getD_eq_getElem?_getD, List.getElem?_eq_getElem hkl]; rfl) X hX.symm)
          clear hX hS
          go_wp2_with fail
          refine CC.out.mono ?_
          rintro e w' ⟨rfl, hS2⟩
          have S2 := Lib.hid hS2
          clear hS2
          go_wp2
          go_roundw
          case rel => exact ⟨k + 1, by omega, by go_num, S2.out⟩
          case measure => simp [intOf]; omega
        · have e0 : k = n := by omega
          subst e0
          clear hS
          go_wp2_with fail
          refine (stay_flush (l2 := l2) S1.out (by omega)).mono ?_
          rintro e w3 ⟨rfl, hS3⟩
          have S3 := Lib.hid hS3
          clear hS3
          go_wp2
          go_loopw [46] (fun i wr => ∃ j : Nat, j ≤ n2 ∧ i = .int .i64 j ∧ Stay B w0 g B (firsts l k) l2 j (k + 1 + j) wr) (fun i _ => n2 - (intOf i).toNat)
          case atStart => exact ⟨0, Nat.zero_le _, rfl, S3.out⟩
          case round =>
            obtain ⟨j, hj, rfl, hS⟩ := hrel
            have S4 := Lib.hid hS
            by_cases hlt2 : j < n2
            · obtain ⟨b0, o0, rfl⟩ := H2.out.some_ (by omega)
              have hkl : j < l2.length := by rw [H2.out.1]; exact hlt2
              have hce : wr.cell? ⟨b0, o0 + j, none⟩ = some (.int .u8 (l2[j].toNat : Int)) := by
                obtain ⟨T, s, h1, _⟩ := hS
                exact (H2.out.below (UP.out _ _ _ _ _ h1)).cell j hlt2
              generalize hX : (l2[j].toNat : Int) = X at hce
              have CC := Lib.hid (stay_write hS (by omega) (by omega) l2[j] (by rw [List.getD_eq_getElem?_getD, List.getElem?_eq_getElem hkl]; rfl) X hX.symm)
              clear hX hS
              go_wp2_with fail
              refine CC.out.mono ?_
              rintro e w' ⟨rfl, hS2⟩
              have S2 := Lib.hid hS2
              clear hS2
              go_wp2
              go_roundw
              case rel => exact ⟨j + 1, by omega, by go_num, S2.out⟩
              case measure => simp [intOf]; omega
            · have e0 : j = n2 := by omega
              subst e0
              clear hS
              go_wp2_with fail
              refine (stay_cycle keep HK.out S4.out).mono ?_
              rintro e w5 ⟨rfl, hS5⟩
              have S5 := Lib.hid hS5
              clear hS5
              go_wp2
              go_loopw [60] (fun i wr => ∃ i' : Nat, i' ≤ 6 ∧ i = .int .i64 i' ∧ Went B w0 g B l l2 k j (k + 1 + j + i') wr) (fun i _ => 6 - (intOf i).toNat)
              case atStart => exact ⟨0, by omega, rfl, S5.out⟩
              case round =>
                obtain ⟨i, hi, rfl, hS⟩ := hrel
                have S6 := Lib.hid hS
                by_cases h6 : i < 6
                · have h6i : (i : Int) < 6 := by omega
                  by_cases h1 : i < k
                  · have h1i : (i : Int) < (k : Int) := by omega
                    obtain ⟨p0, p1, rfl⟩ := H1.out.some_ (by omega)
                    have pl : i < l.length := by rw [H1.out.1]; exact h1
                    have pc : wr.cell? ⟨p0, p1 + i, none⟩ = some (.int .u8 (l[i].toNat : Int)) := by
                      obtain ⟨T, s, h1', _⟩ := hS
                      exact (H1.out.below (UP.out _ _ _ _ _ h1')).cell i h1
                    have pg : l.getD i 0#8 = l[i] := by rw [List.getD_eq_getElem?_getD, List.getElem?_eq_getElem pl]; rfl
                    generalize pX : (l[i].toNat : Int) = X1 at pc
                    have HO := Lib.hid (show ((old l k i).toNat : Int) = X1 by unfold old; rw [if_pos h1, pg]; exact pX)
                    by_cases h2 : i < j
                    · have h2i : (i : Int) < (j : Int) := by omega
                      obtain ⟨q0, q1, rfl⟩ := H2.out.some_ (by omega)
                      have ql : i < l2.length := by rw [H2.out.1]; exact h2
                      have qc : wr.cell? ⟨q0, q1 + i, none⟩ = some (.int .u8 (l2[i].toNat : Int)) := by
                        obtain ⟨T, s, h1', _⟩ := hS
                        exact (H2.out.below (UP.out _ _ _ _ _ h1')).cell i h2
                      have qg : l2.getD i 0#8 = l2[i] := by rw [List.getD_eq_getElem?_getD, List.getElem?_eq_getElem ql]; rfl
                      generalize qX : (l2[i].toNat : Int) = X2 at qc
                      have HN := Lib.hid (show ((now l l2 k j i).toNat : Int) = X2 by unfold now; rw [if_pos h2, qg]; exact qX)
                      clear pX qX
                      clear hS
                      go_wp2_with fail
                      refine (stay_read S6.out h6 (by omega)).mono ?_
                      rintro e w7 ⟨A7, c7, y, rfl, hy, hy2, hS7⟩
                      obtain ⟨b7, o7, rfl⟩ := hy.some_ (by omega)
                      have hc7 : w7.cell? ⟨b7, o7 + 0, none⟩ = some (.int .u8 (y.toNat : Int)) := hy.cell 0 (by omega)
                      rw [Nat.add_zero] at hc7
                      have S7 := Lib.hid hS7
                      clear hS7 hy
                      rcases hy2 with hye | hye
                      · rw [hye, HO.out] at hc7
                        clear hye
                        go_wp2
                        go_roundw
                        case rel => exact ⟨i + 1, by omega, by go_num, S7.out⟩
                        case measure => simp [intOf]; omega
                      · rw [hye, HN.out] at hc7
                        clear hye
                        go_wp2
                        all_goals
                          go_roundw
                          case rel => exact ⟨i + 1, by omega, by go_num, S7.out⟩
                          case measure => simp [intOf]; omega
                    · have h2i : ¬ (i : Int) < (j : Int) := by omega
                      have HN := Lib.hid (show ((now l l2 k j i).toNat : Int) = X1 by unfold now; rw [if_neg h2]; exact HO.out)
                      clear pX
                      clear hS
                      go_wp2_with fail
                      refine (stay_read S6.out h6 (by omega)).mono ?_
                      rintro e w7 ⟨A7, c7, y, rfl, hy, hy2, hS7⟩
                      obtain ⟨b7, o7, rfl⟩ := hy.some_ (by omega)
                      have hc7 : w7.cell? ⟨b7, o7 + 0, none⟩ = some (.int .u8 (y.toNat : Int)) := hy.cell 0 (by omega)
                      rw [Nat.add_zero] at hc7
                      have S7 := Lib.hid hS7
                      clear hS7 hy
                      rcases hy2 with hye | hye
                      · rw [hye, HO.out] at hc7
                        clear hye
                        go_wp2
                        go_roundw
                        case rel => exact ⟨i + 1, by omega, by go_num, S7.out⟩
                        case measure => simp [intOf]; omega
                      · rw [hye, HN.out] at hc7
                        clear hye
                        go_wp2
                        all_goals
                          go_roundw
                          case rel => exact ⟨i + 1, by omega, by go_num, S7.out⟩
                          case measure => simp [intOf]; omega
                  · have h1i : ¬ (i : Int) < (k : Int) := by omega
                    have HO := Lib.hid (show ((old l k i).toNat : Int) = 0 by unfold old; rw [if_neg h1]; rfl)
                    by_cases h2 : i < j
                    · have h2i : (i : Int) < (j : Int) := by omega
                      obtain ⟨q0, q1, rfl⟩ := H2.out.some_ (by omega)
                      have ql : i < l2.length := by rw [H2.out.1]; exact h2
                      have qc : wr.cell? ⟨q0, q1 + i, none⟩ = some (.int .u8 (l2[i].toNat : Int)) := by
                        obtain ⟨T, s, h1', _⟩ := hS
                        exact (H2.out.below (UP.out _ _ _ _ _ h1')).cell i h2
                      have qg : l2.getD i 0#8 = l2[i] := by rw [List.getD_eq_getElem?_getD, List.getElem?_eq_getElem ql]; rfl
                      generalize qX : (l2[i].toNat : Int) = X2 at qc
                      have HN := Lib.hid (show ((now l l2 k j i).toNat : Int) = X2 by unfold now; rw [if_pos h2, qg]; exact qX)
                      clear qX
                      clear hS
                      go_wp2_with fail
                      refine (stay_read S6.out h6 (by omega)).mono ?_
                      rintro e w7 ⟨A7, c7, y, rfl, hy, hy2, hS7⟩
                      obtain ⟨b7, o7, rfl⟩ := hy.some_ (by omega)
                      have hc7 : w7.cell? ⟨b7, o7 + 0, none⟩ = some (.int .u8 (y.toNat : Int)) := hy.cell 0 (by omega)
                      rw [Nat.add_zero] at hc7
                      have S7 := Lib.hid hS7
                      clear hS7 hy
                      rcases hy2 with hye | hye
                      · rw [hye, HO.out] at hc7
                        clear hye
                        go_wp2
                        go_roundw
                        case rel => exact ⟨i + 1, by omega, by go_num, S7.out⟩
                        case measure => simp [intOf]; omega
                      · rw [hye, HN.out] at hc7
                        clear hye
                        go_wp2
                        all_goals
                          go_roundw
                          case rel => exact ⟨i + 1, by omega, by go_num, S7.out⟩
                          case measure => simp [intOf]; omega
                    · have h2i : ¬ (i : Int) < (j : Int) := by omega
                      have HN := Lib.hid (show ((now l l2 k j i).toNat : Int) = 0 by unfold now; rw [if_neg h2]; exact HO.out)
                      clear hS
                      go_wp2_with fail
                      refine (stay_read S6.out h6 (by omega)).mono ?_
                      rintro e w7 ⟨A7, c7, y, rfl, hy, hy2, hS7⟩
                      obtain ⟨b7, o7, rfl⟩ := hy.some_ (by omega)
                      have hc7 : w7.cell? ⟨b7, o7 + 0, none⟩ = some (.int .u8 (y.toNat : Int)) := hy.cell 0 (by omega)
                      rw [Nat.add_zero] at hc7
                      have S7 := Lib.hid hS7
                      clear hS7 hy
                      rcases hy2 with hye | hye
                      · rw [hye, HO.out] at hc7
                        clear hye
                        go_wp2
                        go_roundw
                        case rel => exact ⟨i + 1, by omega, by go_num, S7.out⟩
                        case measure => simp [intOf]; omega
                      · rw [hye, HN.out] at hc7
                        clear hye
                        go_wp2
                        all_goals
                          go_roundw
                          case rel => exact ⟨i + 1, by omega, by go_num, S7.out⟩
                          case measure => simp [intOf]; omega
                · have e0 : i = 6 := by omega
                  subst e0
                  obtain ⟨T6, s6, h1, h2, h3, h4, h5, h6⟩ := S6.out
                  clear hS
                  go_wp2_with fail
                  refine (waiting_any h1.dk).mono ?_
                  rintro e w8 ⟨v, ss, rfl, hW, hrow, hb8⟩
                  obtain rfl := waits_one hW h5
                  obtain ⟨A8, c8, rfl⟩ : ∃ A8 c8, v = .slice A8 0 c8 := by
                    rcases hrow.2 with ⟨rfl, e⟩ | ⟨g, cap, cur, rfl, _⟩
                    · exact ⟨none, 0, rfl⟩
                    · exact ⟨_, cap, rfl⟩
                  have B8 := Lib.hid ((UP.out _ _ _ _ _ h1).trans (hb8.mono (UP.out _ _ _ _ _ h1).size))
                  clear h1 h2 h3 h4 h5 h6 hW hrow hb8
                  go_wp2
                  go_ret
                  exact ⟨rfl, B8.out⟩

theorem diskStays_all (A1 A2 : Option Addr) (n c1 n2 c2 : Nat) (l l2 : Bytes) (x : Int) (hx : (Lit.int .u64 x).wf = true) (w : World) (h : Has w A1 n l) (h2 : Has w A2 n2 l2) : Calls Try.prog 4 #[.slice A1 n c1, .slice A2 n2 c2, .int .u64 x] w fun e w' => e = .returned (.bool true) ∧ Below w.heap.size w w' := by
  have hb : 0 ≤ x ∧ x ≤ 18446744073709551615 := by simpa [Lit.wf, IntKind.min, IntKind.max, IntKind.signed, IntKind.bits] using hx
  obtain ⟨keep, rfl⟩ : ∃ keep : Nat, x = (keep : Int) := ⟨x.toNat, by omega⟩
  exact diskStays_walk A1 A2 n c1 n2 c2 l l2 keep (by omega) w h h2

end Go.Proofs.Ytlcnpjkifokhdaa
