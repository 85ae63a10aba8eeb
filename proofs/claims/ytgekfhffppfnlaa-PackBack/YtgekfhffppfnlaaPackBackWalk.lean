/-
  THE WALK OF PackBack.
-/
import Derived.Test.YtgekfhffppfnlaaItems
import Derived.Test.YtgekfhffppfnlaaPackApartWalk
namespace Go.Proofs.Ytgekfhffppfnlaa
open Go.RowKit
set_option linter.unusedVariables false

/-- In how many bytes PackBack puts an item. -/
def It.w (x : It) : Nat := 1 + (x.size % 8).toNat
theorem It.w_eq (x : It) : 1 + x.size % 8 = ((x.w : Nat) : Int) := by unfold It.w; omega
theorem It.w_lo (x : It) : 1 ≤ x.w := by unfold It.w; omega
theorem It.w_hi (x : It) : x.w ≤ 8 := by unfold It.w; omega
/-- What is put for the items. -/
def put : List It → List (BitVec 8)
  | [] => []
  | x :: L => low x.n x.w ++ put L
theorem put_append (L M : List It) : put (L ++ M) = put L ++ put M := by
  induction L with
  | nil => rfl
  | cons x L ih => simp [put, ih]
theorem put_len (L : List It) : (put L).length ≤ 8 * L.length := by
  induction L with
  | nil => simp [put]
  | cons x L ih =>
    have := x.w_hi
    simp [put, low_len]
    omega
theorem put_next (L : List It) (k : Nat) (h : k < L.length) : put (L.take (k + 1)) = put (L.take k) ++ low L[k].n L[k].w := by
  rw [List.take_succ_eq_append_getElem h, put_append]
  simp [put]

set_option maxHeartbeats 1000000 in
set_option maxRecDepth 100000 in
theorem back_walk (A : Option Addr) (len cap : Nat) (L : List It) (w : World) (h : Items w A len cap L) :
    Calls Try.prog 5 #[.slice A len cap] w fun e w' => e = .returned (.bool true) ∧ Below w.heap.size w w' := by
  have H := Lib.hid h
  have hcap := h.2.1
  have hmax := h.2.2.1
  unfold maxLen at hmax
  clear h
  by_cases h40 : len ≤ 40
  · go_enter Try.func5, Try.ntmps5
    go_wp2_with fail
    refine (awake_any _).mono ?_
    rintro e w1 ⟨rfl, hb1⟩
    have B1 := Lib.hid hb1
    have hs1 := hb1.size
    clear hb1
    go_wp2
    have W2 := Lib.hid (wr_new w1)
    have B2 := Lib.hid (B1.out.alloc hs1 (.cells #[.slice none 0 0] 26))
    generalize w1.heap.size = g at *
    generalize w1.alloc (.cells #[.slice none 0 0] 26) = w2 at *
    clear B1
    go_loopw [18] (fun i wr => ∃ (k : Nat) (v : Value), k ≤ len ∧ i = .int .i64 k ∧ Wr wr g v (put (L.take k)) ∧ (∀ j, v.ownBlock = some j → w.heap.size ≤ j) ∧ Below w.heap.size w wr) (fun i _ => len - (intOf i).toNat)
    case atStart => exact ⟨0, _, Nat.zero_le _, rfl, W2.out, fun j e => (by simp [Value.ownBlock] at e), B2.out⟩
    case round =>
      obtain ⟨k, v, hk, rfl, hW, hF, hB⟩ := hrel
      have HW := Lib.hid hW
      have HF := Lib.hid hF
      have HB := Lib.hid hB
      clear hW hF hB
      by_cases hlt : k < len
      · have I := H.out.below HB.out
        obtain ⟨b, o, rfl, hI⟩ := I.2.2.2.2 (by omega)
        have hkL : k < L.length := by rw [I.1]; omega
        have X := hI k hkL
        have hc0 := X.c0
        have hc1 := X.c1
        have hc2 := X.c2
        have hc3 := X.c3
        clear I hI
        have HP := Lib.hid (put_next L k hkL)
        have hpl : (put (L.take k)).length ≤ 320 := by
          have := put_len (L.take k)
          rw [List.length_take] at this
          omega
        generalize L[k] = x at *
        have hbig := X.big
        have hx1 := x.w_lo
        have hx8 := x.w_hi
        go_wp2_with fail
        rw [x.w_eq]
        have HWa := Lib.hid (HW.out.alloc (.cells #[.int .i8 x.size, .int .u64 (x.n : Int), .slice x.A x.m x.c, .bool x.is] 30))
        have HBa := Lib.hid (HB.out.alloc HB.out.size (.cells #[.int .i8 x.size, .int .u64 (x.n : Int), .slice x.A x.m x.c, .bool x.is] 30))
        generalize wr.alloc (.cells #[.int .i8 x.size, .int .u64 (x.n : Int), .slice x.A x.m x.c, .bool x.is] 30) = wa at *
        refine (put_some g v (put (L.take k)) x.w x.n wa hx1 hx8 hbig (by omega) HWa.out).mono ?_
        rintro e w3 ⟨rfl, v3, hw3, hb3, hf3⟩
        rw [← HP.out] at hw3
        have R := Lib.hid hw3
        have RF := Lib.hid (fun j (e : v3.ownBlock = some j) => (show w.heap.size ≤ j from (hf3 j e).elim (fun e => HF.out j e) (fun e => Nat.le_trans HBa.out.size e)))
        have RB := Lib.hid (HBa.out.trans (hb3.below (B := w.heap.size) (fun j hj => hj.elim (fun e => by omega) (fun e => HF.out j e)) HBa.out.size))
        clear hw3 hb3 hf3 HWa HBa hc0 hc1 hc2 hc3 X hbig
        go_wp2
        go_roundw
        case rel => exact ⟨k + 1, v3, by omega, by go_num, R.out, RF.out, RB.out⟩
        case measure => simp [intOf]; omega
      · obtain rfl : k = len := by omega
        have hput : (put L).length ≤ 320 := by
          have := put_len L
          rw [H.out.1] at this
          omega
        rw [List.take_of_length_le (Nat.le_of_eq H.out.1)] at HW
        go_wp2_with fail
        refine (bytes_any g v (put L) 0 0 (put L).length wr (by omega) (by omega) (max_len _) HW.out).mono ?_
        rintro e w4 ⟨v4, rfl, hown4, hb4⟩
        obtain ⟨A4, c4, rfl, _, _, _, hh4, _⟩ := own_slice hown4
        rw [pad_self] at hh4
        have H4 := Lib.hid hh4
        have B4 := Lib.hid (HB.out.trans (hb4.mono HB.out.size))
        clear hown4 hb4 hh4
        go_wp2_with fail
        refine (read_any A4 _ c4 (put L) w4 (by omega) H4.out).mono ?_
        rintro e w5 ⟨gr, A5, c5, rfl, hrd5, hb5, hgr5, _⟩
        have R5 := Lib.hid hrd5
        have B5 := Lib.hid (B4.out.trans (hb5.mono B4.out.size))
        have hgr : w.heap.size ≤ gr := Nat.le_trans B4.out.size hgr5
        clear hrd5 hb5 hgr5 H4 B4
        go_wp2
        go_loopw [36] (fun i wq => ∃ (j n c : Nat) (A2 : Option Addr), j ≤ k ∧ i = .int .i64 j ∧ Rd wq gr A2 n c (put (L.drop j)) false ∧ Below w.heap.size w wq) (fun i _ => k - (intOf i).toNat)
        case atStart => exact ⟨0, _, _, _, Nat.zero_le _, rfl, R5.out, B5.out⟩
        case round =>
          obtain ⟨j, n, c, A2, hj, rfl, hR, hB⟩ := hrel
          have HR := Lib.hid hR
          have HBq := Lib.hid hB
          clear hR hB
          by_cases hjlt : j < k
          · have I := H.out.below HBq.out
            obtain ⟨b, o, rfl, hI⟩ := I.2.2.2.2 (by omega)
            have hjL : j < L.length := by rw [I.1]; omega
            have X := hI j hjL
            have hc0 := X.c0
            have hc1 := X.c1
            have hc2 := X.c2
            have hc3 := X.c3
            have hd : put (L.drop j) = low L[j].n L[j].w ++ put (L.drop (j + 1)) := by
              rw [List.drop_eq_getElem_cons hjL]
              rfl
            clear I hI
            generalize L[j] = x at *
            have HD := Lib.hid hd
            clear hd
            have hbig := X.big
            have hx1 := x.w_lo
            have hx8 := x.w_hi
            have hnl : n = (put (L.drop j)).length := HR.out.has.1.symm
            have hn1 : n ≤ 1000000 := by
              have := put_len (L.drop j)
              rw [List.length_drop, H.out.1] at this
              omega
            have hnw : x.w ≤ n := by
              rw [hnl, HD.out]
              simp [low_len]
            have HT : Hid (num (((put (L.drop j)).take x.w).take x.w) = x.n % 256 ^ x.w) := by
              show _ = _
              rw [HD.out, List.take_left' (low_len _ _), List.take_of_length_le (by simp [low_len]), num_low]
            have HE : Hid ((put (L.drop j)).drop x.w = put (L.drop (j + 1))) := by
              show _ = _
              rw [HD.out, List.drop_left' (low_len _ _)]
            clear hnl
            go_wp2_with fail
            rw [x.w_eq]
            have HRa := Lib.hid (HR.out.below ((Below.refl _ _).alloc (Nat.le_refl _) (.cells #[.int .i8 x.size, .int .u64 (x.n : Int), .slice x.A x.m x.c, .bool x.is] 30)))
            have HBa := Lib.hid (HBq.out.alloc HBq.out.size (.cells #[.int .i8 x.size, .int .u64 (x.n : Int), .slice x.A x.m x.c, .bool x.is] 30))
            have hca : (wr.alloc (.cells #[.int .i8 x.size, .int .u64 (x.n : Int), .slice x.A x.m x.c, .bool x.is] 30)).cell? ⟨wr.heap.size, 1, none⟩ = some (.int .u64 (x.n : Int)) := by
              rw [cell_of_row _ _ _ _ _ _ (heap_alloc_new _ _)]
              rfl
            have hlta : wr.heap.size < (wr.alloc (.cells #[.int .i8 x.size, .int .u64 (x.n : Int), .slice x.A x.m x.c, .bool x.is] 30)).heap.size := by simp
            have hgq : gr < wr.heap.size := HR.out.lt
            generalize wr.alloc (.cells #[.int .i8 x.size, .int .u64 (x.n : Int), .slice x.A x.m x.c, .bool x.is] 30) = wa at *
            refine (take_good gr A2 n c (put (L.drop j)) false x.w x.w wa hn1 hnw (by omega) HRa.out).mono ?_
            rintro e w6 ⟨rfl, ⟨A6, c6, hr6⟩, hb6⟩
            rw [HE.out] at hr6
            have R6 := Lib.hid hr6
            have B6 := Lib.hid (HBa.out.trans (hb6.below (B := w.heap.size) (fun q hq => by omega) HBa.out.size))
            have hc6 : w6.cell? ⟨wr.heap.size, 1, none⟩ = some (.int .u64 (x.n : Int)) := (hb6.cell (p := ⟨wr.heap.size, 1, none⟩) hlta (fun h => by have h : wr.heap.size = gr := h; omega)).trans hca
            rw [HT.out]
            clear hr6 hb6 hca hlta HRa HBa HT HE hc0 hc1 hc2 hc3 X HR HBq hgq
            by_cases ht : x.n % 256 ^ x.w = x.n
            · rw [ht]
              clear ht
              have hne : ((x.n : Int) != (x.n : Int)) = false := by simp
              go_wp2_with fail
              go_quiet (fail)
              have R7 := Lib.hid (R6.out.drewN nq)
              have B7 := Lib.hid (below_drewN B6.out nq)
              clear hc6 hne
              go_wp2
              go_roundw
              case rel => exact ⟨j + 1, _, c6, A6, by omega, by go_num, R7.out, B7.out⟩
              case measure => simp [intOf]; omega
            · have hw7 : x.w < 8 := by
                rcases Nat.lt_or_ge x.w 8 with h | h
                · exact h
                · exfalso
                  apply ht
                  have e : x.w = 8 := by omega
                  rw [e]
                  exact Nat.mod_eq_of_lt hbig
              obtain ⟨t, htt⟩ : ∃ t, t = x.n % 256 ^ x.w := ⟨_, rfl⟩
              obtain ⟨P, hPP⟩ : ∃ P, P = 2 ^ (8 * x.w) := ⟨_, rfl⟩
              have hP0 : 0 < P := by rw [hPP]; exact Nat.pow_pos (by omega)
              have hPb : P < 18446744073709551616 := by
                rw [hPP]
                exact Nat.lt_of_lt_of_le (Nat.pow_lt_pow_right (by omega) (show 8 * x.w < 64 by omega)) (by decide)
              have hne : ((t : Int) != (x.n : Int)) = true := by
                simp only [bne_iff_ne, ne_eq]
                intro e
                apply ht
                omega
              have hw8 : ((x.w : Int) == 8) = false := by
                rw [beq_eq_false_iff_ne]
                omega
              have hwr : IntKind.i64.wrap (8 * (x.w : Int)) = 8 * (x.w : Int) := IntWalk.i64_in _ (by omega)
              have h80 : (0 : Int) ≤ 8 * (x.w : Int) := by omega
              have h84 : 8 * (x.w : Int) ≤ 64 := by omega
              have h8n : (8 * (x.w : Int)).toNat = 8 * x.w := by omega
              have hsh : IntKind.u64.wrap ((2 : Int) ^ (8 * x.w)) = (P : Int) := by
                have : ((2 : Int) ^ (8 * x.w)) = (P : Int) := by rw [hPP, Int.natCast_pow]; rfl
                rw [this]
                simp [IntKind.wrap, IntKind.signed, IntKind.bits]
                omega
              have hmod : (x.n : Int).tmod (P : Int) = (t : Int) := by
                rw [htt, ← pow8, ← hPP]
                rfl
              have hP1 : ((P : Int) == 0) = false := by
                rw [beq_eq_false_iff_ne]
                omega
              have hP2 : ¬ (P : Int) = 0 := by omega
              rw [← htt]
              clear ht htt hPP
              go_wp2_with fail
              go_quiet (fail)
              have R7 := Lib.hid (R6.out.drewN nq)
              have B7 := Lib.hid (below_drewN B6.out nq)
              clear hc6 hne hw8 hwr h80 h84 h8n hsh hmod hP1 hP2
              go_wp2
              go_roundw
              case rel => exact ⟨j + 1, _, c6, A6, by omega, by go_num, R7.out, B7.out⟩
              case measure => simp [intOf]; omega
          · obtain rfl : j = k := by omega
            have hr := HR.out
            rw [List.drop_eq_nil_of_le (Nat.le_of_eq H.out.1)] at hr
            obtain rfl : 0 = n := hr.has.1
            have HR' := Lib.hid hr
            clear hr HR
            go_wp2_with fail
            refine (good_any gr A2 0 c _ false wr HR'.out).mono ?_
            rintro e w7 ⟨rfl, rfl⟩
            go_wp2_with fail
            refine (rest_any gr A2 0 c _ false wr (by omega) HR'.out).mono ?_
            rintro e w8 ⟨v8, rfl, hown8, hb8⟩
            obtain ⟨A8, c8, rfl, _⟩ := own_slice hown8
            have B8 := Lib.hid (HBq.out.trans (hb8.mono HBq.out.size))
            clear hown8 hb8
            go_wp2
            go_ret
            exact ⟨rfl, B8.out⟩
  · go_enter Try.func5, Try.ntmps5
    go_wp2_with fail
    refine (awake_any _).mono ?_
    rintro e w1 ⟨rfl, hb1⟩
    have B1 := Lib.hid hb1
    clear hb1
    go_wp2
    go_ret
    exact ⟨rfl, B1.out⟩

end Go.Proofs.Ytgekfhffppfnlaa
