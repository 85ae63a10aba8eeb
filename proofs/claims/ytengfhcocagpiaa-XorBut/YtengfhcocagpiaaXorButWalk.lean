/-
  THE WALK OF XorBut: any slices but one, bit by bit.
-/
import Derived.Test.YtengfhcocagpiaaAwake
namespace Go.Proofs.Ytengfhcocagpiaa
open Go.RowKit Go.Sort
set_option linter.unusedVariables false
set_option maxRecDepth 100000

theorem but_walk (A : Option Addr) (n c : Nat) (L : List Sl) (i : Int) (w : World) (h : Ln w A n L) :
    Calls Try.prog 4 #[.slice A n c, .int .i64 i] w fun e w' => e = .returned (.bool true) ∧ Below w.heap.size w w' := by
  have hn := h.few
  have H := Lib.hid h
  clear h
  generalize hB : w.heap.size = B
  go_enter Try.func4, Try.ntmps4
  go_wp2_with fail
  refine (awake_any w).mono ?_
  rintro e w1 ⟨rfl, hb⟩
  have H := Lib.hid (H.out.below hb)
  rw [hB] at hb
  have B1 := Lib.hid hb
  clear hb
  go_wp2_with fail
  refine (light_any A n c L w1 H.out).mono ?_
  rintro e w2 ⟨⟨lt, rfl⟩, rfl⟩
  cases lt
  · go_wp2
    go_ret
    exact ⟨rfl, B1.out⟩
  go_wp2_with fail
  go_loopw [5, 21] (fun v q wr => ∃ j : Nat, j ≤ n ∧ q = .int .i64 j ∧ wr.ownsRow w2.heap.size 25 1 v (oth L i j).length ((oth L i j).map Sl.v) ∧ Below w2.heap.size w2 wr) (fun _ q _ => n - (intOf q).toNat)
  case atStart => exact ⟨0, Nat.zero_le _, rfl, World.ownsRow_nil _ _ _ _, Below.refl _ _⟩
  case round =>
    obtain ⟨j, hj, rfl, hO, hW⟩ := hrel
    have OW := Lib.hid hO
    have B2 := Lib.hid hW
    clear hO hW
    by_cases hlt : j < n
    · obtain ⟨hjl, b, off, rfl, hc, hh, hx⟩ := (H.out.below B2.out).one hlt
      clear hh
      by_cases hd : (j : Int) = i
      · subst hd
        have NX : Hid (wr.ownsRow w2.heap.size 25 1 u5 (oth L (j : Int) (j + 1)).length ((oth L (j : Int) (j + 1)).map Sl.v)) := by
          have := OW.out
          rw [← oth_same hjl rfl] at this
          exact this
        clear OW
        go_wp2
        go_roundw
        case rel => exact ⟨j + 1, by omega, by go_num, NX.out, B2.out⟩
        case measure => simp [intOf]; omega
      · have NX := Lib.hid (oth_more hjl hd)
        have LE := Lib.hid (oth_len L i j)
        go_wp2_with (at_builtin; refine wpList_append_ln rfl (.tmp 29) (.tmp 31) rfl w2.heap.size u5 (oth L i j).length (oth L i j) rfl (OW.out.alloc _) ⟨wr.heap.size, 0, none⟩ 1 1 [L[j]] rfl (one_row L[j] (At.new #[L[j].v] 25 rfl)) (by have := LE.out; omega) (by have := up B2.out rfl; simp; omega) ?_; intro A2 cap2 w3 hown2 hg2 hf2; have B3 := Lib.hid (own_more rfl B2.out OW.out hg2); have OW := Lib.hid hown2; clear hown2 hg2 hf2)
        go_roundw
        case rel => exact ⟨j + 1, by omega, by go_num, by rw [NX.out, List.length_append]; exact OW.out, B3.out⟩
        case measure => simp [intOf]; omega
    · obtain rfl : j = n := by omega
      have LE := Lib.hid (oth_len L i j)
      obtain ⟨A3, c3, rfl, hL3⟩ := Ln.of_own OW.out (fun x hx => (H.out.has x (oth_mem hx)).below B2.out) (fun x hx => H.out.cap x (oth_mem hx)) (by have := LE.out; omega)
      have LN := Lib.hid hL3
      have H := Lib.hid (H.out.below B2.out)
      have B2 := Lib.hid (B1.out.trans (B2.out.mono (up B1.out hB.symm)))
      clear hL3 OW B1
      go_wp2_with fail
      refine (but_any A j c L i wr H.out).mono ?_
      rintro e w3 ⟨g, rfl, hA, hg, hb⟩
      have AT := Lib.hid hA
      have LN := Lib.hid (LN.out.below hb)
      have B3 := Lib.hid (B2.out.trans (hb.mono (up B2.out hB.symm)))
      clear hA hg hb H B2
      generalize hK : oth L i j = K at *
      have hfew := LN.out.few
      have HM := Lib.hid (LN.out.mx_le K.length)
      have hall := LN.out.all
      have HM := Lib.hid (show mx K ≤ 140737488355328 by have := HM.out; rw [hall] at this; exact this)
      have HALL := Lib.hid hall
      clear hall hK
      generalize hM : mx K = M at *
      have hm := HM.out
      have hM' := Lib.hid hM
      clear hM
      go_wp2_with fail
      go_loopw [39] (fun q wx => ∃ k : Nat, k ≤ M ∧ q = .int .i64 k ∧ wx = w3) (fun q _ => M - (intOf q).toNat)
      case atStart => exact ⟨0, Nat.zero_le _, rfl, rfl⟩
      case round =>
        obtain ⟨k, hk, rfl, rfl⟩ := hrel
        by_cases hlt2 : k < M
        · have hc : wr.cell? ⟨g, k, none⟩ = some (.int .u8 ((par K k).toNat : Int)) := by rw [AT.out.cell k, tabA_get _ _ hlt2]
          go_wp2_with fail
          refine (odd_any A3 K.length c3 K k (by omega) wr LN.out).mono ?_
          rintro e w4 ⟨rfl, rfl⟩
          go_wp2
          go_roundw
          case rel => exact ⟨k + 1, by omega, by go_num, trivial⟩
          case measure => simp [intOf]; omega
        · go_wp2_with fail
          go_loopw [11, 52] (fun v q wx => ∃ y : Nat, y ≤ K.length ∧ v = .int .i64 (mx (K.take y) : Int) ∧ q = .int .i64 y ∧ wx = wr) (fun _ q _ => K.length - (intOf q).toNat)
          case atStart => exact ⟨0, Nat.zero_le _, rfl, rfl, rfl⟩
          case round =>
            obtain ⟨y, hy, rfl, rfl, rfl⟩ := hrel
            by_cases hlt3 : y < K.length
            · obtain ⟨hjl, b, off, rfl, hc, hh, hx⟩ := LN.out.one hlt3
              have hmx := fun (w : World) => run_max2 (P := Try.prog) w #[3, 3] 3 (mx (K.take y) : Int) (K[y].n : Int) (mx (K.take (y + 1)) : Int) (by rw [mx_next K hjl, hh.1]; omega)
              clear hh
              go_wp2
              go_roundw
              case rel => exact ⟨y + 1, by omega, rfl, by go_num, trivial⟩
              case measure => simp [intOf]; omega
            · obtain rfl : y = K.length := by omega
              rw [HALL.out, hM'.out]
              go_wp2
              go_ret
              exact ⟨by simp, B3.out⟩

end Go.Proofs.Ytengfhcocagpiaa
