/-
  THE WALK OF NvOwn.
-/
import Derived.Test.YtolienlbdfbdeaaAwake
namespace Go.Proofs.Ytolienlbdfbdeaa
open Go.RowKit
set_option linter.unusedVariables false
set_option maxRecDepth 100000

/-- A row of the call's own of bytes, whatever they are. -/
def Bs (w : World) (v : Value) (n : Nat) : Prop := ∃ xs, w.ownsRow 0 5 1 v n xs
theorem Bs.cell {w : World} {A : Option Addr} {n c k : Nat} (h : Bs w (.slice A n c) n) (hk : k < n) : ∃ g u, A = some ⟨g, 0, none⟩ ∧ g < w.heap.size ∧ w.cell? ⟨g, k, none⟩ = some u ∧ w.frozen? ⟨g, k, none⟩ = false ∧ ∀ y, Bs (w.setCell ⟨g, k, none⟩ y) (.slice A n c) n := by
  obtain ⟨xs, h⟩ := h
  obtain ⟨g, cap, e, _, hlt⟩ := h.form (by omega)
  injection e with e _ e2
  subst e e2
  have hl : xs.length = n := by have := h.1; omega
  refine ⟨g, xs[k]'(by omega), rfl, hlt, ?_, h.frozenAt k, fun y => ⟨_, (h.stored k y).1⟩⟩
  rw [h.cellAt k (by omega), List.getElem?_eq_getElem]

/-- One record that was answered. -/
theorem Recs.one {w : World} {B : Nat} {v : Value} {r : Rr} (h : Recs w B v [r]) : ∃ (y : Rc) (g c : Nat), v = .slice (some ⟨g, 0, none⟩) 1 c ∧ B ≤ g ∧ g < w.heap.size ∧ y.abs = r ∧
    (w.cell? ⟨g, 0, none⟩ = some (.int .u64 (y.seq : Int)) ∧ w.cell? ⟨g, 1, none⟩ = some (.int .i64 y.kind) ∧ w.cell? ⟨g, 2, none⟩ = some (.int .i64 y.lba) ∧ w.cell? ⟨g, 3, none⟩ = some (.slice y.A y.n y.c)) ∧
    Has w y.A y.n y.l ∧ y.n ≤ 100 ∧ Free w y ∧ (0 < y.n → ∀ a, y.A = some a → B ≤ a.block) := by
  obtain ⟨L, hr, ha, hB, hf⟩ := h
  match L, ha with
  | [y], ha =>
    simp at ha
    obtain ⟨g, c, tail, e, hg, hat, _⟩ := hr.form (by simp)
    have hc := row_cells hat (i := 0) (by simp)
    exact ⟨y, g, c, e, hg, hat.lt, ha, ⟨hc 0 (by omega), hc 1 (by omega), hc 2 (by omega), hc 3 (by omega)⟩, hr.has y (by simp), hr.len y (by simp), hf y (by simp), hB y (by simp)⟩
/-- n bytes at the head of block b may be written. -/
def Wb (w : World) (b n : Nat) : Prop := ∃ cs, At w b cs 5 ∧ n ≤ cs.size
theorem Wb.of {w : World} {y : Rc} (h : Has w y.A y.n y.l) (hf : Free w y) (h0 : 0 < y.n) : ∃ b, y.A = some ⟨b, 0, none⟩ ∧ Wb w b y.n := by
  obtain ⟨b, cs, e, hat⟩ := hf h0
  refine ⟨b, e, cs, hat, ?_⟩
  rw [e] at h
  have h1 := h.cell (y.n - 1) (by omega)
  rw [Nat.zero_add, hat.cell] at h1
  have h2 : y.n - 1 < cs.size := by
    rcases Nat.lt_or_ge (y.n - 1) cs.size with h3 | h3
    · exact h3
    · rw [Array.getElem?_eq_none h3] at h1; cases h1
  omega
theorem Wb.cell {w : World} {b n k : Nat} (h : Wb w b n) (hk : k < n) : (∃ u, w.cell? ⟨b, k, none⟩ = some u) ∧ w.frozen? ⟨b, k, none⟩ = false ∧ ∀ y, Wb (w.setCell ⟨b, k, none⟩ y) b n := by
  obtain ⟨cs, hat, hn⟩ := h
  exact ⟨⟨_, (hat.cell k).trans (Array.getElem?_eq_getElem (by omega))⟩, hat.frozen k, fun y => ⟨_, hat.set k y, by simpa using hn⟩⟩

set_option maxHeartbeats 3200000 in
theorem nvOwn_walk (A : Option Addr) (n c : Nat) (l : List (BitVec 8)) (x : Int) (w : World) (h : Has w A n l) : Calls Try.prog 5 #[.slice A n c, .int .u8 x] w fun e w' => e = .returned (.bool true) ∧ Below w.heap.size w w' := by
  have H := Lib.hid h
  clear h
  go_enter Try.func5, Try.ntmps5
  go_wp2_with fail
  refine (awake_any w).mono ?_
  rintro e w0 ⟨rfl, hb0⟩
  have B0 := Lib.hid hb0
  clear hb0
  by_cases hbig : 100 < n
  · have hbi : (100 : Int) < (n : Int) := by omega
    go_wp2
    go_ret
    exact ⟨rfl, B0.out⟩
  have hbi : ¬ (100 : Int) < (n : Int) := by omega
  go_wp2_with fail
  refine (new_any (-1) w0).mono ?_
  rintro e w1 ⟨rfl, hw1⟩
  have W1 := Lib.hid hw1
  have hlt1 : w0.heap.size < w1.heap.size := by rw [hw1]; simp
  clear hw1
  go_wp2_with fail
  refine (new_nv w0.heap.size w1 hlt1).mono ?_
  rintro e w2 ⟨rfl, hd, hb⟩
  have Y2 := Lib.hid (Sys.start W1.out hd (fun k e => Nat.le_of_eq e.symm) hb)
  clear hd hb hlt1
  have UP := Lib.hid (show ∀ wx T s u l, Sys w0.heap.size w0 wx w1.heap.size w0.heap.size T s u l → Below w.heap.size w wx from fun wx T s u l hs => B0.out.trans (hs.below.mono B0.out.size))
  generalize hB : w0.heap.size = B at *
  generalize hg : w1.heap.size = g at *
  clear hB W1 hg
  go_wp2_with fail
  refine (set_go 0 (-1) (rt 1 0) Y2.out.nv Y2.out.pw (by decide) (by decide) (by decide)).mono ?_
  rintro e w3 ⟨rfl, hd, hp, hb⟩
  have Y3 := Lib.hid (Y2.out.go hd hp (fun _ h => .inl h) hb)
  rw [less_neg] at Y3
  clear hd hp hb
  go_wp2_with fail
  refine (clone_any A n c l w3 (by omega) (H.out.below (UP.out _ _ _ _ _ Y3.out))).mono ?_
  rintro e w4 ⟨v4, rfl, hown4, hb4⟩
  obtain ⟨Ab, cb, rfl, _, _, hd4, hA4⟩ := Has.of_own hown4
  have Y4 := Lib.hid (Y3.out.up hb4)
  have AB := Lib.hid (show ∀ a, Ab = some a → w3.heap.size ≤ a.block ∧ a.block < w4.heap.size from fun a ha => by
    obtain ⟨i, rfl, hi⟩ := hA4 a ha
    exact ⟨hi, (hown4.lt i (by simp [Value.ownBlock, ha])).2⟩)
  have OB := Lib.hid (show ∀ a, Ab = some a → (¬ (a.block = B) ∧ ∀ k, k = g → ¬ a.block = k) from fun a ha => by
    have h1 := Y3.out.off a.block (AB.out a ha).1
    exact ⟨h1.2, fun k e e2 => h1.1 (by rw [e2, e])⟩)
  have D4 := Lib.hid hd4
  have W4 := Lib.hid (show Bs w4 (.slice Ab n cb) n from ⟨_, own_base hown4 (fun _ _ => Nat.zero_le _)⟩)
  clear hown4 hb4 hd4 hA4
  go_wp2_with fail
  refine (append_go 1 3 (0 + 1) (-1) Ab n cb l Y4.out.nv Y4.out.pw (by decide) D4.out (by omega) (fun _ a ha => ⟨(OB.out a ha).2 g rfl, (OB.out a ha).1⟩) (by decide) (by decide) (by decide) (by decide) (by decide)).mono ?_
  rintro e w5 ⟨T5, rfl, hd, hp, hT, hb⟩
  have Y5 := Lib.hid (Y4.out.go hd hp hT hb)
  rw [less_neg] at Y5
  have OT := Lib.hid (show ∀ a, Ab = some a → ¬ T5 a.block ∧ B ≤ a.block from fun a ha => by
    have h1 := AB.out a ha
    refine ⟨fun ht => ?_, Nat.le_trans Y3.out.size h1.1⟩
    rcases hT _ ht with ht | ht
    · exact (Y3.out.off _ h1.1).1 ht
    · omega)
  have W5 := Lib.hid (show Bs w5 (.slice Ab n cb) n from by
    obtain ⟨xs, h⟩ := W4.out
    refine ⟨xs, own_but h hb (fun k hk hS => ?_)⟩
    obtain ⟨a, ha, rfl⟩ : ∃ a, Ab = some a ∧ a.block = k := by cases Ab with
      | none => cases hk
      | some a => exact ⟨a, rfl, by simpa [Value.ownBlock] using hk⟩
    rcases hS with hS | hS
    · exact (Y3.out.off _ (AB.out a ha).1).1 hS
    · exact (OB.out a ha).1 hS)
  clear hd hp hT hb
  go_wp2_with fail
  go_loopw [30] (fun i wr => ∃ k : Nat, k ≤ n ∧ i = .int .i64 k ∧ Bs wr (.slice Ab n cb) n ∧ Sys B w0 wr g B T5 (((NS.new).set (rt 1 0)).add 1 3 l) (0 + 1 + 1) (-1)) (fun i _ => n - (intOf i).toNat)
  case atStart => exact ⟨0, Nat.zero_le _, rfl, W5.out, Y5.out⟩
  case round =>
    obtain ⟨k, hk, rfl, hW, hY⟩ := hrel
    have YR := Lib.hid hY
    by_cases hlt : k < n
    · obtain ⟨gb, uu, rfl, hgl, hc, hf, hst⟩ := hW.cell hlt
      have hot := OT.out _ rfl
      have hob := OB.out _ rfl
      have YN := Lib.hid (hY.but (But.own wr gb k (.int .u8 x)) (fun j hj e => hot.1 (e ▸ hj)) (fun e => hob.1 e.symm) (fun j e => e ▸ hot.2))
      have WN := Lib.hid (hst (.int .u8 x))
      clear hW hY hot hob hst
      go_wp2
      go_roundw
      case rel => exact ⟨k + 1, by omega, by go_num, WN.out, YN.out⟩
      case measure => simp [intOf]; omega
    · clear hW hY
      go_wp2_with fail
      refine (records_any YR.out.nv (by show 1 ≤ 1000; omega)).mono ?_
      rintro e w7 ⟨v7, rfl, hR7, hb7⟩
      obtain ⟨y, g7, c7, rfl, hg7, hl7, hab, ⟨q0, q1, q2, q3⟩, hh7, hn7, hf7, hB7⟩ := hR7.one
      have Y7 := Lib.hid (YR.out.up hb7)
      have OF := Lib.hid (show ∀ j, wr.heap.size ≤ j → ¬ T5 j ∧ ¬ j = B ∧ B ≤ j from fun j hj => ⟨(YR.out.off j hj).1, (YR.out.off j hj).2, Nat.le_trans YR.out.size hj⟩)
      have HH := Lib.hid hh7
      have HF := Lib.hid hf7
      have HB7 := Lib.hid hB7
      clear hR7 hb7 hab hh7 hf7 hB7
      go_wp2_with fail
      go_loopw [41] (fun i wx => ∃ m : Nat, m ≤ 1 ∧ i = .int .i64 m ∧ Sys B w0 wx g B T5 (((NS.new).set (rt 1 0)).add 1 3 l) (0 + 1 + 1) (-1) ∧ (m = 0 → wx = w7)) (fun i _ => 1 - (intOf i).toNat)
      case atStart => exact ⟨0, by omega, rfl, Y7.out, fun _ => rfl⟩
      case round =>
        obtain ⟨m, hm, rfl, hY, hw7⟩ := hrel
        have YX := Lib.hid hY
        rcases Nat.eq_zero_or_pos m with h0 | h0
        · subst h0
          obtain rfl := hw7 rfl
          clear hY hw7
          go_wp2_with fail
          obtain ⟨W, hW⟩ : ∃ W, W = wr.alloc (.cells #[.int .u64 (y.seq : Int), .int .i64 y.kind, .int .i64 y.lba, .slice y.A y.n y.c] 40) := ⟨_, rfl⟩
          rw [← hW]
          have BA := Lib.hid (show But (fun _ => False) wr W by rw [hW]; exact (But.refl _ _).alloc _)
          have DA := Lib.hid (show At W wr.heap.size #[.int .u64 (y.seq : Int), .int .i64 y.kind, .int .i64 y.lba, .slice y.A y.n y.c] 40 by rw [hW]; exact At.new _ 40 rfl)
          have YW := Lib.hid (show Sys B w0 W g B T5 (((NS.new).set (rt 1 0)).add 1 3 l) (0 + 1 + 1) (-1) by rw [hW]; exact YX.out.alloc _)
          have WB := Lib.hid (show 0 < y.n → ∃ b, y.A = some ⟨b, 0, none⟩ ∧ Wb W b y.n from Wb.of (HH.out.apart BA.out (fun _ _ _ h => h)) (HF.out.but BA.out (fun _ _ _ h => h)))
          have LW := Lib.hid (show ∀ b, y.A = some ⟨b, 0, none⟩ → 0 < y.n → b < wr.heap.size from fun b e h0 => by have h := HH.out; rw [e] at h; exact h.lt h0)
          clear hW q0 q1 q2 q3
          generalize wr.heap.size = bx at *
          go_loopw [48] (fun i wy => ∃ j : Nat, j ≤ y.n ∧ i = .int .i64 j ∧ At wy bx #[.int .u64 (y.seq : Int), .int .i64 y.kind, .int .i64 y.lba, .slice y.A y.n y.c] 40 ∧ (0 < y.n → ∃ b, y.A = some ⟨b, 0, none⟩ ∧ Wb wy b y.n) ∧ Sys B w0 wy g B T5 (((NS.new).set (rt 1 0)).add 1 3 l) (0 + 1 + 1) (-1)) (fun i _ => y.n - (intOf i).toNat)
          case atStart => exact ⟨0, Nat.zero_le _, rfl, DA.out, WB.out, YW.out⟩
          case round =>
            obtain ⟨j, hj, rfl, hat, hwb, hY⟩ := hrel
            have d3 := hat.cell 3
            simp at d3
            have AT := Lib.hid hat
            have YY := Lib.hid hY
            by_cases hlt2 : j < y.n
            · obtain ⟨b, eb, hwb2⟩ := hwb (by omega)
              obtain ⟨⟨uu, hc⟩, hf, hst⟩ := hwb2.cell hlt2
              have hob := OF.out b (HB7.out (by omega) _ eb)
              have hbx : ¬ bx = b := by have := LW.out b eb (by omega); omega
              have YN := Lib.hid (hY.but (But.own _ b j (.int .u8 x)) (fun k hk e => hob.1 (e ▸ hk)) (fun e => hob.2.1 e.symm) (fun k e => e ▸ hob.2.2))
              have AN := Lib.hid (hat.but (But.own _ b j (.int .u8 x)) hbx)
              have WN := Lib.hid (hst (.int .u8 x))
              have EB := Lib.hid eb
              rw [eb] at d3
              clear hat hwb hY hwb2 hst hob eb
              go_wp2
              go_roundw
              case rel => exact ⟨j + 1, by omega, by go_num, AN.out, fun _ => ⟨b, EB.out, WN.out⟩, YN.out⟩
              case measure => simp [intOf]; omega
            · clear hat hwb hY
              go_wp2
              go_roundw
              case rel => exact ⟨1, by omega, by go_num, YY.out, fun h => absurd h (by omega)⟩
              case measure => simp [intOf]
        · obtain rfl : m = 1 := by omega
          clear hY hw7
          go_wp2_with fail
          refine (records_any YX.out.nv (by show 1 ≤ 1000; omega)).mono ?_
          rintro e w9 ⟨v9, rfl, hR9, hb9⟩
          obtain ⟨z, g9, c9, rfl, hg9, hl9, hab, ⟨r0, r1, r2, r3⟩, hh9, hn9, hf9, hB9⟩ := hR9.one
          have hzl : z.l = l := congrArg Rr.l hab
          have Y9 := Lib.hid (YX.out.up hb9)
          have HH9 := Lib.hid (hzl ▸ hh9)
          have HD9 := Lib.hid (H.out.below (UP.out _ _ _ _ _ Y9.out))
          clear hR9 hb9 hab hh9 hf9 hB9 hzl
          go_wp2_with fail
          refine (equal_same z.A A z.n n z.c c l w9 (by omega) (by omega) HH9.out HD9.out).mono ?_
          rintro e w10 ⟨rfl, m10, hw10⟩
          have Y10 := Lib.hid (show Below w.heap.size w w10 by rw [hw10]; exact UP.out _ _ _ _ _ (Y9.out.drewN m10))
          clear hw10
          go_wp2
          go_ret
          exact ⟨rfl, Y10.out⟩

end Go.Proofs.Ytolienlbdfbdeaa
