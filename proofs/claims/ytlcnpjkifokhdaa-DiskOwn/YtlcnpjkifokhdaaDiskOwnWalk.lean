/-
  THE WALK OF DiskOwn.
-/
import Derived.Test.YtlcnpjkifokhdaaAwake
import Derived.Deep.LoopGhost
import Derived.Deep.CutRange
import Derived.Deep.CutBlock
import Derived.Deep.DeepCutAuto
namespace Go.Proofs.Ytlcnpjkifokhdaa
open Go.RowKit Go.Maps Go.Shelf
set_option linter.unusedVariables false
set_option maxRecDepth 100000

/-- A row of the caller's own: no part of the disk. -/
def Free (w : World) (A : Option Addr) (n : Nat) (T : Nat → Prop) (p B : Nat) : Prop := 0 < n → ∃ gc cs, A = some ⟨gc, 0, none⟩ ∧ At w gc cs 5 ∧ n ≤ cs.size ∧ ¬ T gc ∧ ¬ gc = p ∧ B ≤ gc
/-- A disk that works, whose sector 0 reads as l; beside it a row of the caller's own. -/
def Own1 (B : Nat) (w0 w : World) (g p : Nat) (A : Option Addr) (n : Nat) (l : Bytes) (m : Int) : Prop :=
  ∃ T s u, Sys B w0 w g p T s u (-1) ∧ s.read 0 = l ∧ s.has 0 ∧ s.dead = false ∧ s.failAt < 0 ∧ (0 ≤ u ∧ u ≤ m) ∧ Free w A n T p B

theorem Free.of_own {w2 : World} {base : Nat} {A : Option Addr} {n cap : Nat} {b : Bytes} (h : w2.ownsRow base 5 1 (.slice A n cap) n (b.map val)) {T : Nat → Prop} {p B : Nat} (hf : ∀ k, base ≤ k → ¬ T k ∧ ¬ k = p ∧ B ≤ k) : Free w2 A n T p B := by
  intro hn
  rcases h.2 with ⟨e, h0⟩ | ⟨g, cap', cur, e, hg, hh, hnc, hcm, hcs, htk⟩
  · omega
  · injection e with e1 _ e2
    subst e1 e2
    exact ⟨g, cur, rfl, hh, by omega, hf g hg⟩
theorem Free.but {w w' : World} {A : Option Addr} {n : Nat} {T T' S : Nat → Prop} {p B : Nat} (h : Free w A n T p B) (hb : But S w w') (hS : ∀ k, S k → T k ∨ k = p) (hT : ∀ k, T' k → T k ∨ w.heap.size ≤ k) : Free w' A n T' p B := by
  intro hn
  obtain ⟨gc, cs, h1, h2, h3, h4, h5, h6⟩ := h hn
  refine ⟨gc, cs, h1, h2.but hb (fun hs => (hS gc hs).elim h4 h5), h3, fun ht => (hT gc ht).elim h4 (fun h => by have := h2.lt; omega), h5, h6⟩
/-- A byte of that row written. -/
theorem Own1.put {B : Nat} {w0 w : World} {g p gc : Nat} {n : Nat} {l : Bytes} {m : Int} (h : Own1 B w0 w g p (some ⟨gc, 0, none⟩) n l m) (hn : 0 < n) (k : Nat) (v : Value) : Own1 B w0 (w.setCell ⟨gc, k, none⟩ v) g p (some ⟨gc, 0, none⟩) n l m := by
  obtain ⟨T, s, u, h1, h2, h3, h4, h5, h6, h7⟩ := h
  obtain ⟨gc', cs, e, k2, k3, k4, k5, k6⟩ := h7 hn
  injection e with e
  injection e with e
  subst e
  refine ⟨T, s, u, h1.but (But.own w gc k v) (fun j hj e => k4 (e ▸ hj)) (fun e => k5 e.symm) (fun j e => e ▸ k6), h2, h3, h4, h5, h6, fun _ => ⟨gc, _, rfl, k2.set k v, by simpa using k3, k4, k5, k6⟩⟩
theorem Own1.cell {B : Nat} {w0 w : World} {g p : Nat} {A : Option Addr} {n : Nat} {l : Bytes} {m : Int} (h : Own1 B w0 w g p A n l m) {k : Nat} (hk : k < n) : ∃ gc v, A = some ⟨gc, 0, none⟩ ∧ w.cell? ⟨gc, k, none⟩ = some v ∧ w.frozen? ⟨gc, k, none⟩ = false := by
  obtain ⟨T, s, u, h1, h2, h3, h4, h5, h6, h7⟩ := h
  obtain ⟨gc, cs, e, k2, k3, _⟩ := h7 (by omega)
  refine ⟨gc, cs[k], e, ?_, k2.frozen k⟩
  rw [k2.cell k, Array.getElem?_eq_getElem (by omega)]

theorem blank_live (n : Nat) : (blank 1 n).has 0 := ⟨Int.le_refl _, (by show (0 : Int) < 1; decide)⟩
theorem write_read (s : DS) (l : Bytes) : (s.write 0 l).read 0 = l := by simp [DS.read, DS.last, DS.write]
theorem flush_read (s : DS) (l : Bytes) : (s.write 0 l).flush.read 0 = l := by simp [DS.read, DS.last, DS.flush, DS.write, over]

set_option maxHeartbeats 1600000 in
theorem diskOwn_walk (A0 : Option Addr) (n c0 : Nat) (x : Int) (fl : Bool) (l : Bytes) (w : World) (h : Has w A0 n l) (hnil : A0 = none → c0 = 0) : Calls Try.prog 7 #[.slice A0 n c0, .int .u8 x, .bool fl] w fun e w' => e = .returned (.bool true) ∧ Below w.heap.size w w' := by
  have H := Lib.hid h
  have HN := Lib.hid hnil
  clear h hnil
  by_cases hbig : 200 < n
  · go_enter Try.func7, Try.ntmps7
    go_wp2_with fail
    refine (awake_any w).mono ?_
    rintro e w0 ⟨rfl, hb0⟩
    have B0 := Lib.hid hb0
    clear hb0
    have hbi : (200 : Int) < (n : Int) := by omega
    go_wp2
    go_ret
    exact ⟨rfl, B0.out⟩
  · have hbi : ¬ (200 : Int) < (n : Int) := by omega
    have hmx : max (n : Int) 0 = (n : Int) := by omega
    have hsm : 1 ≤ 1000000000 ∧ n ≤ 1000000 := by omega
    have HMX := Lib.hid hmx
    clear hmx
    go_enter Try.func7, Try.ntmps7
    go_wp2_with fail
    refine (awake_any w).mono ?_
    rintro e w0 ⟨rfl, hb0⟩
    have B0 := Lib.hid hb0
    clear hb0
    go_wp2_with fail
    refine (new_any (-1) w0).mono ?_
    rintro e w1 ⟨rfl, hw1⟩
    have W1 := Lib.hid hw1
    have hlt1 : w0.heap.size < w1.heap.size := by rw [hw1]; simp
    clear hw1
    go_wp2_with fail
    refine (new_disk w0.heap.size 1 n 1 n w1 hlt1 (by decide) HMX.out hsm).mono ?_
    rintro e w2 ⟨g, T, rfl, hd, hT, hb⟩
    have Y2 := Lib.hid (Sys.start W1.out hd hT hb)
    clear hd hT hb hlt1
    generalize hB : w0.heap.size = B
    rw [hB] at Y2
    have HB := Lib.hid hB
    clear hB W1
    go_wp2_with fail
    have hH2 := H.out.below (B0.out.trans (Y2.out.below.mono (by rw [← HB.out]; exact B0.out.size)))
    refine (clone_any A0 n c0 l w2 (by omega) hH2).mono ?_
    rintro e w3 ⟨v, rfl, hown, hb⟩
    obtain ⟨A, cap, rfl⟩ : ∃ A cap, v = .slice A n cap := by
      obtain ⟨A, cap, e, _⟩ := own_form hown
      exact ⟨A, cap, e⟩
    have Y3 := Lib.hid (Y2.out.up hb)
    have hfree : Free w3 A n T B B := Free.of_own hown (fun k hk => ⟨(Y2.out.off k hk).1, (Y2.out.off k hk).2.2, Nat.le_trans Y2.out.size hk⟩)
    have F3 := Lib.hid hfree
    have R3 := Lib.hid (own_slice hown)
    have O3 := Lib.hid (fun x (hx : A = some x) => Y2.out.off _ ((own_slice hown).2.2 x hx).1)
    clear hown hb hfree hH2
    go_upto_region 6 with (fail)
    go_cut [36] (fun s36 wx => s36 = .bool false ∧ Own1 B w0 wx g B A n l 5)
    case first =>
      go_wp2_with fail
      refine (write_live (s := blank 1 n) 0 0 (-1) A cap l (blank_live n) rfl (by show (-1 : Int) < 0; decide) Y3.out.dk Y3.out.pw R3.out.1 (fun x hx => (O3.out x hx).2) (by decide) (by decide) (by decide) (by show -1000000 ≤ (0 : Int) ∧ (0 : Int) ≤ 1000000; decide)).mono ?_
      rintro e w4 ⟨T4, rfl, hd, hp, hT, hb⟩
      have Y4 := Lib.hid (Y3.out.go hd hp hT hb)
      have F4 := Lib.hid (F3.out.but hb (fun _ h => h) hT)
      clear hd hp hT hb
      rw [less_neg] at Y4
      cases fl
      · go_wp2_with fail
        go_meet
        exact ⟨rfl, T4, _, _, Y4.out, write_read _ l, blank_live n, rfl, (by show (-1 : Int) < 0; decide), (by decide), F4.out⟩
      · go_wp2_with fail
        refine (flush_live (0 + 1) (-1) rfl (by show (-1 : Int) < 0; decide) Y4.out.dk Y4.out.pw (by decide) (by decide) (by decide)).mono ?_
        rintro e w5 ⟨rfl, hd, hp, hb⟩
        have Y5 := Lib.hid (Y4.out.go hd hp (fun _ h => .inl h) hb)
        have F5 := Lib.hid (F4.out.but (T' := T4) hb (fun _ h => h) (fun _ h => .inl h))
        clear hd hp hb
        rw [less_neg] at Y5
        go_wp2_with fail
        go_meet
        exact ⟨rfl, T4, _, _, Y5.out, flush_read _ l, blank_live n, rfl, (by show (-1 : Int) < 0; decide), (by decide), F5.out⟩
    case rest =>
      obtain ⟨rfl, hO⟩ := hcut
      have O5 := Lib.hid hO
      clear hO
      go_wp2
      go_loopw [39] (fun i wr => ∃ k : Nat, k ≤ n ∧ i = .int .i64 k ∧ Own1 B w0 wr g B A n l 5) (fun i _ => n - (intOf i).toNat)
      case atStart => exact ⟨0, Nat.zero_le _, rfl, O5.out⟩
      case round =>
        obtain ⟨k, hk, rfl, hO⟩ := hrel
        have O6 := Lib.hid hO
        clear hO
        by_cases hlt : k < n
        · obtain ⟨gc, vc, rfl, hce, hfz⟩ := O6.out.cell hlt
          go_wp2
          go_roundw
          case rel => exact ⟨k + 1, by omega, by go_num, O6.out.put (by omega) k _⟩
          case measure => simp [intOf]; omega
        · have e0 : k = n := by omega
          subst e0
          obtain ⟨T6, s6, u6, h1, h2, h3, h4, h5, h6, h7⟩ := O6.out
          have hlen : l.length = k := H.out.1
          go_wp2_with fail
          refine (read_live 0 u6 (-1) l k h2 hlen h3 h4 h5 h1.dk h1.pw (by omega) (by decide) (by decide)).mono ?_
          rintro e w7 ⟨A7, c7, rfl, hr, hd, hp, hb⟩
          have Y7 := h1.keep hd hp hb
          rw [less_neg] at Y7
          have O7 := Lib.hid (show Own1 B w0 w7 g B A7 k l 6 from ⟨T6, s6, _, Y7, h2, h3, h4, h5, by omega, Free.of_own hr (fun j hj => ⟨(h1.off j hj).1, (h1.off j hj).2.2, Nat.le_trans h1.size hj⟩)⟩)
          have HL := Lib.hid hlen
          clear h1 h2 h3 h4 h5 h6 h7 hr hd hp hb Y7 hlen
          go_wp2
          go_loopw [54] (fun i wr => ∃ j : Nat, j ≤ k ∧ i = .int .i64 j ∧ Own1 B w0 wr g B A7 k l 6) (fun i _ => k - (intOf i).toNat)
          case atStart => exact ⟨0, Nat.zero_le _, rfl, O7.out⟩
          case round =>
            obtain ⟨j, hj, rfl, hO⟩ := hrel
            have O8 := Lib.hid hO
            clear hO
            by_cases hlt2 : j < k
            · obtain ⟨gc, vc, rfl, hce, hfz⟩ := O8.out.cell hlt2
              go_wp2
              go_roundw
              case rel => exact ⟨j + 1, by omega, by go_num, O8.out.put (by omega) j _⟩
              case measure => simp [intOf]; omega
            · have e0 : j = k := by omega
              subst e0
              obtain ⟨T8, s8, u8, h1, h2, h3, h4, h5, h6, h7⟩ := O8.out
              go_wp2_with fail
              refine (read_live 0 u8 (-1) l j h2 HL.out h3 h4 h5 h1.dk h1.pw (by omega) (by decide) (by decide)).mono ?_
              rintro e w9 ⟨A9, c9, rfl, hr, hd, hp, hb⟩
              have Y9 := Lib.hid (h1.keep hd hp hb)
              have R9 := Lib.hid (own_slice hr).1
              have hall : Below w.heap.size w w9 := B0.out.trans (Y9.out.below.mono (by rw [← HB.out]; exact B0.out.size))
              have BA := Lib.hid hall
              clear h1 h2 h3 h4 h5 h6 h7 hr hd hp hb hall
              go_wp2_with fail
              refine (equal_any A9 A0 j j c9 c0 l l _ (by omega) (by omega) R9.out (H.out.below BA.out)).mono ?_
              rintro e w10 ⟨rfl, m10, hw10⟩
              have B10 := Lib.hid (show Below w.heap.size w w10 by rw [hw10]; exact ⟨BA.out.os, BA.out.tape, BA.out.output, BA.out.size, BA.out.block⟩)
              clear hw10
              simp only [decide_true]
              go_wp2
              go_ret
              exact ⟨rfl, B10.out⟩

end Go.Proofs.Ytlcnpjkifokhdaa
