/-
  THE WALK OF Make.
-/
import Derived.Test.YtclbiidgggdniaaItems
import Derived.Deep.CutRange
namespace Go.Proofs.Ytclbiidgggdniaa
open Go.RowKit
set_option linter.unusedVariables false
set_option maxRecDepth 100000

/-- Records, by items, numbered from f on. -/
def recs : Nat → List It → List Rr
  | _, [] => []
  | f, x :: t => ⟨f, ((x.kind % 4 : Nat) : Int), x.lba, [x.fill]⟩ :: recs (f + 1) t
theorem recs_len : ∀ (f : Nat) (L : List It), (recs f L).length = L.length
  | _, [] => rfl
  | f, x :: t => by simp [recs, recs_len (f + 1) t]
theorem recs_one : ∀ (f : Nat) (L : List It) (x : It), recs f (L ++ [x]) = recs f L ++ [⟨f + L.length, ((x.kind % 4 : Nat) : Int), x.lba, [x.fill]⟩]
  | _, [], _ => rfl
  | f, y :: t, x => by
    simp only [List.cons_append, recs, recs_one (f + 1) t x, List.length_cons]
    rw [show f + 1 + t.length = f + (t.length + 1) by omega]
theorem recs_seq : ∀ (f : Nat) (L : List It), ∀ r ∈ recs f L, f ≤ r.seq
  | f, x :: t, r, h => by
    rcases List.mem_cons.1 h with rfl | h
    · exact Nat.le_refl _
    · have := recs_seq (f + 1) t r h
      omega
theorem recs_up : ∀ (f : Nat) (L : List It), Up Rr.seq (recs f L)
  | _, [] => List.Pairwise.nil
  | f, x :: t => List.pairwise_cons.2 ⟨fun r hr => by have := recs_seq (f + 1) t r hr; show f < r.seq; omega, recs_up (f + 1) t⟩
/-- The records as far as the first k items. -/
structure Mst (w wr : World) (f : Nat) (L : List It) (k : Nat) (v : Value) (M : List Rc) : Prop where
  rw : Rw wr w.heap.size v M
  out : M.map Rc.abs = recs f (L.take k)
  bel : Below w.heap.size w wr
  len : M.length = k
section
variable {w wr : World} {f k : Nat} {L : List It} {M : List Rc} {v : Value}
theorem Mst.start (w : World) (f : Nat) (L : List It) : Mst w w f L 0 (.slice none 0 0) [] := ⟨Rw.nil _ _, rfl, Below.refl _ _, rfl⟩
theorem Mst.take {w1 w2 : World} {x : It} {r : Rc} {A : Option Addr} {c : Nat} (h : Mst w wr f L k v M) (hk : k < L.length) (hx : L[k] = x) (hb : Below wr.heap.size wr w1)
    (hown : w2.ownsRow w.heap.size 35 4 (.slice A (M.length + 1) c) (M.length + 1) (flat (M ++ [r]))) (hg : w1.grownBy w2 v.ownBlock) (hn : ∀ g, (Value.slice A (M.length + 1) c).ownBlock = some g → v.ownBlock = some g ∨ w1.heap.size ≤ g)
    (ho : Ok w1 r) (ha : ∀ a, r.A = some a → wr.heap.size ≤ a.block) (he : r.abs = ⟨f + k, ((x.kind % 4 : Nat) : Int), x.lba, [x.fill]⟩) : Mst w w2 f L (k + 1) (.slice A (M.length + 1) c) (M ++ [r]) := by
  have hs := h.bel.size
  have r1 := h.rw.up hb
  have bt : But (fun k => v.ownBlock = some k) w1 w2 := (But.refl _ _).grown hg (fun k hk _ => hk)
  refine ⟨r1.push hown hg hn (fun y hy => by simp at hy; subst hy; exact ho) (fun y hy h0 a haa e => ?_), ?_, (h.bel.trans (hb.mono hs)).trans (bt.below (fun i e => (r1.own.lt i e).1) (Nat.le_trans hs hb.size)), by simp; exact h.len⟩
  · simp at hy; subst hy
    have := (h.rw.own.lt _ e).2
    have := ha a haa
    omega
  · rw [List.take_succ_eq_append_getElem hk, hx, recs_one, List.map_append, h.out, List.length_take, show min k L.length = k by omega, ← he]
    rfl
end

set_option maxHeartbeats 1600000 in
theorem make_any (A : Option Addr) (n c : Nat) (L : List It) (f : Nat) (w : World) (hn : n ≤ 1000) (hf : f ≤ 65535) (h : Items w A n c L) :
    Calls Try.prog 9 #[.slice A n c, .int .u16 (f : Int)] w fun e w' => ∃ v M, e = .returned v ∧ Rw w' w.heap.size v M ∧ M.map Rc.abs = recs f L ∧ M.length = n ∧ Below w.heap.size w w' := by
  have H := Lib.hid h
  clear h
  go_enter Try.func9, Try.ntmps9
  go_wp2_with fail
  go_loopw [5, 10] (fun v i wr => ∃ (k : Nat) (M : List Rc), k ≤ n ∧ i = .int .i64 k ∧ Mst w wr f L k v M) (fun _ i _ => n - (intOf i).toNat)
  case atStart => exact ⟨0, [], Nat.zero_le _, rfl, Mst.start _ _ _⟩
  case round =>
    obtain ⟨k, M, hk, rfl, hV⟩ := hrel
    obtain ⟨Av, cv, rfl, _⟩ := hV.rw.form
    have VV := Lib.hid hV
    by_cases hlt : k < n
    · have hl : k < L.length := by rw [H.out.1]; exact hlt
      obtain ⟨b, off, rfl, hat⟩ := (H.out.below hV.bel).2.2.2 (by omega)
      have hat := hat k hl
      have hlen := hV.len
      obtain ⟨x, hx⟩ : ∃ x, L[k] = x := ⟨_, rfl⟩
      rw [hx] at hat
      have HX := Lib.hid hx
      clear hV hx
      obtain ⟨xk, xl, xf⟩ := x
      obtain ⟨c0, c1, c2, hxk, hxl, _⟩ := hat
      simp only at c0 c1 c2 hxk hxl
      obtain ⟨s, hs⟩ : ∃ s : Nat, (f : Int) + (k : Int) = (s : Int) := ⟨f + k, by omega⟩
      have hs1 : s ≤ 1000000 := by omega
      obtain ⟨q, hq⟩ : ∃ q : Nat, (xk : Int) % 4 = (q : Int) := ⟨xk % 4, by omega⟩
      have hq1 : q ≤ 3 := by omega
      have EQ := Lib.hid (show (⟨s, (q : Int), xl, [xf]⟩ : Rr) = ⟨f + k, ((xk % 4 : Nat) : Int), xl, [xf]⟩ by rw [show s = f + k by omega, show ((xk % 4 : Nat) : Int) = (q : Int) by omega])
      have B2 := Lib.hid (two_new wr (.cells #[.int .u8 (xk : Int), .int .i8 xl, .int .u8 (xf.toNat : Int)] 46) (.cells #[.int .u8 (xf.toNat : Int)] 5))
      have B3 := Lib.hid (B2.out.alloc B2.out.size (.cells #[.int .u64 (s : Int), .int .i64 (q : Int), .int .i64 xl, .slice (some ⟨wr.heap.size + 1, 0, none⟩) 1 1] 35))
      have DA := Lib.hid (show Has ((wr.alloc (.cells #[.int .u8 (xk : Int), .int .i8 xl, .int .u8 (xf.toNat : Int)] 46)).alloc (.cells #[.int .u8 (xf.toNat : Int)] 5)) (some ⟨wr.heap.size + 1, 0, none⟩) 1 [xf] from
        Has.of_block (At.new _ 5 (by simp)) rfl (fun j hj => by obtain rfl : j = 0 := by simpa using hj
                                                                rfl))
      have OK := Lib.hid (show Ok (((wr.alloc (.cells #[.int .u8 (xk : Int), .int .i8 xl, .int .u8 (xf.toNat : Int)] 46)).alloc (.cells #[.int .u8 (xf.toNat : Int)] 5)).alloc (.cells #[.int .u64 (s : Int), .int .i64 (q : Int), .int .i64 xl, .slice (some ⟨wr.heap.size + 1, 0, none⟩) 1 1] 35)) ⟨s, q, xl, some ⟨wr.heap.size + 1, 0, none⟩, 1, 1, [xf]⟩ from
        ⟨DA.out.below (below_new _ _), by show 1 ≤ 100; omega, by show _ ≤ xl ∧ xl ≤ _; omega, by show s ≤ _; omega⟩)
      go_wp2_with (at_builtin; refine wpList_append_rec rfl (.tmp 15) (.tmp 32) rfl w.heap.size (.slice Av M.length cv) M.length M rfl (VV.out.rw.up B3.out).own ⟨wr.heap.size + 1 + 1, 0, none⟩ 1 1 [⟨s, q, xl, some ⟨wr.heap.size + 1, 0, none⟩, 1, 1, [xf]⟩] rfl (Src.one ⟨s, q, xl, some ⟨wr.heap.size + 1, 0, none⟩, 1, 1, [xf]⟩ (At.new _ 35 (by simp))) (by omega) (Nat.le_trans VV.out.bel.size B3.out.size) ?_; intro A3 c3 w6 hown hg hf2; have NX := Lib.hid (VV.out.take hl HX.out B3.out hown hg hf2 OK.out (fun a ha => by injection ha with ha; rw [← ha]; simp) EQ.out); clear hown hg hf2)
      go_roundw
      case rel => exact ⟨k + 1, _, by omega, by go_num, by have h := NX.out; rw [hlen] at h; exact h⟩
      case measure => simp [intOf]; omega
    · obtain rfl : k = n := by omega
      clear hV
      go_wp2
      go_ret
      have V2 := VV.out
      exact ⟨_, M, rfl, V2.rw, by rw [V2.out, List.take_of_length_le (by rw [H.out.1]; exact Nat.le_refl _)], V2.len, V2.bel⟩
end Go.Proofs.Ytclbiidgggdniaa
