/-
  TEXTS JOINED: L9LawA, L9Zeros, L9Small, L9Make, L9Early.
-/
import Derived.Test.YtplmdmchkaacoaaGreatJ34
import Derived.Test.YtplmdmchkaacoaaGreatJ20
import Derived.Test.YtplmdmchkaacoaaGreatJ22
import Derived.OrdersHeld

/-
  THE WALKS OF THE LAW'S OWN SMALL FUNCTIONS: put, sealed.
-/
namespace Go.Proofs.YtplmdmchkaacoaaGreat.L9
open Go.RowKit
set_option linter.unusedVariables false
set_option maxRecDepth 100000

theorem own_below {w w' : World} {base n : Nat} {e : TypeId} {size : Nat} {v : Value} {xs : List Value} (h : w.ownsRow base e size v n xs) (hb : Below w.heap.size w w') : w'.ownsRow base e size v n xs :=
  own_but h (S := fun _ => False) (But.of_below hb) (fun _ _ h => h)
theorem put_next {B k : Nat} {w3 : World} {v1 : Value} {N : Nat} (h : w3.ownsRow B 5 1 v1 (k + 1) ((low N k).map val ++ [val (byteAt N k)])) : w3.ownsRow B 5 1 v1 (k + 1) ((low N (k + 1)).map val) := by
  rw [low, List.map_append]
  exact h

set_option maxHeartbeats 400000 in
theorem put_any (s N : Nat) (w : World) (hs : s ≤ 8) (hN : N < 18446744073709551616) :
    Calls Tryz.prog 117 #[.int .i64 s, .int .u64 N] w (Cloned w s (low N s)) := by
  obtain ⟨i0, hi, hz0, hz1, hz2⟩ := info_parts byte_info
  go_enter Tryz.func117, Tryz.ntmps117
  go_wp2
  go_loopw [1, 5, 7] (fun q v i wr => ∃ k Q : Nat, k ≤ s ∧ i = .int .i64 k ∧ Q = N / 256 ^ k ∧ q = .int .u64 Q ∧ wr.ownsRow w.heap.size 5 1 v k ((low N k).map val) ∧ Below w.heap.size w wr) (fun _ _ i _ => s - (RowKit.intOf i).toNat)
  case atStart => exact ⟨0, N, Nat.zero_le _, rfl, by simp, rfl, World.ownsRow_nil _ _ _ _, Below.refl _ _⟩
  case round =>
    obtain ⟨k, Q, hk, rfl, hQ, rfl, hown, hbel⟩ := hrel
    have hQl : Q < 18446744073709551616 := by rw [hQ]; exact Nat.lt_of_le_of_lt (Nat.div_le_self _ _) hN
    have HQ := Lib.hid hQ
    have HO := Lib.hid hown
    have HB := Lib.hid hbel
    have hsz := hbel.size
    clear hown hbel hQ
    by_cases hlt : k < s
    · have hy : (Q : Int) % (256 : Int) = ((byteAt N k).toNat : Int) := by
        rw [HQ.out]
        unfold byteAt
        rw [BitVec.toNat_ofNat, pow8]
        omega
      have HY := Lib.hid hy
      clear hy
      go_wp2_with (at_builtin; refine wpList_append_own _ rfl (.tmp 9) (.tmp 13) 57 rfl w.heap.size 5 i0 (.int .u8 0) 1 1 Tryz.underlying57 hi hz0 hz1 hz2 rfl (by decide) u5 k _ rfl (HO.out.alloc _) ⟨wr.heap.size, 0, none⟩ 1 1 [val (byteAt N k)] rfl rfl (one_new (heap_alloc_new _ _) HY.out) (val_one [byteAt N k]) (by unfold maxLen; omega) (by omega) (by simp; omega) ?_; intro v1 w3 hown3 hg3 _)
      have R := Lib.hid (put_next hown3)
      have RB := Lib.hid ((HB.out.alloc hsz _).grown hg3 (by simp; omega) (fun g hg => (HO.out.lt g hg).1))
      clear hown3 hg3
      go_roundw
      case rel => exact ⟨k + 1, Q / 256, by omega, by go_num, by rw [HQ.out, Nat.div_div_eq_div_mul, Nat.pow_succ], by go_num, R.out, RB.out⟩
      case measure => simp [RowKit.intOf]; omega
    · obtain rfl : k = s := by omega
      go_wp2
      go_ret
      exact ⟨_, rfl, HO.out, HB.out⟩

/-- Bytes, cloned, with more bytes behind them. -/
theorem fresh_more {w w1 w2 w3 : World} {v1 v3 : Value} {n m : Nat} {l k : List (BitVec 8)} (h1 : Fresh w n l v1 w1) (h2 : Below w1.heap.size w1 w2) (hown : w3.ownsRow w.heap.size 5 1 v3 (n + m) (l.map val ++ k.map val)) (hg : w2.grownBy w3 v1.ownBlock) :
    Fresh w (n + m) (l ++ k) v3 w3 := by
  refine ⟨by rw [List.map_append]; exact hown, (h1.2.trans (h2.mono h1.2.size)).grown hg (Nat.le_trans h1.2.size h2.size) (fun g hg => (h1.1.lt g hg).1)⟩

set_option maxHeartbeats 400000 in
theorem sealed_any (A : Option Addr) (n cap : Nat) (l : List (BitVec 8)) (w : World) (hn : n ≤ 1000000) (h : Has w A n l) :
    Calls Tryz.prog 71 #[.slice A n cap] w (Cloned w (n + 4) (sealL l)) := by
  have H := Lib.hid h
  clear h
  go_enter Tryz.func71, Tryz.ntmps71
  go_wp2_with fail
  refine (clone_any A n cap l w hn H.out).mono ?_
  rintro e w1 ⟨v1, rfl, hf⟩
  have H1 := Lib.hid (H.out.below hf.2)
  have F := Lib.hid hf
  clear hf
  go_wp2_with fail
  refine (ref_any A n cap l w1 hn H1.out).mono ?_
  rintro e w' ⟨rfl, rfl⟩
  have hc := lt32 (Crc.sum l)
  go_wp2_with fail
  refine (put_any 4 (Crc.sum l).toNat w1 (by omega) (by omega)).mono ?_
  rintro e w2 ⟨v2, rfl, hf2⟩
  obtain ⟨A2, c2, rfl, _, _, hnil2, hh2, _⟩ := own_slice hf2.1
  have HH2 := Lib.hid hh2
  have N2 := Lib.hid hnil2
  have F2 := Lib.hid hf2.2
  have O1 := Lib.hid (own_below F.out.1 hf2.2)
  clear hf2 hh2 hnil2
  go_wp2_with (at_builtin; refine wpList_append_has rfl (.tmp 4) (.tmp 8) rfl w.heap.size v1 n l rfl O1.out A2 4 c2 _ rfl HH2.out N2.out (by omega) (by have := F.out.2.size; have := F2.out.size; omega) ?_; intro A3 cap3 w3 hown3 hg3 hf3; have R := Lib.hid (fresh_more F.out F2.out hown3 hg3); clear hown3 hg3 hf3)
  go_ret
  refine ⟨_, rfl, ?_⟩
  have := R.out
  rw [← crc_low] at this
  exact this

end Go.Proofs.YtplmdmchkaacoaaGreat.L9

/-
  THE WALKS OF zeros, AND OF WHAT IT CALLS.
-/
namespace Go.Proofs.YtplmdmchkaacoaaGreat.L9
open Go.RowKit
set_option linter.unusedVariables false
set_option maxRecDepth 100000

/-- All are noughts. -/
def None0 (l : List (BitVec 8)) : Prop := ∀ x ∈ l, x = 0#8
def First (l : List (BitVec 8)) (i : Int) : Prop := (i = -1 ∧ None0 l) ∨ (0 ≤ i ∧ i ≤ 1000000 ∧ ¬ None0 l)

end Go.Proofs.YtplmdmchkaacoaaGreat.L9

/-
  THE WALKS OF slices.Equal over entries, enough, wrong, IndexFunc and ContainsFunc over entries.
-/
namespace Go.Proofs.YtplmdmchkaacoaaGreat.L9
open Go.RowKit
set_option linter.unusedVariables false
set_option maxRecDepth 100000


def Alike (p : Prop) (w : World) (e : Ending) (w' : World) : Prop := ∃ d : Bool, e = .returned (.bool d) ∧ (d = true ↔ p) ∧ ∃ m, w' = w.drewN m

theorem en_next {l k : List En} {j : Nat} (hl : j < l.length) (hk : j < k.length) (h : l[j] = k[j]) (e : l.take j = k.take j) : l.take (j + 1) = k.take (j + 1) := by
  rw [List.take_succ_eq_append_getElem hl, List.take_succ_eq_append_getElem hk, e, h]
theorem en_differ {l k : List En} {j : Nat} (hl : j < l.length) (hk : j < k.length) (h : ¬ l[j] = k[j]) : ¬ l = k := by
  rintro rfl
  exact h rfl
theorem en_all {l k : List En} {j : Nat} (hl : l.length = j) (hk : k.length = j) (e : l.take j = k.take j) : l = k := by
  rwa [List.take_of_length_le (by omega), List.take_of_length_le (by omega)] at e

set_option maxHeartbeats 800000 in
theorem eequal_any (A B : Option Addr) (n m c d : Nat) (l k : List En) (w : World) (hn : n ≤ 1000000) (hm : m ≤ 1000000) (h : Ers w A n l) (g : Ers w B m k) :
    Calls Tryz.prog 73 #[.slice A n c, .slice B m d] w (Alike (l = k) w) := by
  by_cases hnm : n = m
  · subst hnm
    have H := Lib.hid h
    have G := Lib.hid g
    clear h g
    go_enter Tryz.func73, Tryz.ntmps73
    go_wp2
    go_loopw [13] (fun i wr => ∃ j q : Nat, j ≤ n ∧ i = .int .i64 j ∧ wr = w.drewN q ∧ l.take j = k.take j) (fun i _ => n - (RowKit.intOf i).toNat)
    case atStart => exact ⟨0, 0, Nat.zero_le _, rfl, rfl, rfl⟩
    case round =>
      obtain ⟨j, q, hj, rfl, rfl, hlk⟩ := hrel
      have HK := Lib.hid hlk
      clear hlk
      by_cases hlt : j < n
      · obtain ⟨b, off, rfl⟩ := H.out.some_ (by omega)
        obtain ⟨b2, off2, rfl⟩ := G.out.some_ (by omega)
        have hjl : j < l.length := by rw [H.out.1]; omega
        have hjk : j < k.length := by rw [G.out.1]; omega
        obtain ⟨hc, hc'⟩ := H.out.cell j (by omega)
        obtain ⟨hd, hd'⟩ := G.out.cell j (by omega)
        by_cases he : l[j] = k[j]
        · have hq := fun w => ent_neq_no (k[j].k : Int) (k[j].b : Int) w
          rw [he] at hc hc'
          have HE := Lib.hid he
          clear he
          go_wp2
          go_quiet (fail)
          go_wp2
          go_roundw
          case rel => exact ⟨j + 1, _, by omega, by go_num, rfl, en_next hjl hjk HE.out HK.out⟩
          case measure => simp [RowKit.intOf]; omega
        · have hq := fun w => ent_neq_yes (k := (l[j].k : Int)) (b := (l[j].b : Int)) (k' := (k[j].k : Int)) (b' := (k[j].b : Int)) (fun h => he (En.ext2 (by omega) (by omega))) w
          have HE := Lib.hid he
          clear he
          go_wp2
          go_quiet (fail)
          go_wp2
          go_ret
          exact ⟨_, rfl, ⟨fun h => (by cases h), fun h => (en_differ hjl hjk HE.out h).elim⟩, _, World.drewN_drewN _ _ _⟩
      · have e : j = n := by omega
        subst e
        go_wp2
        go_ret
        exact ⟨_, rfl, ⟨fun _ => en_all H.out.1 G.out.1 HK.out, fun _ => rfl⟩, _, rfl⟩
  · have hd : ¬ l = k := by
      rintro rfl
      exact hnm (h.1.symm.trans g.1)
    have HD := Lib.hid hd
    clear hd h g
    go_enter Tryz.func73, Tryz.ntmps73
    go_wp2
    go_ret
    exact ⟨_, rfl, ⟨fun h => (by cases h), fun h => (HD.out h).elim⟩, 0, rfl⟩

def Said (p : Prop) (w : World) (e : Ending) (w' : World) : Prop := ∃ d : Bool, e = .returned (.bool d) ∧ (d = true ↔ p) ∧ Below w.heap.size w w'
def SaidStill (p : Prop) (w : World) (e : Ending) (w' : World) : Prop := ∃ d : Bool, e = .returned (.bool d) ∧ (d = true ↔ p) ∧ w = w'
/-- The first entry that is none: -1, or some number. -/
def FirstE (es : List En) (i : Int) : Prop := (i = -1 ∧ Fine es) ∨ (0 ≤ i ∧ i ≤ 1000000 ∧ ¬ Fine es)
end Go.Proofs.YtplmdmchkaacoaaGreat.L9

/-
  THE WALK OF Make: a note by small numbers.
-/
namespace Go.Proofs.YtplmdmchkaacoaaGreat.L9
open Go.RowKit
set_option linter.unusedVariables false
set_option maxRecDepth 100000


/-- A slot by small numbers. -/
structure Sl where
  k : Nat
  b : Nat
def mk (x : Sl) : En := ⟨x.k % 4, if x.k % 4 = 0 then 0 else x.b⟩
/-- The slice (A, n) holds the slots L. -/
def Sls (w : World) (A : Option Addr) (n : Nat) (L : List Sl) : Prop :=
  L.length = n ∧ (0 < n → ∃ b off, A = some ⟨b, off, none⟩ ∧ b < w.heap.size ∧ ∀ k (h : k < L.length), w.cell? ⟨b, off + k * 2, none⟩ = some (.int .u8 (L[k].k : Int)) ∧ w.cell? ⟨b, off + k * 2 + 1, none⟩ = some (.int .u32 (L[k].b : Int))) ∧ ∀ x ∈ L, x.k < 256 ∧ x.b < 4294967296
section
variable {w w' : World} {A : Option Addr} {n : Nat} {L : List Sl} {S : Nat → Prop}
theorem Sls.some_ (h : Sls w A n L) (hn : 0 < n) : ∃ b off, A = some ⟨b, off, none⟩ := by
  obtain ⟨b, off, e, _⟩ := h.2.1 hn
  exact ⟨b, off, e⟩
theorem Sls.cell {b off : Nat} (h : Sls w (some ⟨b, off, none⟩) n L) (k : Nat) (hk : k < n) : w.cell? ⟨b, off + k * 2, none⟩ = some (.int .u8 ((L[k]'(by rw [h.1]; exact hk)).k : Int)) ∧ w.cell? ⟨b, off + k * 2 + 1, none⟩ = some (.int .u32 ((L[k]'(by rw [h.1]; exact hk)).b : Int)) := by
  obtain ⟨b', off', e, hb, hc⟩ := h.2.1 (by omega)
  injection e with e
  injection e with e1 e2
  subst e1 e2
  exact hc k (by rw [h.1]; exact hk)
theorem Sls.below (h : Sls w A n L) (hb : Below w.heap.size w w') : Sls w' A n L :=
  ⟨h.1, fun h0 => by
    obtain ⟨b, off, e, hlt, hc⟩ := h.2.1 h0
    exact ⟨b, off, e, Nat.lt_of_lt_of_le hlt hb.size, fun k hk => ⟨(hb.cell (p := ⟨b, off + k * 2, none⟩) hlt).trans (hc k hk).1, (hb.cell (p := ⟨b, off + k * 2 + 1, none⟩) hlt).trans (hc k hk).2⟩⟩, h.2.2⟩
theorem Sls.take (h : Sls w A n L) (m : Nat) (hm : m ≤ n) : Sls w A m (L.take m) :=
  ⟨by rw [List.length_take, h.1]; omega, fun h0 => by
    obtain ⟨b, off, e, hlt, hc⟩ := h.2.1 (by omega)
    refine ⟨b, off, e, hlt, fun k hk => ?_⟩
    have hk' : k < L.length := by rw [List.length_take] at hk; omega
    rw [List.getElem_take]
    exact hc k hk', fun x hx => h.2.2 x (List.mem_of_mem_take hx)⟩
end
theorem mk_ok (x : Sl) : (mk x).ok := by
  unfold mk En.ok
  constructor
  · show x.k % 4 ≤ 3
    omega
  · intro h
    show (if x.k % 4 = 0 then 0 else x.b) = 0
    rw [if_pos h]
theorem mk_fits (x : Sl) (h : x.b < 4294967296) : (mk x).fits := by
  unfold mk En.fits
  constructor
  · show x.k % 4 < 256
    omega
  · show (if x.k % 4 = 0 then 0 else x.b) < _
    split <;> omega
theorem mk_zero {x : Sl} (h : x.k % 4 = 0) : mk x = ⟨0, 0⟩ := by
  unfold mk
  rw [if_pos h, h]
theorem mk_some {x : Sl} {r : Nat} (h : x.k % 4 = r) (hr : ¬ r = 0) : mk x = ⟨r, x.b⟩ := by
  unfold mk
  rw [if_neg (by omega), h]
theorem fine_mk (L : List Sl) : Fine (L.map mk) := by
  intro x hx
  obtain ⟨y, _, rfl⟩ := List.mem_map.1 hx
  exact mk_ok y
theorem fits_mk {w : World} {A : Option Addr} {n : Nat} {L : List Sl} (h : Sls w A n L) : ∀ x ∈ L.map mk, x.fits := by
  intro x hx
  obtain ⟨y, hy, rfl⟩ := List.mem_map.1 hx
  exact mk_fits y (h.2.2 y hy).2
theorem map_next (L : List Sl) (k : Nat) (h : k < L.length) : (L.take (k + 1)).map mk = (L.take k).map mk ++ [mk L[k]] := by
  rw [List.take_succ_eq_append_getElem h, List.map_append]
  rfl

/-- The answer's block, the note's block behind it, whose row holds es. -/
structure Mkg (w0 w : World) (q : Nat) (z : Int) (v : Value) (es : List En) : Prop where
  res : At w w0.heap.size #[.int .u64 0, .int .i64 0, .slice none 0 0] 66
  box : At w (w0.heap.size + 1) #[.int .u64 (q : Int), .int .i64 z, v] 66
  own : w.ownsRow (w0.heap.size + 1 + 1) 73 2 v es.length (flat es)
  bel : Below w0.heap.size w0 w
theorem Mkg.base {w0 w : World} {q : Nat} {z : Int} {v : Value} {es : List En} (h : Mkg w0 w q z v es) : w0.heap.size + 1 + 1 ≤ w.heap.size := h.box.lt
theorem Mkg.up {w0 w w' : World} {q : Nat} {z : Int} {v : Value} {es : List En} (h : Mkg w0 w q z v es) (hb : Below w.heap.size w w') : Mkg w0 w' q z v es :=
  ⟨h.res.below hb h.res.lt, h.box.below hb h.box.lt, own_below h.own hb, h.bel.trans (hb.mono h.bel.size)⟩
/-- The row has grown, and the note holds it. -/
theorem Mkg.push {w0 w wa w2 : World} {q n : Nat} {z : Int} {v : Value} {es : List En} {x : En} {A : Option Addr} {c : Nat} (h : Mkg w0 w q z v es) (ha : Below w.heap.size w wa) (hown : w2.ownsRow (w0.heap.size + 1 + 1) 73 2 (.slice A n c) n (flat (es ++ [x]))) (hg : wa.grownBy w2 v.ownBlock) :
    Mkg w0 (w2.setCell ⟨w0.heap.size + 1, 2, none⟩ (.slice A n c)) q z (.slice A n c) (es ++ [x]) := by
  have h1 := h.up ha
  have lo : ∀ k, v.ownBlock = some k → w0.heap.size + 1 + 1 ≤ k := fun k hk => (h.own.lt k hk).1
  have bt : But (fun k => v.ownBlock = some k) wa w2 := (But.refl _ _).grown hg (fun k hk _ => hk)
  have hn : n = (es ++ [x]).length := by have := hown.1; rw [flat_len] at this; omega
  have bs : But (fun k => k = w0.heap.size + 1) w2 (w2.setCell ⟨w0.heap.size + 1, 2, none⟩ (.slice A n c)) := (But.refl (fun k => k = w0.heap.size + 1) w2).setCell (p := ⟨w0.heap.size + 1, 2, none⟩) (fun _ => rfl) _
  have hx2 := h1.box.but bt (fun e => by have := lo _ e; omega)
  have hb2 : Below w0.heap.size w0 w2 := h1.bel.trans (bt.below (fun k e => by have := lo k e; omega) (by have := h1.base; omega))
  refine ⟨(h1.res.but bt (fun e => by have := lo _ e; omega)).but bs (by omega), hx2.set 2 _, ?_, hb2.setCell (by show w0.heap.size ≤ w0.heap.size + 1; omega) _⟩
  rw [← hn]
  exact own_but hown bs (fun k hk e => by have := (hown.lt k hk).1; omega)
theorem Mkg.after {w0 w wa w2 : World} {q : Nat} {z : Int} {v : Value} {es : List En} (h : Mkg w0 w q z v es) (ha : Below w.heap.size w wa) (hg : wa.grownBy w2 v.ownBlock) : At w2 (w0.heap.size + 1) #[.int .u64 (q : Int), .int .i64 z, v] 66 :=
  (h.up ha).box.but (S := fun k => v.ownBlock = some k) ((But.refl _ _).grown hg (fun k hk _ => hk)) (fun e => by have := (h.own.lt _ e).1; omega)

theorem BB3 (w : World) (o p q : Obj) : Below w.heap.size w (((w.alloc o).alloc p).alloc q) := (((Below.refl _ _).alloc (Nat.le_refl _) _).alloc (by simp) _).alloc (by simp; omega) _
theorem note_all (q : Nat) (z : Int) (A : Option Addr) (n c : Nat) : (#[.int .u64 (q : Int), .int .i64 z, .slice A n c] : Array Value).all (·.oneCell') = true := by simp [Value.oneCell']
theorem note_part (u : Value) (v : Value) (x : Value) (q : Nat) (z : Int) (A : Option Addr) (n c : Nat) : part #[u, v, x] 0 #[.int .u64 (q : Int), .int .i64 z, .slice A n c] = #[.int .u64 (q : Int), .int .i64 z, .slice A n c] := rfl
def Made (w : World) (q : Nat) (z : Int) (n : Nat) (es : List En) (e : Ending) (w' : World) : Prop :=
  ∃ A c, e = .returned (.agg #[.int .u64 (q : Int), .int .i64 z, .slice A n c]) ∧ Ers w' A n es ∧ Below w.heap.size w w'
end Go.Proofs.YtplmdmchkaacoaaGreat.L9

/-
  A REGION THAT DRAWS ITS ORDER AND ENDS IN A STORE TO A CELL THAT IT LOADS: the load may be taken first, if what it reads holds behind every operation that may come before it; of those that wait for the load (the store) nothing is asked.
-/
namespace Go.Proofs.YtplmdmchkaacoaaGreat.L9
set_option maxRecDepth 100000
open Go

section
variable {P : Program} {ops : Array Oper} {Q : Exit → Act → World → Prop} {md : Region.Mode} {S : World → Prop} {E : Nat → Bool}

end

end Go.Proofs.YtplmdmchkaacoaaGreat.L9
