/-
  TEXTS JOINED: WalkA, Disk2, Lay.
-/
import Derived.Test.YtplmdmchkaacoaaGreatJ01
import Derived.Test.YtplmdmchkaacoaaGreatJ02
import Derived.IntWalk
import Derived.Test.YtplmdmchkaacoaaGreatProg
import Derived.Shelf.SlMaps.Copy

/-
  THE WALKS OF slices.Clone AND slices.Equal.
-/
namespace Go.Proofs.YtplmdmchkaacoaaGreat
open Go.RowKit
set_option linter.unusedVariables false
set_option maxRecDepth 100000

set_option maxHeartbeats 400000 in
theorem clone_any (A : Option Addr) (n cap : Nat) (l : List (BitVec 8)) (w : World) (hn : n ≤ 1000000) (h : Has w A n l) :
    Calls Tryz.prog 113 #[.slice A n cap] w (Cloned w n l) := by
  have hnil := fun (w : World) (a : Option Addr) (n c : Nat) => Lib.run_eql_slice_nil (P := Tryz.prog) w 57 5 a n c 0 0 Tryz.underlying57
  obtain ⟨i0, hi, hz0, hz1, hz2⟩ := info_parts byte_info
  rcases A with _ | x
  · have h0 : n = 0 := by
      rcases Nat.eq_zero_or_pos n with h0 | h0
      · exact h0
      · obtain ⟨b, off, e⟩ := h.some_ h0
        cases e
    subst h0
    have hl : l = [] := List.eq_nil_of_length_eq_zero h.1
    subst hl
    clear h
    go_enter Tryz.func113, Tryz.ntmps113
    go_wp2
    go_ret
    exact ⟨_, rfl, World.ownsRow_nil _ _ _ _, Below.refl _ _⟩
  · have H := Lib.hid h
    clear h
    go_enter Tryz.func113, Tryz.ntmps113
    go_wp2_with (at_builtin; refine wpList_append_own _ rfl (.tmp 5) (.tmp 6) 57 rfl w.heap.size 5 i0 (.int .u8 0) 1 1 Tryz.underlying57 hi hz0 hz1 hz2 rfl (by decide) (.slice (some ⟨w.heap.size, 0, none⟩) 0 0) 0 [] rfl (World.ownsRow_made w #[] 0 (Nat.le_refl _) (by unfold maxLen; omega) rfl) x n cap (l.map val) rfl (by simp [H.out.1]) (H.out.below ((Below.refl _ _).alloc (Nat.le_refl _) _)).cells (val_one l) (by unfold maxLen; omega) (by omega) (by simp) ?_; intro v' w1 hown hg hx)
    go_ret
    refine ⟨_, rfl, by simpa using hown, ((Below.refl w.heap.size w).alloc (Nat.le_refl _) _).grown hg (by simp) (fun k hk => ?_)⟩
    simp [Value.ownBlock] at hk
    omega

theorem ret_no {p : Prop} [Decidable p] (h : ¬ p) : Ending.returned (.bool false) = .returned (.bool (decide p)) := by rw [decide_eq_false h]
theorem ret_yes {p : Prop} [Decidable p] (h : p) : Ending.returned (.bool true) = .returned (.bool (decide p)) := by rw [decide_eq_true h]
theorem differ_at {l k : List (BitVec 8)} {j : Nat} (hl : j < l.length) (hk : j < k.length) (h : ((l[j].toNat : Int) != (k[j].toNat : Int)) = true) : ¬ l = k := by
  rintro rfl
  simp at h
theorem alike_next {l k : List (BitVec 8)} {j : Nat} (hl : j < l.length) (hk : j < k.length) (h : ((l[j].toNat : Int) != (k[j].toNat : Int)) = false) (e : l.take j = k.take j) : l.take (j + 1) = k.take (j + 1) := by
  have h1 : l[j] = k[j] := by
    apply BitVec.eq_of_toNat_eq
    have : (l[j].toNat : Int) = (k[j].toNat : Int) := by simpa using h
    omega
  rw [List.take_succ_eq_append_getElem hl, List.take_succ_eq_append_getElem hk, e, h1]
theorem alike_all {l k : List (BitVec 8)} {j : Nat} (hl : l.length = j) (hk : k.length = j) (e : l.take j = k.take j) : l = k := by
  rwa [List.take_of_length_le (by omega), List.take_of_length_le (by omega)] at e
theorem differ_len {w : World} {A B : Option Addr} {n m : Nat} {l k : List (BitVec 8)} (h : Has w A n l) (g : Has w B m k) (hne : ¬ n = m) : ¬ l = k := by
  rintro rfl
  exact hne (h.1.symm.trans g.1)

set_option maxHeartbeats 400000 in
theorem equal_any (A B : Option Addr) (n m c d : Nat) (l k : List (BitVec 8)) (w : World) (hn : n ≤ 1000000) (hm : m ≤ 1000000) (h : Has w A n l) (g : Has w B m k) :
    Calls Tryz.prog 22 #[.slice A n c, .slice B m d] w (Quiet (.bool (decide (l = k))) w) := by
  by_cases hnm : n = m
  · subst hnm
    have H := Lib.hid h
    have G := Lib.hid g
    clear h g
    go_enter Tryz.func22, Tryz.ntmps22
    go_wp2
    go_loopw [13] (fun i wr => ∃ j q : Nat, j ≤ n ∧ i = .int .i64 j ∧ wr = w.drewN q ∧ l.take j = k.take j) (fun i _ => n - (RowKit.intOf i).toNat)
    case atStart => exact ⟨0, 0, Nat.zero_le _, rfl, rfl, rfl⟩
    case round =>
      obtain ⟨j, q, hj, rfl, rfl, hlk⟩ := hrel
      have HK := Lib.hid hlk
      clear hlk
      by_cases hlt : j < n
      · obtain ⟨b, off, rfl⟩ := H.out.some_ (by omega)
        obtain ⟨b2, off2, rfl⟩ := G.out.some_ (by omega)
        have hjl : j < l.length := by rw [H.out.1]; omega
        have hjk : j < k.length := by rw [G.out.1]; omega
        have hc : w.cell? ⟨b, off + j, none⟩ = some (.int .u8 (l[j].toNat : Int)) := H.out.cell j (by omega)
        have hc2 : w.cell? ⟨b2, off2 + j, none⟩ = some (.int .u8 (k[j].toNat : Int)) := G.out.cell j (by omega)
        go_wp2
        go_quiet (fail)
        go_wp2
        · have hne : ((l[j].toNat : Int) != (k[j].toNat : Int)) = true := by assumption
          go_ret
          exact ⟨ret_no (differ_at hjl hjk hne), _, World.drewN_drewN _ _ _⟩
        · have he : ((l[j].toNat : Int) != (k[j].toNat : Int)) = false := by assumption
          go_roundw
          case rel => exact ⟨j + 1, _, by omega, by go_num, rfl, alike_next hjl hjk he HK.out⟩
          case measure => simp [RowKit.intOf]; omega
      · have e : j = n := by omega
        subst e
        go_wp2
        go_ret
        exact ⟨ret_yes (alike_all H.out.1 G.out.1 HK.out), _, rfl⟩
  · have hd := differ_len h g hnm
    have HD := Lib.hid hd
    clear hd h g
    go_enter Tryz.func22, Tryz.ntmps22
    go_wp2
    go_ret
    exact ⟨ret_no HD.out, 0, rfl⟩
end Go.Proofs.YtplmdmchkaacoaaGreat

/-
  THE WALKS OF last, Read AND Write.
-/
namespace Go.Proofs.YtplmdmchkaacoaaGreat
open Go.RowKit Go.Maps
set_option linter.unusedVariables false
set_option maxRecDepth 100000

def pad (l : List (BitVec 8)) (M : Nat) : List (BitVec 8) := l ++ List.replicate (M - l.length) 0#8
theorem pad_len (l : List (BitVec 8)) (M : Nat) (h : l.length ≤ M) : (pad l M).length = M := by simp [pad]; omega
theorem pad_full (l : List (BitVec 8)) (M : Nat) (h : l.length = M) : pad l M = l := by simp [pad, h]
theorem pad_nil (M : Nat) : pad [] M = List.replicate M 0#8 := by simp [pad]

theorem byte_size : (Tryz.prog.info? 5).map (·.size) = some 1 := by kernel_rfl
theorem made_row {w w1 : World} {M : Nat} (h : w1.ownsRow w.heap.size 5 1 (.slice (some ⟨w.heap.size, 0, none⟩) M M) M (madeCells (Value.int .u8 0).cells (M * 1)).toList) :
    w1.heap[w.heap.size]? = some (.cells (List.replicate M (Value.int .u8 0)).toArray 5 (0, 0)) := by
  rcases h.2 with ⟨e, _⟩ | ⟨g, cap, cur, e, _, hh, _, _, hs, ht⟩
  · cases e
  · injection e with e1 _ e2
    injection e1 with e1
    injection e1 with e1
    subst e1 e2
    rw [hh]
    congr 2
    apply Array.ext'
    rw [List.take_of_length_le (by simp [hs])] at ht
    rw [ht, show (Value.int .u8 0).cells = #[.int .u8 0] from rfl, toList_madeCells_one]
    simp
theorem spliced (l : List (BitVec 8)) (M : Nat) (h : l.length ≤ M) : splice (List.replicate M (Value.int .u8 0)) 0 (l.map val) = (pad l M).map val := by
  simp [splice, pad, val]

theorem copy_run {w w1 : World} {B g M n c : Nat} {A : Option Addr} {l : List (BitVec 8)} (hg : w1.heap[g]? = some (.cells (List.replicate M (Value.int .u8 0)).toArray 5 (0, 0))) (hh : Has w1 A n l) (hn : n ≤ M)
    (hb : Below B w w1) (hB : B ≤ g) : ∃ w2, (Builtin.copy_ #[57, 57] 3 #[.slice (some ⟨g, 0, none⟩) M M, .slice A n c]).run Tryz.prog w1 = .ok (goInt n) w2 ∧
      w2.heap[g]? = some (.cells ((pad l M).map val).toArray 5 (0, 0)) ∧ Below B w w2 := by
  have hl := hh.1
  by_cases h0 : n = 0
  · subst h0
    obtain rfl : l = [] := List.eq_nil_of_length_eq_zero hl
    refine ⟨w1, run_copy_none (P := Tryz.prog) w1 57 57 3 5 _ _ _ _ _ _ Tryz.underlying57 byte_size (by simp), ?_, hb⟩
    rw [← spliced [] M (by simp)]
    simpa [splice] using hg
  · obtain ⟨b, off, rfl⟩ := hh.some_ (by omega)
    have hrun := run_copy_row (P := Tryz.prog) w1 57 57 3 5 g 0 M M ⟨b, off, none⟩ n c _ 5 (l.map val) Tryz.underlying57 byte_size hg (by rw [List.length_map, hl]; exact (Nat.min_eq_left hn).symm) hh.cells (by simp [hl]; omega) (val_one l)
    rw [show (List.map val l).length = n by simp [hl]] at hrun
    refine ⟨_, hrun, ?_, below_setRow hb hB _⟩
    rw [← spliced l M (by omega)]
    simpa [splice, hl] using setRow_heap w1 g _ _ 5 _ hg

theorem own_of_row {w1 : World} {B g M : Nat} {l : List (BitVec 8)} (h : w1.heap[g]? = some (.cells (l.map val).toArray 5 (0, 0))) (hl : l.length = M) (hM : M ≤ maxLen) (hB : B ≤ g) :
    w1.ownsRow B 5 1 (.slice (some ⟨g, 0, none⟩) M M) M (l.map val) :=
  ⟨by simp [hl], .inr ⟨g, M, _, rfl, hB, h, Nat.le_refl _, hM, by simp [hl], List.take_of_length_le (by simp [hl])⟩⟩

/-- What was written last as sector i. -/
def DS.last (s : DS) (i : Int) : Option Bytes := match s.wait i with | some b => some b | none => s.on i
/-- What is read. -/
def DS.read (s : DS) (i : Int) : Bytes := (s.last i).getD (List.replicate s.size 0#8)

theorem zero28 (w : World) : (zeroValue 57).run Tryz.prog w = .ok (.slice none 0 0) w := by kernel_rfl
theorem zero3 (w : World) : (zeroValue 3).run Tryz.prog w = .ok (.int .i64 0) w := by kernel_rfl

section
variable {w : World} {g p : Nat} {T : Nat → Prop} {s : DS}

theorem in64_of (h : Dk w g p T s) {i : Int} (hi : s.has i) : In64 i := by
  obtain ⟨bd, bw, bn, fd, fw, fn, h⟩ := h
  have := h.small
  unfold DS.has at hi
  unfold In64
  omega

/-- What last hands back. -/
def Lasts (w : World) (s : DS) (i : Int) (v : Value) : Prop := ∃ A n cap l, v = .slice A n cap ∧ Has w A n l ∧ n ≤ s.size ∧ pad l s.size = s.read i

set_option maxHeartbeats 400000 in
theorem last_any (i : Int) (hi : In64 i) (h : Dk w g p T s) : Calls Tryz.prog 186 #[.pointer (some ⟨g, 0, none⟩), .int .i64 i] w fun e w' => ∃ v, e = .returned v ∧ w' = w ∧ Lasts w s i v := by
  obtain ⟨bd, bw, bn, fd, fw, fn, h⟩ := h
  obtain ⟨c0, c1, c2, c3, c4, c5, c6, c7⟩ := h.cell
  clear c0 c1 c2 c5 c6 c7
  rcases h.rowsWait i with ⟨k1, k2⟩ | ⟨A, cap, l, k1, k2, k3, k4, k5⟩
  · have hl := h.wait.look_ok Tryz.underlying52 (zero28 w) hi (u := .slice none 0 0) (by rw [k1]; rfl) (ok := false) (by rw [k1]; rfl)
    rcases h.rowsOn i with ⟨j1, j2⟩ | ⟨A, cap, l, j1, j2, j3, j4, j5⟩
    · have hd := h.on.look Tryz.underlying52 (zero28 w) hi (u := .slice none 0 0) (by rw [j1]; rfl)
      have R : Lasts w s i (.slice none 0 0) := ⟨none, 0, 0, [], rfl, Has.nil _ _, Nat.zero_le _, by rw [pad_nil]; simp [DS.read, DS.last, k2, j2]⟩
      have HR := Lib.hid R
      clear h R k1 k2 j1 j2
      go_enter Tryz.func186, Tryz.ntmps186
      go_wp2
      go_ret
      exact ⟨_, rfl, rfl, HR.out⟩
    · have hd := h.on.look Tryz.underlying52 (zero28 w) hi (u := .slice A s.size cap) (by rw [j1]; rfl)
      have R : Lasts w s i (.slice A s.size cap) := ⟨A, s.size, cap, l, rfl, j3, Nat.le_refl _, by rw [pad_full _ _ j3.1]; simp [DS.read, DS.last, k2, j2]⟩
      have HR := Lib.hid R
      clear h R k1 k2 j1 j2 j3 j4 j5
      go_enter Tryz.func186, Tryz.ntmps186
      go_wp2
      go_ret
      exact ⟨_, rfl, rfl, HR.out⟩
  · have hl := h.wait.look_ok Tryz.underlying52 (zero28 w) hi (u := .slice A s.size cap) (by rw [k1]; rfl) (ok := true) (by rw [k1]; rfl)
    have R : Lasts w s i (.slice A s.size cap) := ⟨A, s.size, cap, l, rfl, k3, Nat.le_refl _, by rw [pad_full _ _ k3.1]; simp [DS.read, DS.last, k2]⟩
    have HR := Lib.hid R
    clear h R k1 k2 k3 k4 k5
    go_enter Tryz.func186, Tryz.ntmps186
    go_wp2
    go_ret
    exact ⟨_, rfl, rfl, HR.out⟩

theorem read_arg (i : Int) (hi : ¬ s.has i) (h : Dk w g p T s) : Calls Tryz.prog 181 #[.pointer (some ⟨g, 0, none⟩), .int .i64 i] w fun e w' => e = .returned (.tuple #[.slice none 0 0, .int .i64 1]) ∧ w' = w := by
  have hn : decide (s.has i) = false := decide_eq_false hi
  have HD := Lib.hid h
  clear h hi
  go_enter Tryz.func181, Tryz.ntmps181
  go_wp2_with fail
  refine (has_any i HD.out).mono ?_
  rintro e w' ⟨rfl, rfl⟩
  rw [hn]
  go_wp2
  go_ret2
  exact ⟨rfl, rfl⟩

/-- What is read by the operation behind the u-th: nothing on a disk that has failed. -/
def DS.got (s : DS) (u i : Int) : Bytes := if (s.op u).dead then [] else s.read i
theorem DS.got_ok {s : DS} {u : Int} (i : Int) (h : (s.op u).dead = false) : s.got u i = s.read i := by simp [DS.got, h]
theorem DS.got_no {s : DS} {u : Int} (i : Int) (h : (s.op u).dead = true) : s.got u i = [] := by simp [DS.got, h]
/-- A new row that holds these bytes. -/
def NewRow (w w' : World) (v : Value) (l : Bytes) : Prop := w'.ownsRow w.heap.size 5 1 v l.length (l.map val)

set_option maxHeartbeats 800000 in
theorem read_go (i u l : Int) (hi : s.has i) (h : Dk w g p T s) (hp : Pw w p u l) (hu : 0 ≤ u ∧ u ≤ 1000000) (hl : ¬ l = 0) (hm : l ≤ 9223372036854775807) :
    Calls Tryz.prog 181 #[.pointer (some ⟨g, 0, none⟩), .int .i64 i] w fun e w' => ∃ v, e = .returned (.tuple #[v, .int .i64 (err (s.op u).dead)]) ∧ NewRow w w' v (s.got u i) ∧
      Dk w' g p T (s.op u) ∧ Pw w' p (u + 1) (less l) ∧ But (fun k => k = g ∨ k = p) w w' := by
  obtain ⟨i0, hi0, hz0, hz1, hz2⟩ := info_parts byte_info
  have hn : decide (s.has i) = true := decide_eq_true hi
  have h64 := in64_of h hi
  have I64 := Lib.hid h64
  have HD := Lib.hid h
  have HP := Lib.hid hp
  clear h hi hp h64
  go_enter Tryz.func181, Tryz.ntmps181
  go_wp2_with fail
  refine (has_any i HD.out).mono ?_
  rintro e w' ⟨rfl, rfl⟩
  rw [hn]
  go_wp2_with fail
  refine (operate_go u l HD.out HP.out hu hl hm).mono ?_
  rintro e w1 ⟨rfl, hd1, hp1, hb1⟩
  have D1 := Lib.hid hd1
  have P1 := Lib.hid hp1
  have B1 := Lib.hid hb1
  clear hd1 hp1 hb1
  cases hdd : (s.op u).dead
  · have HDD := Lib.hid hdd
    unfold err
    simp only [Bool.false_eq_true, if_false]
    obtain ⟨bd, bw, bn, fd, fw, fn, hL⟩ := D1.out
    obtain ⟨c0, c1, c2, c3, c4, c5, c6, c7⟩ := hL.cell
    have hsz : s.size ≤ 1000000 := hL.small.2
    have hgl := hL.at_.lt
    have c2' : w1.cell? ⟨g, 2, none⟩ = some (.int .i64 (s.size : Int)) := c2
    generalize hsz' : s.size = M at c2' hsz
    have EM := Lib.hid hsz'
    clear hL c0 c1 c2 c3 c4 c5 c6 c7 hdd hsz'
    go_wp2_with (first
      | (at_make; refine wpList_make_full _ rfl (.tmp 20) (.tmp 20) 57 rfl w1.heap.size 5 i0 (.int .u8 0) 1 Tryz.underlying57 hi0 hz0 hz1 .i64 .i64 M M M rfl rfl rfl rfl (by rw [hz2]; omega) (by unfold maxLen; omega) (Nat.le_refl _) ?_; intro w2 hown2 hg2; have hb2 : Below w1.heap.size w1 w2 := (Below.refl _ _).grown hg2 (Nat.le_refl _) (by simp); have RW := Lib.hid (made_row hown2); have B2 := Lib.hid hb2; clear hown2 hg2 hb2))
    refine (last_any i I64.out (D1.out.below B2.out)).mono ?_
    rintro e w3 ⟨v, rfl, rfl, A, n, cap, l', rfl, hh, hn', hpad⟩
    have hn2 : n ≤ M := by rw [← EM.out]; exact hn'
    have hp2 : pad l' M = s.read i := by rw [← EM.out]; exact hpad
    obtain ⟨w4, hrun, hr4, hb4⟩ := copy_run (c := cap) RW.out hh hn2 B2.out (Nat.le_refl _)
    rw [hp2] at hr4
    have hrl : (s.read i).length = M := by rw [← hp2]; exact pad_len _ _ (by rw [hh.1]; exact hn2)
    have R4 := Lib.hid hr4
    have B4 := Lib.hid hb4
    have L4 := Lib.hid hrl
    have P2 := Lib.hid hp2
    clear hr4 hb4 hrl hp2 hpad hn' hh c2'
    go_wp2
    go_ret2
    have hsize := B1.out.size
    refine ⟨_, by rw [HDD.out]; rfl, ?_, D1.out.below B4.out, P1.out.below B4.out P1.out.lt, B1.out.trans (But.of_below (S := fun _ => False) B4.out) (fun _ h => h.elim)⟩
    rw [DS.got_ok i HDD.out]
    unfold NewRow
    rw [L4.out]
    exact own_of_row R4.out L4.out (by unfold maxLen; omega) hsize
  · have HDD := Lib.hid hdd
    clear hdd
    unfold err
    simp only [if_true]
    go_wp2
    go_ret2
    refine ⟨_, by rw [HDD.out]; rfl, ?_, D1.out, P1.out, B1.out⟩
    rw [DS.got_no i HDD.out]
    exact World.ownsRow_nil _ _ _ _

theorem write_arg (i : Int) (A : Option Addr) (n cap : Nat) (hi : ¬ s.has i ∨ ¬ n = s.size) (h : Dk w g p T s) : Calls Tryz.prog 182 #[.pointer (some ⟨g, 0, none⟩), .int .i64 i, .slice A n cap] w fun e w' => e = .returned (.int .i64 1) ∧ w' = w := by
  have HD := Lib.hid h
  obtain ⟨bd, bw, bn, fd, fw, fn, hL⟩ := h
  obtain ⟨c0, c1, c2, c3, c4, c5, c6, c7⟩ := hL.cell
  clear c0 c1 c3 c4 c5 c6 c7 hL
  by_cases hn : s.has i
  · have hne : ¬ (n : Int) = (s.size : Int) := by
      rcases hi with h | h
      · exact absurd hn h
      · omega
    have hn' : decide (s.has i) = true := decide_eq_true hn
    clear hi hn
    go_enter Tryz.func182, Tryz.ntmps182
    go_wp2_with fail
    refine (has_any i HD.out).mono ?_
    rintro e w' ⟨rfl, rfl⟩
    rw [hn']
    go_wp2
    go_ret
    exact ⟨rfl, rfl⟩
  · have hn' : decide (s.has i) = false := decide_eq_false hn
    clear hi hn
    go_enter Tryz.func182, Tryz.ntmps182
    go_wp2_with fail
    refine (has_any i HD.out).mono ?_
    rintro e w' ⟨rfl, rfl⟩
    rw [hn']
    go_wp2
    go_ret
    exact ⟨rfl, rfl⟩

/-- b waits as sector i. -/
def DS.write (s : DS) (i : Int) (b : Bytes) : DS := { s with wait := fun j => if j = i then some b else s.wait j, writes := fun j => if j = i then s.writes j + 1 else s.writes j }

/-- The disk behind a write that is the operation behind the u-th. -/
def DS.put (s : DS) (u i : Int) (b : Bytes) : DS := if (s.op u).dead then s.op u else (s.op u).write i b
theorem DS.put_ok {s : DS} {u : Int} (i : Int) (b : Bytes) (h : (s.op u).dead = false) : s.put u i b = (s.op u).write i b := by simp [DS.put, h]
theorem DS.put_no {s : DS} {u : Int} (i : Int) (b : Bytes) (h : (s.op u).dead = true) : s.put u i b = s.op u := by simp [DS.put, h]

theorem write_out (i u : Int) (A : Option Addr) (cap : Nat) (hi : s.has i) (h : Dk w g p T s) (hp : Pw w p u 0) :
    Calls Tryz.prog 182 #[.pointer (some ⟨g, 0, none⟩), .int .i64 i, .slice A s.size cap] w fun e w' => e = .panicked out ∧ w' = w := by
  have HD := Lib.hid h
  have HP := Lib.hid hp
  obtain ⟨bd, bw, bn, fd, fw, fn, hL⟩ := h
  obtain ⟨c0, c1, c2, c3, c4, c5, c6, c7⟩ := hL.cell
  clear c0 c1 c3 c4 c5 c6 c7 hL hp
  have hn' : decide (s.has i) = true := decide_eq_true hi
  clear hi
  go_enter Tryz.func182, Tryz.ntmps182
  go_wp2_with fail
  refine (has_any i HD.out).mono ?_
  rintro e w' ⟨rfl, rfl⟩
  rw [hn']
  go_wp2_with fail
  refine (operate_out u HD.out HP.out).mono ?_
  rintro e w' ⟨rfl, rfl⟩
  unfold out
  go_wp2
  exact ⟨rfl, rfl, rfl⟩

theorem own_form {w2 : World} {base : Nat} {v : Value} {n : Nat} {b : Bytes} (h : w2.ownsRow base 5 1 v n (b.map val)) :
    ∃ A cap, v = .slice A n cap ∧ Has w2 A n b ∧ (A = none → cap = 0) ∧ ∀ x, A = some x → base ≤ x.block ∧ x.block < w2.heap.size := by
  obtain ⟨A, c, rfl, h1, h2, h3, h4⟩ := Has.of_own h
  refine ⟨A, c, rfl, h3, ?_, ?_⟩
  · rintro rfl
    rcases h.2 with ⟨e, _⟩ | ⟨g, cap, cur, e, _⟩
    · injection e with _ _ e
    · cases e
  · intro x hx
    obtain ⟨g, rfl, hg⟩ := h4 x hx
    subst hx
    exact ⟨hg, (h.lt g rfl).2⟩

theorem Under.upd {f : Int → Option Value} {S : Nat} (h : Under f S) {i : Int} (hi : 0 ≤ i ∧ i < (S : Int)) (v : Value) : Under (upd f i v) S := by
  intro j hj
  unfold YtplmdmchkaacoaaGreat.upd at hj
  split at hj
  · rename_i e; subst e; exact hi
  · exact h j hj

theorem write_store {w1 w2 : World} {bd bw bn : Nat} {fd fw fn : Int → Option Value} (hL : Lies w1 g p T s bd bw bn fd fw fn) {i : Int} (hi : s.has i) {v : Value} {b : Bytes} (hown : w2.ownsRow w1.heap.size 5 1 v s.size (b.map val)) (hb : Below w1.heap.size w1 w2) (hpl : p < w1.heap.size) :
    ∃ w3 w4 T', w2.cell? ⟨g, 4, none⟩ = some (.map (some bw)) ∧ (Instr.mapUpdate 52 (.map (some bw)) (.int .i64 i) v).run Tryz.prog w2 = .ok () w3 ∧ w3.cell? ⟨g, 5, none⟩ = some (.map (some bn)) ∧
      (Instr.lookup 171 (.map (some bn)) (.int .i64 i) false).run Tryz.prog w3 = .ok (.int .i64 (s.writes i)) w3 ∧ (Instr.mapUpdate 171 (.map (some bn)) (.int .i64 i) (.int .i64 (s.writes i + 1))).run Tryz.prog w3 = .ok () w4 ∧
      Dk w4 g p T' (s.write i b) ∧ (∀ k, T' k → T k ∨ w1.heap.size ≤ k) ∧ But (fun k => k = bw ∨ k = bn) w1 w4 := by
  have hi64 : In64 i := in64_of ⟨bd, bw, bn, fd, fw, fn, hL⟩ hi
  have hS : s.sectors < maxLen := by have := hL.small; unfold maxLen; omega
  obtain ⟨a1, a2, a3, a4, a5, a6⟩ := hL.apart
  have h2 := hL.but (S := fun _ => False) (But.of_below hb) (fun _ _ h => h)
  obtain ⟨w3, r3, m3, b3⟩ := h2.wait.store Tryz.underlying52 h2.underWait hS hi64 v
  have n3 := h2.writes.but b3 (fun e => a3 e.symm)
  obtain ⟨w4, r4, m4, b4⟩ := n3.store Tryz.underlying171 h2.underWrites hS hi64 (.int .i64 (s.writes i + 1))
  obtain ⟨A, cap, rfl, hh, hnil, hblk⟩ := own_form hown
  have b34 : But (fun k => k = bw ∨ k = bn) w2 w4 := (b3.mono (fun _ h _ => .inl h)).trans b4 (fun _ h _ => .inr h)
  have hlt := hL.lt
  have ho := hL.own
  refine ⟨w3, w4, fun k => T k ∨ (w1.heap.size ≤ k ∧ k < w2.heap.size), h2.cell.2.2.2.2.1, r3, ?_, ?_, r4, ⟨bd, bw, bn, fd, upd fw i (.slice A s.size cap), upd fn i (.int .i64 (s.writes i + 1)), ?_⟩, ?_, ?_⟩
  · exact (h2.at_.but b3 a5).cell 5
  · exact n3.look Tryz.underlying171 (zero3 w3) hi64 (hL.counts i)
  · exact
      { at_ := h2.at_.but b34 (fun h => h.elim a5 a6)
        on := h2.on.but b34 (fun h => h.elim a1 a2)
        wait := m3.but b4 a3
        writes := m4
        rowsOn := (h2.rowsOn.but b34 (fun k _ hk h => hk (h.elim (fun e => .inr (.inr (.inl e))) (fun e => .inr (.inr (.inr e)))))).mono (fun k h => .inl h)
        rowsWait := by
          intro j
          by_cases e : j = i
          · refine .inr ⟨A, cap, b, by simp [upd, e]; rfl, by simp [DS.write, e], hh.but b34 ?_, hnil, ?_⟩
            · intro x hx h
              have := (hblk x hx).1
              have t1 := hlt _ ho.2.2.1
              have t2 := hlt _ ho.2.2.2
              omega
            · intro x hx
              have := (hblk x hx).1
              have t0 := hlt _ ho.1
              have t3 := hlt _ ho.2.1
              have t1 := hlt _ ho.2.2.1
              have t2 := hlt _ ho.2.2.2
              exact ⟨.inr (hblk x hx), fun h => by omega⟩
          · have := ((h2.rowsWait.but b34 (fun k _ hk h => hk (h.elim (fun e => .inr (.inr (.inl e))) (fun e => .inr (.inr (.inr e)))))).mono (T' := fun k => T k ∨ (w1.heap.size ≤ k ∧ k < w2.heap.size)) (fun k h => .inl h)) j
            simpa [upd, DS.write, e] using this
        counts := by
          intro j
          by_cases e : j = i
          · simp [upd, DS.write, e]
          · simpa [upd, DS.write, e] using hL.counts j
        apart := hL.apart
        own := ⟨.inl ho.1, .inl ho.2.1, .inl ho.2.2.1, .inl ho.2.2.2⟩
        lt := by
          rintro k (h | h)
          · exact Nat.lt_of_lt_of_le (h2.lt k h) b34.size
          · exact Nat.lt_of_lt_of_le h.2 b34.size
        np := by
          rintro (h | h)
          · exact hL.np h
          · omega
        underOn := hL.underOn
        underWait := Under.upd hL.underWait hi _
        underWrites := Under.upd hL.underWrites hi _
        small := hL.small }
  · rintro k (h | h)
    · exact .inl h
    · exact .inr h.1
  · exact (But.of_below (S := fun k => k = bw ∨ k = bn) hb).trans b34 (fun _ h _ => h)

set_option maxHeartbeats 800000 in
theorem write_go (i u l : Int) (A : Option Addr) (cap : Nat) (b : Bytes) (hi : s.has i) (h : Dk w g p T s) (hp : Pw w p u l) (hb : Has w A s.size b) (hA : ∀ x, A = some x → ¬ x.block = g ∧ ¬ x.block = p) (hu : 0 ≤ u ∧ u ≤ 1000000) (hl : ¬ l = 0) (hm : l ≤ 9223372036854775807) (hw : -1000000 ≤ s.writes i ∧ s.writes i ≤ 1000000) :
    Calls Tryz.prog 182 #[.pointer (some ⟨g, 0, none⟩), .int .i64 i, .slice A s.size cap] w fun e w' => ∃ T', e = .returned (.int .i64 (err (s.op u).dead)) ∧ 
      Dk w' g p T' (s.put u i b) ∧ Pw w' p (u + 1) (less l) ∧ (∀ k, T' k → T k ∨ w.heap.size ≤ k) ∧ But (fun k => T k ∨ k = p) w w' := by
  have h64 := in64_of h hi
  have I64 := Lib.hid h64
  have HD := Lib.hid h
  have HP := Lib.hid hp
  have HB := Lib.hid hb
  have HA := Lib.hid hA
  obtain ⟨bd, bw, bn, fd, fw, fn, hL⟩ := h
  have hsz : s.size ≤ 1000000 := hL.small.2
  obtain ⟨c0, c1, c2, c3, c4, c5, c6, c7⟩ := hL.cell
  clear c0 c1 c3 c4 c5 c6 c7 hL hp hb hA h64
  have hn' : decide (s.has i) = true := decide_eq_true hi
  have HI := Lib.hid hi
  clear hi
  go_enter Tryz.func182, Tryz.ntmps182
  go_wp2_with fail
  refine (has_any i HD.out).mono ?_
  rintro e w' ⟨rfl, rfl⟩
  rw [hn']
  go_wp2_with fail
  refine (operate_go u l HD.out HP.out hu hl hm).mono ?_
  rintro e w1 ⟨rfl, hd1, hp1, hb1⟩
  have D1 := Lib.hid hd1
  have P1 := Lib.hid hp1
  have B1 := Lib.hid hb1
  clear hd1 hp1 hb1 c2
  cases hdd : (s.op u).dead
  · have HDD := Lib.hid hdd
    unfold err
    simp only [Bool.false_eq_true, if_false]
    obtain ⟨bd, bw, bn, fd, fw, fn, hL⟩ := D1.out
    obtain ⟨c0, c1, c2, c3, c4, c5, c6, c7⟩ := hL.cell
    have hgl := hL.at_.lt
    have HL := Lib.hid hL
    clear hL c0 c1 c2 c3 c6 c7 hdd
    have hb1 : Has w1 A s.size b := HB.out.but B1.out (fun x hx h => h.elim (HA.out x hx).1 (HA.out x hx).2)
    have HB1 := Lib.hid hb1
    have hpl := P1.out.lt
    have hwr : wrap64 (s.writes i + 1) = s.writes i + 1 := by unfold wrap64; omega
    clear hb1
    go_wp2_with fail
    go_region_with ((go_at_call 113; refine (clone_any A s.size cap b _ hsz (HB1.out.drewN _)).mono ?_; rintro e w2 ⟨v, rfl, hown2, hb2⟩; obtain ⟨w3, w4, T', hc4, hr3, hc5, hr5, hr6, hD4, hT4, hB4⟩ := write_store (w1 := w1.drewN _) (HL.out.but (S := fun _ => False) ((But.refl _ _).drewN _) (fun _ _ h => h)) HI.out hown2 hb2 hpl; have DD := Lib.hid hD4; have TT := Lib.hid hT4; have BB := Lib.hid hB4; clear hown2 hb2 hD4 hT4 hB4))
    all_goals
      have hq5 : (Instr.lookup 171 (.map (some bn)) (.int .i64 i) false).run Tryz.prog w3 = .ok (.int .i64 (s.writes i)) w3 := hr5
      have hq6 : (Instr.mapUpdate 171 (.map (some bn)) (.int .i64 i) (.int .i64 (s.writes i + 1))).run Tryz.prog w3 = .ok () w4 := hr6
      clear hr5 hr6 hr3 hc4 c4 c5
      go_wp2
      go_ret
      have hsize := B1.out.size
      have ho := HL.out.own
      refine ⟨T', by rw [HDD.out]; rfl, ?_, ?_, ?_, ?_⟩
      · rw [DS.put_ok i b HDD.out]
        exact DD.out
      · refine (P1.out.but (BB.out.of_drewN _) ?_)
        rintro (e | e)
        · exact HL.out.np (e ▸ ho.2.2.1)
        · exact HL.out.np (e ▸ ho.2.2.2)
      · intro k hk
        rcases TT.out k hk with h | h
        · exact .inl h
        · exact .inr (Nat.le_trans hsize h)
      · refine (B1.out.mono (T := fun k => T k ∨ k = p) ?_).trans (BB.out.of_drewN _) ?_
        · rintro k (rfl | rfl) _
          · exact .inl ho.1
          · exact .inr rfl
        · rintro k (rfl | rfl) _
          · exact .inl ho.2.2.1
          · exact .inl ho.2.2.2
  · have HDD := Lib.hid hdd
    clear hdd
    unfold err
    simp only [if_true]
    go_wp2
    go_ret
    refine ⟨T, by rw [HDD.out]; rfl, ?_, P1.out, fun _ h => .inl h, B1.out.mono ?_⟩
    · rw [DS.put_no i b HDD.out]
      exact D1.out
    · rintro k (rfl | rfl) _
      · exact .inl HD.out.own
      · exact .inr rfl
end

end Go.Proofs.YtplmdmchkaacoaaGreat

/-
  maps.Copy OF THIS PROGRAM IS THE ONE WHOSE CONTRACT THE LIBRARY HOLDS: its numbers, and each fact by comparison.
-/
namespace Go.Proofs.YtplmdmchkaacoaaGreat
open Go.Shelf
set_option maxRecDepth 100000
def copyA_ren : Go.Shelf.Ren := ⟨fun | 5 => 184 | n => n, fun | 23 => 52 | 24 => 52 | 26 => 3 | 27 => 57 | 0 => 0 | 4 => 4 | n => n, fun | n => n⟩
theorem copyA : Go.Proofs.SlLaysX.n5 Tryz.prog copyA_ren := {
  mixed := by kernel_rfl
  f5 := ⟨Tryz.f184.name, by decide, Tryz.func184.trans (congrArg some (by kernel_rfl))⟩
  t0 := Tryz.underlying0
  a0 := Tryz.isAgg0
  z0 := Tryz.sizeOf0
  v0 := Tryz.zeroValue0
  t4 := Tryz.underlying4
  a4 := Tryz.isAgg4
  z4 := Tryz.sizeOf4
  v4 := Tryz.zeroValue4
  t23 := Tryz.underlying52
  a23 := Tryz.isAgg52
  z23 := Tryz.sizeOf52
  v23 := Tryz.zeroValue52
  t24 := Tryz.underlying52
  a24 := Tryz.isAgg52
  z24 := Tryz.sizeOf52
  v24 := Tryz.zeroValue52
  a26 := Tryz.isAgg3
  z26 := Tryz.sizeOf3
  a27 := Tryz.isAgg57
  z27 := Tryz.sizeOf57 }
end Go.Proofs.YtplmdmchkaacoaaGreat
