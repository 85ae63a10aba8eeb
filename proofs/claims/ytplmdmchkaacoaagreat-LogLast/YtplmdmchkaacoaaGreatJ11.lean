/-
  TEXTS JOINED: Blks, Fl, Coll.
-/
import Derived.Test.YtplmdmchkaacoaaGreatJ09
import Derived.Test.YtplmdmchkaacoaaGreatJ10
import Derived.Lib.QuietBelow

/-
  THE WALKS OF blocks, AND OF slices.ContainsFunc AND slices.IndexFunc WITH ITS CLOSURE; New's with nobodyThere.
-/
namespace Go.Proofs.YtplmdmchkaacoaaGreat
open Go.RowKit Go.Maps
set_option linter.unusedVariables false
set_option maxRecDepth 100000

section
variable {w : World} {P : Pl} {O : Nat → Prop} {s : AS}

theorem isBlock (bx : Nat) (A : Option Addr) (n c : Nat) (h : Arr w P O s) (hbx : At w bx #[.pointer (some ⟨P.a, 0, none⟩)] 41) :
    Calls Tryz.prog 146 #[.slice A n c, .pointer (some ⟨bx, 0, none⟩)] w fun e w' => e = .returned (.bool (decide ((n : Int) ≠ s.b))) ∧ w' = w := by
  have cb := hbx.cell 0
  obtain ⟨c0, c1, c2, c3, c4, c5⟩ := h.shape
  clear h c0 c2 c3 c4 c5
  by_cases hn : (n : Int) = s.b
  · rw [decide_eq_false (fun h => h hn)]
    go_enter Tryz.func146, Tryz.ntmps146
    go_wp2
    go_ret
    exact ⟨by simp_all, rfl⟩
  · rw [decide_eq_true hn]
    go_enter Tryz.func146, Tryz.ntmps146
    go_wp2
    go_ret
    exact ⟨by simp_all, rfl⟩

/-- All of them are blocks. -/
def Fits (L : List Sl) (b : Int) : Prop := ∀ x ∈ L, (x.n : Int) = b
instance (L : List Sl) (b : Int) : Decidable (Fits L b) := inferInstanceAs (Decidable (∀ x ∈ L, (x.n : Int) = b))
theorem enters79 (A : Option Addr) (n c bx : Nat) (w : World) : (callFunc 146 #[.slice A n c, .pointer (some ⟨bx, 0, none⟩)]).run Tryz.prog w = .ok (.enter 146 #[.slice A n c, .pointer (some ⟨bx, 0, none⟩)]) w := by kernel_rfl

theorem findBlock (bx : Nat) (A : Option Addr) (n c : Nat) (L : List Sl) (h : Arr w P O s) (hL : Ln w A n L) (hbx : At w bx #[.pointer (some ⟨P.a, 0, none⟩)] 41) :
    Calls Tryz.prog 159 #[.slice A n c, .func (.func 146) #[] #[.pointer (some ⟨bx, 0, none⟩)]] w fun e w' => (∃ r : Int, e = .returned (.int .i64 r) ∧ (0 ≤ r ↔ ¬ Fits L s.b)) ∧ w' = w := by
  have HA := Lib.hid h
  have HL := Lib.hid hL
  have HB := Lib.hid hbx
  have hn := hL.few
  have hcf := enters79
  clear h hL hbx
  go_enter Tryz.func159, Tryz.ntmps159
  go_wp2_with fail
  go_loopw [8] (fun i wr => ∃ j : Nat, j ≤ n ∧ i = .int .i64 (j : Int) ∧ wr = w ∧ Fits (L.take j) s.b) (fun i _ => n - (RowKit.intOf i).toNat)
  case atStart => exact ⟨0, Nat.zero_le _, rfl, rfl, fun x hx => by simp at hx⟩
  case round =>
    obtain ⟨j, hj, rfl, rfl, hF⟩ := hrel
    have F1 := Lib.hid hF
    clear hF
    by_cases hlt : j < n
    · obtain ⟨hjl, b, off, rfl, hc, hh, hx⟩ := HL.out.one hlt
      clear hh
      go_wp2_with fail
      refine (isBlock bx L[j].A L[j].n L[j].c HA.out HB.out).mono ?_
      rintro e w' ⟨rfl, rfl⟩
      by_cases hd : (L[j].n : Int) = s.b
      · rw [decide_eq_false (fun h => h hd)]
        have F2 := Lib.hid (show Fits (L.take (j + 1)) s.b by
          intro x hx
          rw [List.take_succ_eq_append_getElem hjl] at hx
          rcases List.mem_append.1 hx with h | h
          · exact F1.out x h
          · simp at h; subst h; exact hd)
        go_wp2
        go_roundw
        case rel => exact ⟨j + 1, by omega, by go_num, trivial, F2.out⟩
        case measure => simp [RowKit.intOf]; omega
      · rw [decide_eq_true hd]
        have NF := Lib.hid (show ¬ Fits L s.b from fun h => hd (h _ (List.getElem_mem hjl)))
        clear hd
        go_wp2
        go_ret
        exact ⟨⟨_, rfl, ⟨fun _ => NF.out, fun _ => by omega⟩⟩, rfl⟩
    · obtain rfl : j = n := by omega
      have F2 := Lib.hid (show Fits L s.b by have := F1.out; rwa [HL.out.all] at this)
      go_wp2
      go_ret
      exact ⟨⟨_, rfl, ⟨fun h => absurd h (by decide), fun h => absurd F2.out h⟩⟩, rfl⟩

theorem blocks_any (A : Option Addr) (n c : Nat) (L : List Sl) (h : Arr w P O s) (hL : Ln w A n L) :
    Calls Tryz.prog 124 #[.pointer (some ⟨P.a, 0, none⟩), .slice A n c] w fun e w' => e = .returned (.bool (decide (Fits L s.b))) ∧ Below w.heap.size w w' := by
  have HA := Lib.hid (h.alloc (.cells #[.pointer (some ⟨P.a, 0, none⟩)] 41))
  have bel : Below w.heap.size w (w.alloc (.cells #[.pointer (some ⟨P.a, 0, none⟩)] 41)) := (Below.refl _ _).alloc (Nat.le_refl _) _
  have HL := Lib.hid (hL.below bel)
  have B1 := Lib.hid bel
  have hmf : ∀ (fn : Fn) (first cap : Array Value) (w : World), (Instr.makeFunc fn first cap).run Tryz.prog w = .ok (.func fn first cap) w := fun _ _ _ _ => rfl
  clear h hL bel
  go_enter Tryz.func124, Tryz.ntmps124
  go_wp2_with fail
  go_at_call 145
  refine (show Calls Tryz.prog 145 #[.slice A n c, .func (.func 146) #[] #[.pointer (some ⟨w.heap.size, 0, none⟩)]] (w.alloc (.cells #[.pointer (some ⟨P.a, 0, none⟩)] 41)) fun e w' => e = .returned (.bool (decide (¬ Fits L s.b))) ∧ w' = w.alloc (.cells #[.pointer (some ⟨P.a, 0, none⟩)] 41) from ?_).mono ?_
  · go_enter Tryz.func145, Tryz.ntmps145
    go_wp2_with fail
    refine (findBlock w.heap.size A n c L HA.out HL.out (At.new _ 41 rfl)).mono ?_
    rintro e w' ⟨⟨r, rfl, hr⟩, rfl⟩
    have HR := Lib.hid hr
    clear hr
    go_wp2
    go_ret
    refine ⟨?_, rfl⟩
    show Ending.returned (.bool (decide (0 ≤ r))) = _
    rw [decide_eq_decide.2 HR.out]
  · rintro e w' ⟨rfl, rfl⟩
    go_wp2
    go_ret
    exact ⟨rfl, B1.out⟩
end
end Go.Proofs.YtplmdmchkaacoaaGreat

/-
  THE SHAPE OF AN ARRAY, AS IT IS LOADED, AND ITS CALLS; THE WALKS OF Flush AND PutSame.
-/
namespace Go.Proofs.YtplmdmchkaacoaaGreat
open Go.RowKit Go.Maps
set_option linter.unusedVariables false
set_option maxRecDepth 100000

/-- The shape, by value. -/
def AS.sh (s : AS) : List Value := [.int .i64 (s.M : Int), .int .i64 s.b, .int .i64 s.g, .int .i64 s.s, .int .i64 s.n, .int .i64 s.l]
def AS.N (s : AS) : Int := s.g * s.s
def AS.at_ (s : AS) (t : Int) : Int := 1 + 2 * pgs s.b s.g s.l + t
theorem shape_size : (Tryz.prog.info? 27).map (·.size) = some 6 := by kernel_rfl

section
variable {w w' : World} {P : Pl} {O : Nat → Prop} {s : AS}
theorem Arr.range (h : Arr w P O s) : w.rangeAt P.a 0 s.sh := by
  obtain ⟨c0, c1, c2, c3, c4, c5⟩ := h.shape
  intro j v hv
  rw [Nat.zero_add]
  match j, hv with
  | 0, hv => rw [c0]; simpa [AS.sh] using hv
  | 1, hv => rw [c1]; simpa [AS.sh] using hv
  | 2, hv => rw [c2]; simpa [AS.sh] using hv
  | 3, hv => rw [c3]; simpa [AS.sh] using hv
  | 4, hv => rw [c4]; simpa [AS.sh] using hv
  | 5, hv => rw [c5]; simpa [AS.sh] using hv
/-- The shape, loaded. -/
theorem Arr.load (h : Arr w P O s) : (Instr.loadAt 27 (.pointer (some ⟨P.a, 0, none⟩))).run Tryz.prog w = .ok (sv (s.M : Int) s.b s.g s.s s.n s.l) w :=
  run_loadAt_mid w P.a 0 27 s.sh _ h.range Tryz.underlying27 rfl shape_size
theorem exec_shape {a : Act} {op : Oper} {x : Operand} {b : Nat} (ho : op.op = .load 27 x) (hx : a.eval x = .pointer (some ⟨b, 0, none⟩)) (hc : w.rangeAt b 0 s.sh) :
    (execOp a.eval op).run Tryz.prog w = .ok (.value (sv (s.M : Int) s.b s.g s.s s.n s.l)) w := by
  have hrun := run_loadAt_mid (P := Tryz.prog) w b 0 27 s.sh _ hc Tryz.underlying27 rfl shape_size
  unfold execOp
  simp only [ho, hx, hrun, Sem.run_bind, Result.andThen_ok]
  rfl

theorem AS.Wf.n (h : s.Wf) : 8 ≤ s.N ∧ s.N ≤ 18 := by
  have h1 := h.small.hg
  have h2 := h.small.hs
  unfold AS.N
  rcases (show s.s = 2 ∨ s.s = 3 by omega) with e | e <;> rw [e] <;> omega
theorem AS.Wf.total (h : s.Wf) : (s.S : Int) = s.at_ s.N := h.sect
theorem sectors_call (h : s.Wf) (w : World) : Calls Tryz.prog 101 #[sv (s.M : Int) s.b s.g s.s s.n s.l] w fun e w' => e = .returned (.int .i64 (s.S : Int)) ∧ Below w.heap.size w w' := by
  have hs := h.small
  rw [h.sect]
  exact sectors_any _ _ _ _ _ _ _ (Lib.hid rfl) h.some_ (by have := hs.hb; omega) (by have := hs.hg; omega) (by have := hs.hs; omega) (by have := hs.hl; omega) w
theorem all_call (h : s.Wf) (w : World) : Calls Tryz.prog 65 #[sv (s.M : Int) s.b s.g s.s s.n s.l] w fun e w' => e = .returned (.int .i64 s.N) ∧ Below w.heap.size w w' := by
  have hs := h.small
  exact all_any _ _ _ _ _ _ (by have := hs.hg; omega) (by have := hs.hs; omega) w
theorem at_call (h : s.Wf) (t : Int) (ht : 0 ≤ t ∧ t ≤ 1000000) (w : World) : Calls Tryz.prog 68 #[sv (s.M : Int) s.b s.g s.s s.n s.l, .int .i64 t] w fun e w' => e = .returned (.int .i64 (s.at_ t)) ∧ Below w.heap.size w w' := by
  have hs := h.small
  exact stripeAt_any _ _ _ _ _ _ _ (Lib.hid rfl) h.some_ t ht (by have := hs.hb; omega) (by have := hs.hg; omega) (by have := hs.hl; omega) w
theorem parity_call (h : s.Wf) (t : Int) (ht : 0 ≤ t ∧ t ≤ 1000000) (w : World) : Calls Tryz.prog 126 #[sv (s.M : Int) s.b s.g s.s s.n s.l, .int .i64 t] w fun e w' => e = .returned (.int .i64 (t % (s.M : Int))) ∧ Below w.heap.size w w' := by
  have hs := h.small
  exact parity_any _ _ _ _ _ _ t ht (by have := hs.hm; omega) w
theorem member_call (h : s.Wf) (t : Int) (ht : 0 ≤ t ∧ t ≤ 1000000) (k : Int) (hk : 0 ≤ k ∧ k ≤ 1000000) (w : World) : Calls Tryz.prog 67 #[sv (s.M : Int) s.b s.g s.s s.n s.l, .int .i64 t, .int .i64 k] w fun e w' => e = .returned (.int .i64 ((t + 1 + k) % (s.M : Int))) ∧ Below w.heap.size w w' := by
  have hs := h.small
  exact member_any _ _ _ _ _ _ t ht k hk (by have := hs.hm; omega) w

theorem box_new (h : Arr w P O s) : Box (w.alloc (.cells #[.pointer (some ⟨P.a, 0, none⟩)] 41)) w.heap.size P O := ⟨At.new _ 41 rfl, fun e => by have := h.lt _ e; omega⟩
theorem Box.frame {O' : Nat → Prop} {bx : Nat} (h : Box w bx P O) (hb : But O w w') (hO : ∀ k, O' k → O k ∨ w.heap.size ≤ k) : Box w' bx P O' :=
  ⟨h.1.but hb h.2, fun e => (hO _ e).elim h.2 (fun e => by have := h.1.lt; omega)⟩
theorem enters52 (m : Nat) (bx : Nat) (w : World) : (callFunc 148 (#[.int .i64 (m : Int)] ++ #[.pointer (some ⟨bx, 0, none⟩)])).run Tryz.prog w = .ok (.enter 148 (#[.int .i64 (m : Int)] ++ #[.pointer (some ⟨bx, 0, none⟩)])) w := by kernel_rfl
theorem flush_act : Act1 (fun _ d u => d.fl u) := Act1.of (R := fun _ d _ => d.read) (fun _ d u => fl_turns d u) (fun _ d u => fl_dead d u)

theorem Flush_any (h : Arr w P O s) (hu : s.u ≤ 800000) : Calls Tryz.prog 130 #[.pointer (some ⟨P.a, 0, none⟩)] w fun e w' => ∃ er s', e = .returned (.int .i64 er) ∧ Did w P O s' w' ∧ EachAs (fun _ d u => d.fl u) s s' er := by
  have HA := Lib.hid (h.alloc (.cells #[.pointer (some ⟨P.a, 0, none⟩)] 41))
  have HB := Lib.hid (box_new h)
  have B1 := Lib.hid ((But.refl O w).alloc (.cells #[.pointer (some ⟨P.a, 0, none⟩)] 41))
  have hmf : ∀ (fn : Fn) (first cap : Array Value) (w : World), (Instr.makeFunc fn first cap).run Tryz.prog w = .ok (.func fn first cap) w := fun _ _ _ _ => rfl
  clear h
  go_enter Tryz.func130, Tryz.ntmps130
  go_wp2_with fail
  refine (each_any 148 #[.pointer (some ⟨w.heap.size, 0, none⟩)] (fun _ d u => d.fl u) flush_act (fun w O => Box w _ P O) (fun m w => enters52 m _ w) (fun _ _ _ _ hz hb hO => hz.frame hb hO) (fun m w O s' hm hs ha hz hu => flushOne _ m (by rw [hs.M]; exact hm) ha hz hu) HA.out HB.out hu).mono ?_
  rintro e w2 ⟨er, s', rfl, hD, hE⟩
  have D2 := Lib.hid (hD.trans (fun _ h => .inl h) B1.out)
  have E2 := Lib.hid hE
  clear hD hE
  go_wp2
  go_ret
  exact ⟨er, s', rfl, D2.out, E2.out⟩
end
end Go.Proofs.YtplmdmchkaacoaaGreat

/-
  THE WALK OF collect, whatever is read; rows of rows that a call has made.
-/
namespace Go.Proofs.YtplmdmchkaacoaaGreat
open Go.RowKit Go.Maps
set_option linter.unusedVariables false
set_option maxRecDepth 100000

/-- A row v that holds slices, all of it laid since B, none of them in v's own block. -/
structure Cl (w : World) (B : Nat) (v : Value) (L : List Sl) : Prop where
  own : w.ownsRow B 57 1 v L.length (L.map Sl.v)
  has : ∀ x ∈ L, Has w x.A x.n x.l
  len : ∀ x ∈ L, x.n ≤ 48
  off : ∀ x ∈ L, ∀ a, x.A = some a → v.ownBlock ≠ some a.block ∧ B ≤ a.block ∧ a.block < w.heap.size
section
variable {w w1 w2 : World} {B : Nat} {v : Value} {L : List Sl} {S : Nat → Prop}
theorem Cl.nil (w : World) (B : Nat) : Cl w B (.slice none 0 0) [] := ⟨World.ownsRow_nil _ _ _ _, fun x hx => (by cases hx), fun x hx => (by cases hx), fun x hx => (by cases hx)⟩
theorem Cl.keep (h : Cl w B v L) (hb : But S w w1) (hS : ∀ k, B ≤ k → ¬ S k) : Cl w1 B v L :=
  ⟨own_but h.own hb (fun k hk => hS k (h.own.lt k hk).1), fun x hx => (h.has x hx).but hb (fun a ha => hS _ (h.off x hx a ha).2.1), h.len, fun x hx a ha => ⟨(h.off x hx a ha).1, (h.off x hx a ha).2.1, Nat.lt_of_lt_of_le (h.off x hx a ha).2.2 hb.size⟩⟩
/-- One more, laid behind w. -/
theorem Cl.push {m c : Nat} {A : Option Addr} {x : Sl} (h : Cl w B v L) (hb : But S w w1) (hS : ∀ k, B ≤ k → ¬ S k) (hB : B ≤ w.heap.size) (hx : Has w1 x.A x.n x.l) (hn : x.n ≤ 48) (ha : ∀ a, x.A = some a → w.heap.size ≤ a.block ∧ a.block < w1.heap.size)
    (hown : w2.ownsRow B 57 1 (.slice A m c) m ((L ++ [x]).map Sl.v)) (hg : w1.grownBy w2 v.ownBlock) (hf : ∀ g, (Value.slice A m c).ownBlock = some g → v.ownBlock = some g ∨ w1.heap.size ≤ g) : Cl w2 B (.slice A m c) (L ++ [x]) := by
  have bt : But (fun k => v.ownBlock = some k) w1 w2 := (But.refl _ _).grown hg (fun k hk _ => hk)
  have hm : m = (L ++ [x]).length := by have := hown.1; simp at this; simp; omega
  have k1 := h.keep hb hS
  have own_lt : ∀ k, v.ownBlock = some k → k < w.heap.size := fun k hk => (h.own.lt k hk).2
  subst hm
  refine ⟨hown, fun y hy => ?_, fun y hy => ?_, fun y hy a e => ?_⟩
  · rcases List.mem_append.1 hy with hy | hy
    · exact (k1.has y hy).but bt (fun a ha => (k1.off y hy a ha).1)
    · simp at hy; subst hy
      exact hx.but bt (fun a e e2 => by have := own_lt _ e2; have := (ha a e).1; omega)
  · rcases List.mem_append.1 hy with hy | hy
    · exact h.len y hy
    · simp at hy; subst hy; exact hn
  · have hsz := bt.size
    have hsz2 := hb.size
    rcases List.mem_append.1 hy with hy | hy
    · obtain ⟨q1, q2, q3⟩ := h.off y hy a e
      refine ⟨fun e2 => ?_, q2, by omega⟩
      rcases hf _ e2 with e2 | e2
      · exact q1 e2
      · omega
    · simp at hy; subst hy
      obtain ⟨q1, q2⟩ := ha a e
      refine ⟨fun e2 => ?_, by omega, by omega⟩
      rcases hf _ e2 with e2 | e2
      · have := own_lt _ e2; omega
      · omega
theorem Cl.ln (h : Cl w B v L) (hn : L.length ≤ 100000000) : ∃ A c, v = .slice A L.length c ∧ Ln w A L.length L :=
  Ln.of_own h.own h.has (fun x hx => by have := h.len x hx; omega) (by omega)
end

/-- What a reader that is handed to collect does. -/
def Reads (P : Pl) (O : Nat → Prop) (J : List Bytes → AS → Prop) (F : Int → AS → Prop) (l : List Bytes) (w : World) (e : Ending) (w' : World) : Prop :=
  ∃ v er s', e = .returned (.tuple #[v, .int .i64 er]) ∧ Arr w' P O s' ∧ But O w w' ∧
    ((er = 0 ∧ ∃ A n c b, v = .slice A n c ∧ Has w' A n b ∧ n ≤ 48 ∧ (∀ a, A = some a → w.heap.size ≤ a.block ∧ a.block < w'.heap.size) ∧ J (l ++ [b]) s') ∨ (er ≠ 0 ∧ F er s'))
/-- What collect comes to. -/
def Collected (P : Pl) (O : Nat → Prop) (J : List Bytes → AS → Prop) (F : Int → AS → Prop) (many : Nat) (w : World) (e : Ending) (w' : World) : Prop :=
  ∃ v er s', e = .returned (.tuple #[v, .int .i64 er]) ∧ Arr w' P O s' ∧ But O w w' ∧
    ((er = 0 ∧ ∃ L, Cl w' w.heap.size v L ∧ L.length = many ∧ J (L.map Sl.l) s') ∨ (er ≠ 0 ∧ v = .slice none 0 0 ∧ F er s'))

section
variable {w : World} {P : Pl} {O : Nat → Prop} {s : AS}
set_option maxHeartbeats 1600000 in
theorem collect_any (K : Nat) (fi cap : Array Value) (lo : Int) (many : Nat) (J : List Bytes → AS → Prop) (F : Int → AS → Prop) (Z : World → Prop)
    (hlo : 0 ≤ lo ∧ lo ≤ 1000000) (hmany : many ≤ 1000000)
    (hK : ∀ (i : Int) w, (callFunc K (fi.push (.int .i64 i) ++ cap)).run Tryz.prog w = .ok (.enter K (fi.push (.int .i64 i) ++ cap)) w)
    (hZ : ∀ (S : Nat → Prop) w1 w2, Z w1 → But S w1 w2 → (∀ k, S k → O k ∨ w.heap.size ≤ k) → Z w2)
    (hc : ∀ (i : Int) l w s, Arr w P O s → Z w → J l s → i = lo + (l.length : Int) → l.length < many → Calls Tryz.prog K (fi.push (.int .i64 i) ++ cap) w (Reads P O J F l w))
    (h : Arr w P O s) (hz : Z w) (hJ : J [] s) :
    Calls Tryz.prog 114 #[.int .i64 lo, .int .i64 (lo + (many : Int)), .func (.func K) fi cap] w (Collected P O J F many w) := by
  have HA := Lib.hid h
  have HZ := Lib.hid hz
  have HJ := Lib.hid hJ
  have hlt := Lib.hid h.lt
  clear h hz hJ
  go_enter Tryz.func114, Tryz.ntmps114
  go_wp2_with fail
  go_loopw [8, 9] (fun v i wr => ∃ L s', i = .int .i64 (lo + (L.length : Int)) ∧ L.length ≤ many ∧ Arr wr P O s' ∧ But O w wr ∧ Z wr ∧ J (L.map Sl.l) s' ∧ Cl wr w.heap.size v L) (fun _ i _ => (lo + many - RowKit.intOf i).toNat)
  case atStart => exact ⟨[], s, by simp, Nat.zero_le _, HA.out, But.refl _ _, HZ.out, HJ.out, Cl.nil _ _⟩
  case round =>
    obtain ⟨L, s', rfl, hl, k1, k2, k3, k4, k5⟩ := hrel
    have A1 := Lib.hid k1
    have B1 := Lib.hid k2
    have Z1 := Lib.hid k3
    have J1 := Lib.hid k4
    have C1 := Lib.hid k5
    clear k1 k2 k3 k4 k5
    by_cases hlt2 : L.length < many
    · go_wp2_with fail
      refine (hc _ (L.map Sl.l) wr s' A1.out Z1.out J1.out (by simp) (by simp; exact hlt2)).mono ?_
      rintro e w2 ⟨v, er, s2, rfl, k1, k2, k3⟩
      have A2 := Lib.hid k1
      have B2 := Lib.hid (B1.out.trans k2 (fun _ h _ => h))
      have X2 := Lib.hid k2
      have Z2 := Lib.hid (hZ _ _ _ Z1.out k2 (fun _ h => .inl h))
      clear k1 k2
      rcases k3 with ⟨rfl, A, n, c, b, rfl, k4, k5, k6, k7⟩ | ⟨hne, k4⟩
      · have H4 := Lib.hid k4
        have N5 := Lib.hid k5
        have O6 := Lib.hid k6
        have J7 := Lib.hid k7
        clear k4 k5 k6 k7
        have bel : Below w2.heap.size w2 (w2.alloc (.cells #[.slice A n c] 57)) := (Below.refl _ _).alloc (Nat.le_refl _) _
        have hS : ∀ k, w.heap.size ≤ k → ¬ O k := fun k hk e => by have := hlt.out k e; omega
        have C2 := Lib.hid (C1.out.keep X2.out hS)
        have OW := Lib.hid ((C2.out.keep (S := fun _ => False) (But.of_below bel) (fun _ _ h => h)).own)
        have HS := Lib.hid hS
        have BL := Lib.hid bel
        have sz := Lib.hid B2.out.size
        clear hS bel
        go_wp2_with (at_builtin; refine wpList_append_ln rfl (.tmp 27) (.tmp 29) rfl w.heap.size u8 L.length L rfl OW.out ⟨w2.heap.size, 0, none⟩ 1 1 [⟨A, n, c, b⟩] rfl (one_row ⟨A, n, c, b⟩ (At.new #[.slice A n c] 57 rfl)) (by omega) (by have := sz.out; simp; omega) ?_; intro A3 c3 w3 hown3 hg3 hf3; have C3 := Lib.hid (C1.out.push (w1 := w2.alloc (.cells #[.slice A n c] 57)) (x := ⟨A, n, c, b⟩) (X2.out.trans (But.of_below (S := fun _ => False) BL.out) (fun _ h _ => h.elim)) HS.out (B1.out.size) (H4.out.below BL.out) N5.out (fun a ha => by have := O6.out a ha; simp; omega) hown3 hg3 hf3); have B3 := Lib.hid (show But (fun k => u8.ownBlock = some k) (w2.alloc (.cells #[.slice A n c] 57)) w3 from (But.refl _ _).grown hg3 (fun k hk _ => hk)); clear hown3 hg3 hf3)
        have V8 := Lib.hid (show ∀ k, u8.ownBlock = some k → w.heap.size ≤ k from fun k hk => (C1.out.own.lt k hk).1)
        have A3 := Lib.hid ((A2.out.alloc (.cells #[.slice A n c] 57)).but B3.out (fun k hk e => by have := V8.out k e; have := hlt.out; have := A1.out.lt k hk; exact HS.out k (V8.out k e) hk))
        go_roundw
        case rel => exact ⟨L ++ [⟨A, n, c, b⟩], s2, by simp; omega, by simp; omega, A3.out, ((B2.out.alloc _).trans B3.out (fun k hk hlt' => by have := V8.out k hk; omega)), hZ _ _ _ (hZ _ _ _ Z2.out (But.of_below (S := O) BL.out) (fun _ h => .inl h)) B3.out (fun k hk => .inr (V8.out k hk)), by simpa using J7.out, C3.out⟩
        case measure => simp [RowKit.intOf]; omega
      · have F4 := Lib.hid k4
        have hne2 : (er != 0) = true := by simpa using hne
        go_wp2
        go_ret2
        exact ⟨_, _, _, rfl, A2.out, B2.out, .inr ⟨hne, rfl, F4.out⟩⟩
    · have e : L.length = many := by omega
      go_wp2
      go_ret2
      exact ⟨_, _, _, rfl, A1.out, B1.out, .inl ⟨rfl, L, C1.out, e, J1.out⟩⟩
end
end Go.Proofs.YtplmdmchkaacoaaGreat
