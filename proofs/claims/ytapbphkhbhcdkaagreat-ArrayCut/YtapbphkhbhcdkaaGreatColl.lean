/-
  THE WALK OF collect, whatever is read; rows of rows that a call has made.
-/
import Derived.Test.YtapbphkhbhcdkaaGreatFl
namespace Go.Proofs.YtapbphkhbhcdkaaGreat
open Go.RowKit Go.Maps
set_option linter.unusedVariables false
set_option maxRecDepth 100000

/-- A row v that holds slices, all of it laid since B, none of them in v's own block. -/
structure Cl (w : World) (B : Nat) (v : Value) (L : List Sl) : Prop where
  own : w.ownsRow B 55 1 v L.length (L.map Sl.v)
  has : ∀ x ∈ L, Has w x.A x.n x.l
  len : ∀ x ∈ L, x.n ≤ 48
  off : ∀ x ∈ L, ∀ a, x.A = some a → v.ownBlock ≠ some a.block ∧ B ≤ a.block ∧ a.block < w.heap.size
section
variable {w w1 w2 : World} {B : Nat} {v : Value} {L : List Sl} {S : Nat → Prop}
theorem Cl.nil (w : World) (B : Nat) : Cl w B (.slice none 0 0) [] := ⟨World.ownsRow_nil _ _ _ _, fun x hx => (by cases hx), fun x hx => (by cases hx), fun x hx => (by cases hx)⟩
theorem Cl.keep (h : Cl w B v L) (hb : But S w w1) (hS : ∀ k, B ≤ k → ¬ S k) : Cl w1 B v L :=
  ⟨own_but h.own hb (fun k hk => hS k (h.own.lt k hk).1), fun x hx => (h.has x hx).but hb (fun a ha => hS _ (h.off x hx a ha).2.1), h.len, fun x hx a ha => ⟨(h.off x hx a ha).1, (h.off x hx a ha).2.1, Nat.lt_of_lt_of_le (h.off x hx a ha).2.2 hb.size⟩⟩
/-- One more, laid behind w. -/
theorem Cl.push {m c : Nat} {A : Option Addr} {x : Sl} (h : Cl w B v L) (hb : But S w w1) (hS : ∀ k, B ≤ k → ¬ S k) (hB : B ≤ w.heap.size) (hx : Has w1 x.A x.n x.l) (hn : x.n ≤ 48) (ha : ∀ a, x.A = some a → w.heap.size ≤ a.block ∧ a.block < w1.heap.size)
    (hown : w2.ownsRow B 55 1 (.slice A m c) m ((L ++ [x]).map Sl.v)) (hg : w1.grownBy w2 v.ownBlock) (hf : ∀ g, (Value.slice A m c).ownBlock = some g → v.ownBlock = some g ∨ w1.heap.size ≤ g) : Cl w2 B (.slice A m c) (L ++ [x]) := by
  have bt : But (fun k => v.ownBlock = some k) w1 w2 := (But.refl _ _).grown hg (fun k hk _ => hk)
  have hm : m = (L ++ [x]).length := by have := hown.1; simp at this; simp; omega
  have k1 := h.keep hb hS
  have own_lt : ∀ k, v.ownBlock = some k → k < w.heap.size := fun k hk => (h.own.lt k hk).2
  subst hm
  refine ⟨hown, fun y hy => ?_, fun y hy => ?_, fun y hy a e => ?_⟩
  · rcases List.mem_append.1 hy with hy | hy
    · exact (k1.has y hy).but bt (fun a ha => (k1.off y hy a ha).1)
    · simp at hy; subst hy
      exact hx.but bt (fun a e e2 => by have := own_lt _ e2; have := (ha a e).1; omega)
  · rcases List.mem_append.1 hy with hy | hy
    · exact h.len y hy
    · simp at hy; subst hy; exact hn
  · have hsz := bt.size
    have hsz2 := hb.size
    rcases List.mem_append.1 hy with hy | hy
    · obtain ⟨q1, q2, q3⟩ := h.off y hy a e
      refine ⟨fun e2 => ?_, q2, by omega⟩
      rcases hf _ e2 with e2 | e2
      · exact q1 e2
      · omega
    · simp at hy; subst hy
      obtain ⟨q1, q2⟩ := ha a e
      refine ⟨fun e2 => ?_, by omega, by omega⟩
      rcases hf _ e2 with e2 | e2
      · have := own_lt _ e2; omega
      · omega
theorem Cl.ln (h : Cl w B v L) (hn : L.length ≤ 100000000) : ∃ A c, v = .slice A L.length c ∧ Ln w A L.length L :=
  Ln.of_own h.own h.has (fun x hx => by have := h.len x hx; omega) (by omega)
end

/-- What a reader that is handed to collect does. -/
def Reads (P : Pl) (O : Nat → Prop) (J : List Bytes → AS → Prop) (F : Int → AS → Prop) (l : List Bytes) (w : World) (e : Ending) (w' : World) : Prop :=
  ∃ v er s', e = .returned (.tuple #[v, .int .i64 er]) ∧ Arr w' P O s' ∧ But O w w' ∧
    ((er = 0 ∧ ∃ A n c b, v = .slice A n c ∧ Has w' A n b ∧ n ≤ 48 ∧ (∀ a, A = some a → w.heap.size ≤ a.block ∧ a.block < w'.heap.size) ∧ J (l ++ [b]) s') ∨ (er ≠ 0 ∧ F er s'))
/-- What collect comes to. -/
def Collected (P : Pl) (O : Nat → Prop) (J : List Bytes → AS → Prop) (F : Int → AS → Prop) (many : Nat) (w : World) (e : Ending) (w' : World) : Prop :=
  ∃ v er s', e = .returned (.tuple #[v, .int .i64 er]) ∧ Arr w' P O s' ∧ But O w w' ∧
    ((er = 0 ∧ ∃ L, Cl w' w.heap.size v L ∧ L.length = many ∧ J (L.map Sl.l) s') ∨ (er ≠ 0 ∧ v = .slice none 0 0 ∧ F er s'))

section
variable {w : World} {P : Pl} {O : Nat → Prop} {s : AS}
set_option maxHeartbeats 1600000 in
theorem collect_any (K : Nat) (fi cap : Array Value) (lo : Int) (many : Nat) (J : List Bytes → AS → Prop) (F : Int → AS → Prop) (Z : World → Prop)
    (hlo : 0 ≤ lo ∧ lo ≤ 1000000) (hmany : many ≤ 1000000)
    (hK : ∀ (i : Int) w, (callFunc K (fi.push (.int .i64 i) ++ cap)).run Tryz.prog w = .ok (.enter K (fi.push (.int .i64 i) ++ cap)) w)
    (hZ : ∀ (S : Nat → Prop) w1 w2, Z w1 → But S w1 w2 → (∀ k, S k → O k ∨ w.heap.size ≤ k) → Z w2)
    (hc : ∀ (i : Int) l w s, Arr w P O s → Z w → J l s → i = lo + (l.length : Int) → l.length < many → Calls Tryz.prog K (fi.push (.int .i64 i) ++ cap) w (Reads P O J F l w))
    (h : Arr w P O s) (hz : Z w) (hJ : J [] s) :
    Calls Tryz.prog 66 #[.int .i64 lo, .int .i64 (lo + (many : Int)), .func (.func K) fi cap] w (Collected P O J F many w) := by
  have HA := Lib.hid h
  have HZ := Lib.hid hz
  have HJ := Lib.hid hJ
  have hlt := Lib.hid h.lt
  clear h hz hJ
  go_enter Tryz.func66, Tryz.ntmps66
  go_wp2_with fail
  go_loopw [8, 9] (fun v i wr => ∃ L s', i = .int .i64 (lo + (L.length : Int)) ∧ L.length ≤ many ∧ Arr wr P O s' ∧ But O w wr ∧ Z wr ∧ J (L.map Sl.l) s' ∧ Cl wr w.heap.size v L) (fun _ i _ => (lo + many - RowKit.intOf i).toNat)
  case atStart => exact ⟨[], s, by simp, Nat.zero_le _, HA.out, But.refl _ _, HZ.out, HJ.out, Cl.nil _ _⟩
  case round =>
    obtain ⟨L, s', rfl, hl, k1, k2, k3, k4, k5⟩ := hrel
    have A1 := Lib.hid k1
    have B1 := Lib.hid k2
    have Z1 := Lib.hid k3
    have J1 := Lib.hid k4
    have C1 := Lib.hid k5
    clear k1 k2 k3 k4 k5
    by_cases hlt2 : L.length < many
    · go_wp2_with fail
      refine (hc _ (L.map Sl.l) wr s' A1.out Z1.out J1.out (by simp) (by simp; exact hlt2)).mono ?_
      rintro e w2 ⟨v, er, s2, rfl, k1, k2, k3⟩
      have A2 := Lib.hid k1
      have B2 := Lib.hid (B1.out.trans k2 (fun _ h _ => h))
      have X2 := Lib.hid k2
      have Z2 := Lib.hid (hZ _ _ _ Z1.out k2 (fun _ h => .inl h))
      clear k1 k2
      rcases k3 with ⟨rfl, A, n, c, b, rfl, k4, k5, k6, k7⟩ | ⟨hne, k4⟩
      · have H4 := Lib.hid k4
        have N5 := Lib.hid k5
        have O6 := Lib.hid k6
        have J7 := Lib.hid k7
        clear k4 k5 k6 k7
        have bel : Below w2.heap.size w2 (w2.alloc (.cells #[.slice A n c] 55)) := (Below.refl _ _).alloc (Nat.le_refl _) _
        have hS : ∀ k, w.heap.size ≤ k → ¬ O k := fun k hk e => by have := hlt.out k e; omega
        have C2 := Lib.hid (C1.out.keep X2.out hS)
        have OW := Lib.hid ((C2.out.keep (S := fun _ => False) (But.of_below bel) (fun _ _ h => h)).own)
        have HS := Lib.hid hS
        have BL := Lib.hid bel
        have sz := Lib.hid B2.out.size
        clear hS bel
        go_wp2_with (at_builtin; refine wpList_append_ln rfl (.tmp 27) (.tmp 29) rfl w.heap.size u8 L.length L rfl OW.out ⟨w2.heap.size, 0, none⟩ 1 1 [⟨A, n, c, b⟩] rfl (one_row ⟨A, n, c, b⟩ (At.new #[.slice A n c] 55 rfl)) (by omega) (by have := sz.out; simp; omega) ?_; intro A3 c3 w3 hown3 hg3 hf3; have C3 := Lib.hid (C1.out.push (w1 := w2.alloc (.cells #[.slice A n c] 55)) (x := ⟨A, n, c, b⟩) (X2.out.trans (But.of_below (S := fun _ => False) BL.out) (fun _ h _ => h.elim)) HS.out (B1.out.size) (H4.out.below BL.out) N5.out (fun a ha => by have := O6.out a ha; simp; omega) hown3 hg3 hf3); have B3 := Lib.hid (show But (fun k => u8.ownBlock = some k) (w2.alloc (.cells #[.slice A n c] 55)) w3 from (But.refl _ _).grown hg3 (fun k hk _ => hk)); clear hown3 hg3 hf3)
        have V8 := Lib.hid (show ∀ k, u8.ownBlock = some k → w.heap.size ≤ k from fun k hk => (C1.out.own.lt k hk).1)
        have A3 := Lib.hid ((A2.out.alloc (.cells #[.slice A n c] 55)).but B3.out (fun k hk e => by have := V8.out k e; have := hlt.out; have := A1.out.lt k hk; exact HS.out k (V8.out k e) hk))
        go_roundw
        case rel => exact ⟨L ++ [⟨A, n, c, b⟩], s2, by simp; omega, by simp; omega, A3.out, ((B2.out.alloc _).trans B3.out (fun k hk hlt' => by have := V8.out k hk; omega)), hZ _ _ _ (hZ _ _ _ Z2.out (But.of_below (S := O) BL.out) (fun _ h => .inl h)) B3.out (fun k hk => .inr (V8.out k hk)), by simpa using J7.out, C3.out⟩
        case measure => simp [RowKit.intOf]; omega
      · have F4 := Lib.hid k4
        have hne2 : (er != 0) = true := by simpa using hne
        go_wp2
        go_ret2
        exact ⟨_, _, _, rfl, A2.out, B2.out, .inr ⟨hne, rfl, F4.out⟩⟩
    · have e : L.length = many := by omega
      go_wp2
      go_ret2
      exact ⟨_, _, _, rfl, A1.out, B1.out, .inl ⟨rfl, L, C1.out, e, J1.out⟩⟩
end
end Go.Proofs.YtapbphkhbhcdkaaGreat
