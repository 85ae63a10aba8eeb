/-
  TEXTS JOINED: L9Encode, Vol.
-/
import Derived.Test.YtplmdmchkaacoaaGreatJ35
import Derived.Test.YtplmdmchkaacoaaGreatJ20
import Derived.Test.YtplmdmchkaacoaaGreatJ22
import Derived.Test.YtplmdmchkaacoaaGreatJ24
import Derived.Test.YtplmdmchkaacoaaGreatJ26
import Derived.Test.YtplmdmchkaacoaaGreatJ31

/-
  THE WALK OF note.Encode: any note whose numbers fit into their bytes.
-/
namespace Go.Proofs.YtplmdmchkaacoaaGreat.L9
open Go.RowKit
set_option linter.unusedVariables false
set_option maxRecDepth 100000


/-- The note at block B, a writer that holds L behind it, and another one that holds nothing. -/
structure Enc (w0 w : World) (B : Nat) (cs : Array Value) (v : Value) (L : List (BitVec 8)) : Prop where
  box : At w B cs 66
  wr : Wr w (B + 1) v L
  own : ∀ j, v.ownBlock = some j → B + 1 + 1 < j
  sec : Wr w (B + 1 + 1) (.slice none 0 0) []
  bel : Below B w0 w
theorem Enc.start (w : World) (cs : Array Value) : Enc w (((w.alloc (.cells cs 66)).alloc (.cells #[.slice none 0 0] 202)).alloc (.cells #[.slice none 0 0] 202)) w.heap.size cs (.slice none 0 0) [] :=
  ⟨((At.new _ _ rfl).alloc _).alloc _, ⟨(At.new _ _ (by simp)).alloc _, World.ownsRow_nil _ _ _ _, by simp [Value.ownBlock]⟩, fun j h => by simp [Value.ownBlock] at h, ⟨At.new _ _ (by simp), World.ownsRow_nil _ _ _ _, by simp [Value.ownBlock]⟩,
    (((Below.refl _ _).alloc (Nat.le_refl _) _).alloc (by simp) _).alloc (by simp; omega) _⟩
theorem Enc.put {w0 w w' : World} {B : Nat} {cs : Array Value} {v : Value} {L M : List (BitVec 8)} (h : Enc w0 w B cs v L) (hW : Wrote w (B + 1) v M w') (hB : w0.heap.size = B) : ∃ v', Enc w0 w' B cs v' M := by
  obtain ⟨v', h1, h2, h3⟩ := hW
  have hs := h.sec.lt
  have out : ∀ j, j = B ∨ j = B + 1 + 1 → ¬ foot (B + 1) v j := by
    rintro j hj (e | e)
    · omega
    · have := h.own j e; omega
  refine ⟨v', h.box.but h2 (out B (.inl rfl)), h1, fun j hj => ?_, h.sec.but h2 (out _ (.inr rfl)) (fun j hj => by simp [Value.ownBlock] at hj), ?_⟩
  · rcases h3 j hj with e | e
    · exact h.own j e
    · omega
  · refine h.bel.trans (h2.below ?_ (by have := h.bel.size; omega))
    rintro j (e | e)
    · omega
    · have := h.own j e; omega
/-- What a writer's call leaves as it was, behind the writer's own blocks. -/
theorem Enc.keep {w0 w w' : World} {B g : Nat} {cs : Array Value} {v : Value} {L M : List (BitVec 8)} {xs : Array Value} {t : TypeId} (h : Enc w0 w B cs v L) (hW : Wrote w (B + 1) v M w') (hg : At w g xs t) (h1 : g ≠ B + 1) (h2 : v.ownBlock ≠ some g) : At w' g xs t := by
  obtain ⟨v', _, hb, _⟩ := hW
  refine hg.but hb ?_
  rintro (e | e)
  · exact h1 e
  · exact h2 e
theorem Enc.up {w0 w w' : World} {B : Nat} {cs : Array Value} {v : Value} {L : List (BitVec 8)} (h : Enc w0 w B cs v L) (hb : But (fun _ => False) w w') : Enc w0 w' B cs v L :=
  ⟨h.box.but hb (fun h => h), h.wr.but hb (fun h => h) (fun _ _ h => h), h.own, h.sec.but hb (fun h => h) (fun _ _ h => h), h.bel.trans (hb.below (fun _ h => h.elim) (by have := h.box.lt; omega))⟩
theorem Enc.raw {w0 w w' : World} {B : Nat} {cs : Array Value} {v : Value} {L M : List (BitVec 8)} (h : Enc w0 w B cs v L) (hW : Wrote w (B + 1 + 1) (.slice none 0 0) M w') : ∃ v', Wr w' (B + 1 + 1) v' M ∧ At w' B cs 66 ∧ Below B w0 w' := by
  obtain ⟨v', h1, h2, h3⟩ := hW
  have out : ∀ j, foot (B + 1 + 1) (.slice none 0 0) j → j = B + 1 + 1 := by
    rintro j (e | e)
    · exact e
    · simp [Value.ownBlock] at e
  refine ⟨v', h1, h.box.but h2 (fun e => by have := out _ e; omega), h.bel.trans (h2.below (fun j e => by have := out j e; omega) (by have := h.box.lt; omega))⟩
theorem Enc.put2 {w0 w w' : World} {B : Nat} {cs : Array Value} {v : Value} {L M : List (BitVec 8)} (h : Enc w0 w B cs v L) (hW : Wrote w (B + 1) v M w') (hB : w0.heap.size = B) : ∃ v', (∀ k, v'.ownBlock = some k → v.ownBlock = some k ∨ w.heap.size ≤ k) ∧ Enc w0 w' B cs v' M := by
  obtain ⟨v', h1, h2, h3⟩ := hW
  have hs := h.sec.lt
  have out : ∀ j, j = B ∨ j = B + 1 + 1 → ¬ foot (B + 1) v j := by
    rintro j hj (e | e)
    · omega
    · have := h.own j e; omega
  refine ⟨v', h3, h.box.but h2 (out B (.inl rfl)), h1, fun j hj => ?_, h.sec.but h2 (out _ (.inr rfl)) (fun j hj => by simp [Value.ownBlock] at hj), ?_⟩
  · rcases h3 j hj with e | e
    · exact h.own j e
    · omega
  · refine h.bel.trans (h2.below ?_ (by have := h.bel.size; omega))
    rintro j (e | e)
    · omega
    · have := h.own j e; omega
theorem pad_self {L : List (BitVec 8)} {M : Nat} (h : L.length = M) : pad L M = L := by simp [pad, h]
theorem ents_next (es : List En) (k : Nat) (h : k < es.length) : ents (es.take (k + 1)) = ents (es.take k) ++ low es[k].k 1 ++ low es[k].b 4 := by
  rw [List.take_succ_eq_append_getElem h, ents_append, ents_one, List.append_assoc]
theorem fents_next (F : List (BitVec 8)) (es : List En) (k : Nat) (h : k < es.length) : F ++ ents (es.take (k + 1)) = F ++ ents (es.take k) ++ low es[k].k 1 ++ low es[k].b 4 := by
  rw [ents_next es k h]
  simp only [List.append_assoc]
theorem wrap64 {N : Nat} (h : N < 18446744073709551616) : IntKind.u64.wrap (N : Int) = (N : Int) := by
  simp [IntKind.wrap, IntKind.signed, IntKind.bits]
  omega

set_option maxHeartbeats 2000000 in
theorem encode_any (q s : Nat) (z : Int) (A : Option Addr) (n c : Nat) (es : List En) (block M : Nat) (w : World) (hq : q < 18446744073709551616) (hz : z + 1 = (s : Int)) (hs : s < 65536) (hn : n ≤ 1000) (hb : block ≤ 1048576) (hM : M = max (15 + 5 * n) block) (hf : ∀ x ∈ es, x.fits) (h : Ers w A n es) :
    Calls Tryz.prog 131 #[.agg #[.int .u64 (q : Int), .int .i64 z, .slice A n c], .int .i64 (block : Int)] w (Cloned w M (told q s es M)) := by
  have E := Lib.hid (Enc.start w #[.int .u64 (q : Int), .int .i64 z, .slice A n c])
  have H := Lib.hid h
  have HL := Lib.hid h.1
  have HF := Lib.hid hf
  have HM := Lib.hid hM
  clear h hf hM
  go_enter Tryz.func131, Tryz.ntmps131
  go_wp2_with fail
  refine (put_some (w.heap.size + 1) _ (([] : List (BitVec 8))) 1 78 _ (by omega) (by omega) (by decide) (by simp) E.out.wr).mono ?_
  rintro e w1 ⟨rfl, hW⟩
  obtain ⟨v1, hE⟩ := E.out.put hW rfl
  have E := Lib.hid hE
  clear hW hE
  have c0 := E.out.box.cell 0; have c1 := E.out.box.cell 1; have c2 := E.out.box.cell 2
  go_wp2_with fail
  clear c0 c1 c2
  refine (put_some (w.heap.size + 1) _ (([] : List (BitVec 8)) ++ low 78 1) 8 q _ (by omega) (by omega) (by omega) (by simp [low_len]) E.out.wr).mono ?_
  rintro e w2 ⟨rfl, hW⟩
  obtain ⟨v2, hE⟩ := E.out.put hW rfl
  have E := Lib.hid hE
  clear hW hE
  have c0 := E.out.box.cell 0; have c1 := E.out.box.cell 1; have c2 := E.out.box.cell 2
  go_wp2_with fail
  clear c0 c1 c2
  refine (put_some (w.heap.size + 1) _ (([] : List (BitVec 8)) ++ low 78 1 ++ low q 8) 2 s _ (by omega) (by omega) (by omega) (by simp [low_len]) E.out.wr).mono ?_
  rintro e w3 ⟨rfl, hW⟩
  obtain ⟨v3, hE⟩ := E.out.put hW rfl
  have E := Lib.hid (show Enc w w3 w.heap.size #[.int .u64 (q : Int), .int .i64 z, .slice A n c] v3 (front q s) from hE)
  clear hW hE
  have c0 := E.out.box.cell 0; have c1 := E.out.box.cell 1; have c2 := E.out.box.cell 2
  go_wp2
  clear c0 c1 c2
  go_loopw [21] (fun i wr => ∃ (k : Nat) (v : Value), k ≤ n ∧ i = .int .i64 k ∧ Enc w wr w.heap.size #[.int .u64 (q : Int), .int .i64 z, .slice A n c] v (front q s ++ ents (es.take k))) (fun i _ => n - (RowKit.intOf i).toNat)
  case atStart => exact ⟨0, v3, Nat.zero_le _, rfl, by simpa [ents] using E.out⟩
  case round =>
    clear E
    obtain ⟨k, v, hk, rfl, hE⟩ := hrel
    have E := Lib.hid hE
    have HH := Lib.hid (H.out.below hE.bel)
    clear hE
    by_cases hlt : k < n
    · obtain ⟨b, off, rfl⟩ := H.out.some_ (by omega)
      have hkl : k < es.length := by rw [HL.out]; exact hlt
      obtain ⟨hc, hc'⟩ := HH.out.cell k hlt
      obtain ⟨hx1, hx2⟩ := HF.out es[k] (List.getElem_mem hkl)
      have EN := Lib.hid (fents_next (front q s) es k hkl)
      have LN := Lib.hid (show (front q s ++ ents (es.take k)).length = 11 + 5 * k by rw [List.length_append, front_len, ents_len, List.length_take, Nat.min_eq_left (by omega)])
      generalize front q s ++ ents (es.take k) = F at *
      obtain ⟨⟨X, Y⟩, hx⟩ : ∃ x, es[k] = x := ⟨_, rfl⟩
      rw [hx] at hc hc' hx1 hx2 EN
      clear hx
      simp only at hc hc' hx1 hx2
      have hsz : w.heap.size + 1 + 1 < wr.heap.size := E.out.sec.lt
      have HS := Lib.hid hsz
      have OWN := Lib.hid (show v.ownBlock ≠ some wr.heap.size from fun e => by have := (E.out.wr.own.lt _ e).2; omega)
      clear hsz
      go_wp2_with fail
      have E := Lib.hid (E.out.up (((But.refl _ _).alloc (.cells #[.int .i64 (X : Int), .int .i64 (Y : Int)] 73)).drew))
      have EB := Lib.hid (show At (wr.alloc (.cells #[.int .i64 (X : Int), .int .i64 (Y : Int)] 73)).drew wr.heap.size #[.int .i64 (X : Int), .int .i64 (Y : Int)] 73 from At.new _ _ rfl)
      refine wp_region_early (fun w' : World => At w' wr.heap.size #[.int .i64 (X : Int), .int .i64 (Y : Int)] 73) (fun _ => true) (by kernel_rfl) ?_
      change wpEarly _ _ _ _ _ _ 8 (Array.replicate 8 false) _ (wr.alloc (.cells #[.int .i64 (X : Int), .int .i64 (Y : Int)] 73)).drew
      generalize (wr.alloc (.cells #[.int .i64 (X : Int), .int .i64 (Y : Int)] 73)).drew = wa at *
      generalize hg : wr.heap.size = g at *
      clear hg
      have GL := Lib.hid EB.out.lt
      refine early_take (i := 0) 25 (.pointer (some ⟨g, 0, none⟩)) rfl rfl (by kernel_rfl) (by kernel_rfl) (by kernel_rfl) (by kernel_rfl) rfl (fun _ _ _ h => h) (fun w' hw' => by go_simp) EB.out ?_
      simp only [Act.put, List.setIfInBounds_toArray, List.set_cons_zero, List.set_cons_succ]
      refine early_take (i := 1) 26 (.int .i64 (X : Int)) rfl rfl (by kernel_rfl) (by kernel_rfl) (by kernel_rfl) (by kernel_rfl) rfl (fun _ _ _ h => h) (fun w' hw' => by have hc0 := hw'.cell 0; go_simp) EB.out ?_
      simp only [Act.put, List.setIfInBounds_toArray, List.set_cons_zero, List.set_cons_succ]
      refine early_take (i := 2) 27 (.int .u64 (X : Int)) rfl rfl (by kernel_rfl) (by kernel_rfl) (by kernel_rfl) (by kernel_rfl) rfl (fun _ _ _ h => h) (fun w' hw' => by go_simp; exact wrap64 (by omega)) EB.out ?_
      simp only [Act.put, List.setIfInBounds_toArray, List.set_cons_zero, List.set_cons_succ]
      refine early_take (i := 4) 29 (.pointer (some ⟨g, 1, none⟩)) rfl rfl (by kernel_rfl) (by kernel_rfl) (by kernel_rfl) (by kernel_rfl) rfl (fun _ _ _ h => h) (fun w' hw' => by go_simp) EB.out ?_
      simp only [Act.put, List.setIfInBounds_toArray, List.set_cons_zero, List.set_cons_succ]
      refine early_take (i := 5) 30 (.int .i64 (Y : Int)) rfl rfl (by kernel_rfl) (by kernel_rfl) (by kernel_rfl) (by kernel_rfl) rfl (fun _ _ _ h => h) (fun w' hw' => by have hc0 := hw'.cell 1; go_simp) EB.out ?_
      simp only [Act.put, List.setIfInBounds_toArray, List.set_cons_zero, List.set_cons_succ]
      refine early_take (i := 6) 31 (.int .u64 (Y : Int)) rfl rfl (by kernel_rfl) (by kernel_rfl) (by kernel_rfl) (by kernel_rfl) rfl (fun _ _ _ h => h) (fun w' hw' => by go_simp; exact wrap64 (by omega)) EB.out ?_
      simp only [Act.put, List.setIfInBounds_toArray, List.set_cons_zero, List.set_cons_succ]
      refine early_only (i := 3) (by kernel_rfl) rfl (fun K hK => ?_)
      simp only [opWp, List.getElem?_toArray, List.getElem?_cons_succ, List.getElem?_cons_zero]
      go_simp
      go_at_call 149
      refine (put_some (w.heap.size + 1) v F 1 X _ (by omega) (by omega) (by omega) (by rw [LN.out]; omega) E.out.wr).mono ?_
      rintro e w4 ⟨rfl, hW⟩
      have EB := Lib.hid (E.out.keep hW EB.out (by have := HS.out; omega) OWN.out)
      obtain ⟨v4, hf4, hE4⟩ : ∃ v', (∀ k, v'.ownBlock = some k → v.ownBlock = some k ∨ wa.heap.size ≤ k) ∧ Enc w w4 w.heap.size #[.int .u64 (q : Int), .int .i64 z, .slice (some ⟨b, off, none⟩) n c] v' (F ++ low X 1) := E.out.put2 hW rfl
      have OWN := Lib.hid (show v4.ownBlock ≠ some g from fun e => (hf4 _ e).elim OWN.out (fun h => by have := GL.out; omega))
      have E := Lib.hid hE4
      clear hW hf4 hE4
      refine hK _ _ (fun _ => EB.out) ?_
      refine early_only (i := 7) (by kernel_rfl) rfl (fun K hK => ?_)
      simp only [opWp, List.getElem?_toArray, List.getElem?_cons_succ, List.getElem?_cons_zero]
      go_simp
      go_at_call 149
      refine (put_some (w.heap.size + 1) v4 (F ++ low X 1) 4 Y _ (by omega) (by omega) (by omega) (by rw [List.length_append, LN.out, low_len]; omega) E.out.wr).mono ?_
      rintro e w5 ⟨rfl, hW⟩
      have EB := Lib.hid (E.out.keep hW EB.out (by have := HS.out; omega) OWN.out)
      obtain ⟨v5, hE5⟩ := E.out.put hW rfl
      have E := Lib.hid hE5
      clear hW hE5
      refine hK _ _ (fun _ => EB.out) ?_
      refine early_done (by kernel_rfl) ?_
      go_wp2_with fail
      have E2 := E.out
      rw [← EN.out] at E2
      exact ⟨⟨k + 1, _, by omega, by go_num, E2⟩, by simp [RowKit.intOf]; omega⟩
    · obtain rfl : k = n := by omega
      have ELL : es.take k = es := List.take_of_length_le (by rw [HL.out]; omega)
      rw [ELL] at E
      clear ELL
      have LN := Lib.hid (show (body q s es).length = 11 + 5 * k by rw [body_len, HL.out])
      have E := Lib.hid (show Enc w wr w.heap.size #[.int .u64 (q : Int), .int .i64 z, .slice A k c] v (body q s es) from E.out)
      have HT := Lib.hid (show told q s es M = pad (sealL (body q s es)) M from rfl)
      generalize body q s es = F at *
      go_wp2_with fail
      refine (bytes_any (w.heap.size + 1) v F 0 0 (11 + 5 * k) _ (by rw [LN.out]; omega) (by omega) (by rw [LN.out]; omega) E.out.wr).mono ?_
      rintro e w9 ⟨v9, rfl, hf9⟩
      rw [pad_self LN.out] at hf9
      obtain ⟨A9, c9, rfl, _, _, hn9, hh9, _⟩ := own_slice hf9.1
      have E := Lib.hid (E.out.up (But.of_below hf9.2))
      have H9 := Lib.hid hh9
      have N9 := Lib.hid (show A9 = none → 11 + 5 * k = 0 ∧ c9 = 0 from fun e => by subst e; obtain ⟨b, o, e⟩ := hh9.some_ (by omega); cases e)
      clear hf9 hn9 hh9
      go_wp2_with fail
      refine (seal_any A9 (11 + 5 * k) c9 F w9 (by omega) N9.out H9.out).mono ?_
      rintro e w10 ⟨v10, rfl, hf10⟩
      obtain ⟨A10, c10, rfl, _, _, hn10, hh10, _⟩ := own_slice hf10.1
      have E := Lib.hid (E.out.up (But.of_below hf10.2))
      have H10 := Lib.hid (show Has w10 A10 (11 + 5 * k + 4) (sealL F) from hh10)
      have N10 := Lib.hid hn10
      clear hf10 hn10 hh10
      go_wp2_with fail
      refine (raw_any (w.heap.size + 1 + 1) (.slice none 0 0) [] A10 (11 + 5 * k + 4) c10 (sealL F) w10 (by simp) (by omega) E.out.sec H10.out N10.out).mono ?_
      rintro e w11 ⟨rfl, hW⟩
      obtain ⟨v11, hw11, hc11, hb11⟩ := E.out.raw hW
      have W11 := Lib.hid hw11
      have B11 := Lib.hid hb11
      clear hW hw11 hc11 hb11
      go_wp2_with fail
      refine (bytes_any (w.heap.size + 1 + 1) v11 ([] ++ sealL F) block block M _ (by rw [List.nil_append, sealL_len, LN.out]; omega) (by omega) (by rw [List.nil_append, sealL_len, LN.out]; have := HM.out; omega) W11.out).mono ?_
      rintro e w12 ⟨v12, rfl, hf12⟩
      have R := Lib.hid (show Cloned w M (pad (sealL F) M) (.returned v12) w12 from ⟨_, rfl, own_base hf12.1 (fun j hj => Nat.le_trans B11.out.size (hf12.1.lt j hj).1), B11.out.trans (hf12.2.mono B11.out.size)⟩)
      clear hf12
      go_wp2
      go_ret
      rw [HT.out]
      exact R.out
end Go.Proofs.YtplmdmchkaacoaaGreat.L9

/-
  WHAT A LOG IS: numbers and relations only: its records, the places, the segments; what a note, and a stripe, turn.
-/
namespace Go.Proofs.YtplmdmchkaacoaaGreat
open Go.RowKit
open L7 (Rr Rc)
open L12 (Sg)
open L13 (setN)
open L14 (vw upTo Up)
set_option linter.unusedVariables false
set_option maxRecDepth 100000

/-- What a log is: its array, the records that are staged, where each block lies, the segments, where the next stripe goes. -/
structure LS where
  a : AS
  recs : List Rr
  V : Nat → Int
  T : List Sg
  seg : Nat
  idx : Nat
/-- Slots of a stripe; stripes of a segment; blocks. -/
def AS.sl (s : AS) : Nat := s.M - 2
def AS.k (s : AS) : Nat := s.s.toNat
def AS.lb (s : AS) : Nat := s.l.toNat
def AS.gs (s : AS) : Nat := s.g.toNat
def AS.nb (s : AS) : Nat := s.b.toNat

/-- How many blocks live in segment i. -/
def lives (V : Nat → Int) (sl k L : Nat) (i : Nat) : Nat := (List.range L).countP fun j => decide (V j ≠ -1 ∧ V j / (sl : Int) / (k : Int) = (i : Int))

/-- One more, or less, block lives where p lies. -/
def liv (a : AS) (T : List Sg) (p m : Int) : List Sg := if p = -1 then T else L12.put T (p / ((a.M : Int) - 2) / a.s) fun y => ⟨y.st, y.lv + m, y.bo⟩
/-- A block lies elsewhere. -/
def LS.remap (x : LS) (b p : Int) : LS := if 0 ≤ b ∧ b < x.a.l then { x with V := setN x.V b.toNat p, T := liv x.a (liv x.a x.T (x.V b.toNat) (-1)) p 1 } else x
def LS.enter (x : LS) (e : L9.En) (p : Int) : LS := if e.k = 1 ∨ e.k = 3 then x.remap (e.b : Int) p else if e.k = 2 then x.remap (e.b : Int) (-1) else x
/-- The first j entries of the stripe t. -/
def LS.enters (x : LS) (t : Int) (es : List L9.En) : Nat → LS
  | 0 => x
  | j + 1 => if h : j < es.length then (if j < x.a.sl then (x.enters t es j).enter es[j] (t * ((x.a.M : Int) - 2) + (j : Int)) else x.enters t es j) else x.enters t es j
def LS.stripe (x : LS) : Int := (x.seg : Int) * x.a.s + (x.idx : Int)
def LS.last (x : LS) : Bool := decide ((x.idx : Int) = x.a.s - 1)
def LS.free (x : LS) : Nat := L12.many x.T 0
def LS.usable (x : LS) : Int := x.a.s - (x.idx : Int) + x.a.s * (x.free : Int) - 1
/-- The next stripe is another segment's. -/
def LS.turn (x : LS) (q z : Int) : LS := { x with T := L12.put (L12.put x.T (x.seg : Int) fun y => ⟨2, y.lv, q⟩) z (fun y => ⟨1, y.lv, y.bo⟩), seg := z.toNat, idx := 0 }
def LS.apply (x : LS) (n : L9.Nt) : LS :=
  if x.last = true ∧ ¬ (0 ≤ n.z ∧ n.z < x.a.g) then x
  else if x.last = true then (x.enters x.stripe n.es n.es.length).turn (n.q : Int) n.z
  else { x.enters x.stripe n.es n.es.length with idx := x.idx + 1 }

/-- The records of the next stripe. -/
def LS.batch (x : LS) : List Rr := (vw Rr.lba x.recs).take x.a.sl
def ent (r : Rr) : L9.En := ⟨r.kind.toNat, r.lba.toNat⟩
def LS.nx (x : LS) : Int := if x.last = true then L12.first x.T else -1
/-- Its note. -/
def LS.note (x : LS) : L9.Nt := ⟨x.a.dur.toNat + 1, x.nx, x.batch.map ent ++ List.replicate (x.a.sl - x.batch.length) ⟨0, 0⟩⟩
/-- There is no room for it. -/
def LS.none_ (x : LS) : Prop := x.last = true ∧ L12.first x.T < 0
instance (x : LS) : Decidable x.none_ := inferInstanceAs (Decidable (_ ∧ _))
/-- A block of these bytes. -/
def blk (nb : Nat) (d : Bytes) : Bytes := d ++ List.replicate (nb - d.length) 0#8
/-- Its chunks. -/
def LS.chunk (x : LS) (k : Nat) : Bytes := if k = 0 then L9.told x.note.q (x.note.z + 1).toNat x.note.es x.a.nb else blk x.a.nb ((x.batch.map Rr.l).getD (k - 1) [])
/-- Behind it, the array being a. -/
def LS.done (x : LS) (a : AS) : LS := LS.apply { x with recs := x.recs.filter (fun r => decide (upTo Rr.lba Rr.seq x.recs x.batch.length < r.seq)), a := a } x.note

/-- A record that may be. -/
structure RecOk (a : AS) (r : Rr) : Prop where
  kind : r.kind = 1 ∨ r.kind = 2 ∨ r.kind = 3
  lba : 0 ≤ r.lba ∧ r.lba < a.l
  len : r.l.length ≤ a.nb
structure LS.Wf (x : LS) : Prop where
  T : (x.T.length : Int) = x.a.g
  sg : (x.seg : Int) < x.a.g
  ix : (x.idx : Int) < x.a.s
  V : ∀ i, -1 ≤ x.V i ∧ x.V i < x.a.N * ((x.a.M : Int) - 2)
  lv : ∀ i (h : i < x.T.length), x.T[i].lv = (lives x.V x.a.sl x.a.k x.a.lb i : Int)
  ok : ∀ r ∈ x.recs, RecOk x.a r
  up : Up Rr.seq x.recs
  few : (x.recs.length : Int) ≤ x.a.n
  dur : 0 ≤ x.a.dur ∧ x.a.dur ≤ 100000
  rl : x.a.rl ≤ 100000
  top : ∀ r ∈ x.recs, r.seq ≤ x.a.rl

/-! The numbers of blocks that live. -/
theorem lives_le (V : Nat → Int) (sl k L i : Nat) : lives V sl k L i ≤ L := Nat.le_trans List.countP_le_length (by simp)
theorem countP_upd {f g : Nat → Bool} : ∀ {L b : Nat}, b < L → (∀ j, j ≠ b → f j = g j) → (List.range L).countP g + (if f b then 1 else 0) = (List.range L).countP f + (if g b then 1 else 0)
  | L + 1, b, hb, h => by
    rw [List.range_succ, List.countP_append, List.countP_append]
    by_cases e : b = L
    · subst e
      have : (List.range b).countP g = (List.range b).countP f := List.countP_congr (fun j hj => by rw [h j (by have := List.mem_range.1 hj; omega)])
      rw [this]
      simp only [List.countP_cons, List.countP_nil]
      cases f b <;> cases g b <;> simp
    · have ih := countP_upd (L := L) (b := b) (f := f) (g := g) (by omega) h
      simp only [List.countP_cons, List.countP_nil, h L (fun e' => e e'.symm)]
      omega
theorem tally {a b : Nat} {A B : Prop} [Decidable A] [Decidable B] (h : a + (if A then 1 else 0) = b + (if B then 1 else 0)) : (a : Int) = (b : Int) - (if A then 1 else 0) + (if B then 1 else 0) := by
  by_cases hA : A <;> by_cases hB : B <;> simp only [hA, hB, if_true, if_false] at h ⊢ <;> omega
theorem lives_set (V : Nat → Int) (sl k L i b : Nat) (p : Int) (hb : b < L) :
    (lives (setN V b p) sl k L i : Int) = (lives V sl k L i : Int) - (if V b ≠ -1 ∧ V b / (sl : Int) / (k : Int) = (i : Int) then 1 else 0) + (if p ≠ -1 ∧ p / (sl : Int) / (k : Int) = (i : Int) then 1 else 0) := by
  have h := countP_upd (L := L) (b := b) (f := fun j => decide (V j ≠ -1 ∧ V j / (sl : Int) / (k : Int) = (i : Int))) (g := fun j => decide (setN V b p j ≠ -1 ∧ setN V b p j / (sl : Int) / (k : Int) = (i : Int))) hb (fun j hj => by simp only [L13.setN_other V p hj])
  simp only [L13.setN_same, decide_eq_true_eq] at h
  exact tally h
end Go.Proofs.YtplmdmchkaacoaaGreat
