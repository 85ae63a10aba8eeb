/-
  THE WALK OF super.Encode: any label whose numbers fit into their bytes.
-/
import Derived.Test.YtkhjeaabhjfkgaaLawA
import Derived.Test.YtkhjeaabhjfkgaaEarly
namespace Go.Proofs.Ytkhjeaabhjfkgaa
open Go.RowKit
set_option linter.unusedVariables false
set_option maxRecDepth 100000

/-- The label at block B, a writer that holds L behind it, and another one that holds nothing. -/
structure Enc (w0 w : World) (B : Nat) (cs : Array Value) (v : Value) (L : List (BitVec 8)) : Prop where
  box : At w B cs 29
  wr : Wr w (B + 1) v L
  own : ∀ j, v.ownBlock = some j → B + 1 + 1 < j
  sec : Wr w (B + 1 + 1) (.slice none 0 0) []
  bel : Below B w0 w
theorem Enc.start (w : World) (cs : Array Value) : Enc w (((w.alloc (.cells cs 29)).alloc (.cells #[.slice none 0 0] 42)).alloc (.cells #[.slice none 0 0] 42)) w.heap.size cs (.slice none 0 0) [] :=
  ⟨((At.new _ _ rfl).alloc _).alloc _, ⟨(At.new _ _ (by simp)).alloc _, World.ownsRow_nil _ _ _ _, by simp [Value.ownBlock]⟩, fun j h => by simp [Value.ownBlock] at h, ⟨At.new _ _ (by simp), World.ownsRow_nil _ _ _ _, by simp [Value.ownBlock]⟩,
    (((Below.refl _ _).alloc (Nat.le_refl _) _).alloc (by simp) _).alloc (by simp; omega) _⟩
theorem Enc.put {w0 w w' : World} {B : Nat} {cs : Array Value} {v : Value} {L M : List (BitVec 8)} (h : Enc w0 w B cs v L) (hW : Wrote w (B + 1) v M w') (hB : w0.heap.size = B) : ∃ v', Enc w0 w' B cs v' M := by
  obtain ⟨v', h1, h2, h3⟩ := hW
  have hs := h.sec.lt
  have out : ∀ j, j = B ∨ j = B + 1 + 1 → ¬ foot (B + 1) v j := by
    rintro j hj (e | e)
    · omega
    · have := h.own j e; omega
  refine ⟨v', h.box.but h2 (out B (.inl rfl)), h1, fun j hj => ?_, h.sec.but h2 (out _ (.inr rfl)) (fun j hj => by simp [Value.ownBlock] at hj), ?_⟩
  · rcases h3 j hj with e | e
    · exact h.own j e
    · omega
  · refine h.bel.trans (h2.below ?_ (by have := h.bel.size; omega))
    rintro j (e | e)
    · omega
    · have := h.own j e; omega

theorem Enc.up {w0 w w' : World} {B : Nat} {cs : Array Value} {v : Value} {L : List (BitVec 8)} (h : Enc w0 w B cs v L) (hb : But (fun _ => False) w w') : Enc w0 w' B cs v L :=
  ⟨h.box.but hb (fun h => h), h.wr.but hb (fun h => h) (fun _ _ h => h), h.own, h.sec.but hb (fun h => h) (fun _ _ h => h), h.bel.trans (hb.below (fun _ h => h.elim) (by have := h.box.lt; omega))⟩
theorem Enc.raw {w0 w w' : World} {B : Nat} {cs : Array Value} {v : Value} {L M : List (BitVec 8)} (h : Enc w0 w B cs v L) (hW : Wrote w (B + 1 + 1) (.slice none 0 0) M w') : ∃ v', Wr w' (B + 1 + 1) v' M ∧ At w' B cs 29 ∧ Below B w0 w' := by
  obtain ⟨v', h1, h2, h3⟩ := hW
  have out : ∀ j, foot (B + 1 + 1) (.slice none 0 0) j → j = B + 1 + 1 := by
    rintro j (e | e)
    · exact e
    · simp [Value.ownBlock] at e
  refine ⟨v', h1, h.box.but h2 (fun e => by have := out _ e; omega), h.bel.trans (h2.below (fun j e => by have := out j e; omega) (by have := h.box.lt; omega))⟩
theorem pad_self {L : List (BitVec 8)} {M : Nat} (h : L.length = M) : pad L M = L := by simp [pad, h]

set_option maxHeartbeats 1000000 in
theorem encode_at (m b g s n l k : Nat) (w : World) (hm : m < 256) (hb : b < 65536) (hg : g < 65536) (hs : s < 65536) (hn : n < 65536) (hl : l < 4294967296) (hk : k < 256) (h22 : 22 ≤ b) :
    Calls Try.prog 9 #[.agg #[.int .i64 (m : Int), .int .i64 (b : Int), .int .i64 (g : Int), .int .i64 (s : Int), .int .i64 (n : Int), .int .i64 (l : Int), .int .i64 (k : Int)]] w (Cloned w b (sector ⟨m, b, g, s, n, l, k⟩)) := by
  have E := Lib.hid (Enc.start w #[.int .i64 (m : Int), .int .i64 (b : Int), .int .i64 (g : Int), .int .i64 (s : Int), .int .i64 (n : Int), .int .i64 (l : Int), .int .i64 (k : Int)])
  go_enter Try.func9, Try.ntmps9
  go_wp2_with fail
  refine (put_some (w.heap.size + 1) _ (([] : List (BitVec 8))) 4 mark _ (by omega) (by omega) (by decide) (by simp) E.out.wr).mono ?_
  rintro e w1 ⟨rfl, hW⟩
  obtain ⟨v1, hE⟩ := E.out.put hW rfl
  have E := Lib.hid hE
  clear hW hE
  have c0 := E.out.box.cell 0; have c1 := E.out.box.cell 1; have c2 := E.out.box.cell 2; have c3 := E.out.box.cell 3; have c4 := E.out.box.cell 4; have c5 := E.out.box.cell 5; have c6 := E.out.box.cell 6
  go_wp2_with fail
  clear c0 c1 c2 c3 c4 c5 c6
  refine (put_some (w.heap.size + 1) _ (([] : List (BitVec 8)) ++ low mark 4) 1 k _ (by omega) (by omega) (by omega) (by simp [low_len]) E.out.wr).mono ?_
  rintro e w2 ⟨rfl, hW⟩
  obtain ⟨v2, hE⟩ := E.out.put hW rfl
  have E := Lib.hid hE
  clear hW hE
  have c0 := E.out.box.cell 0; have c1 := E.out.box.cell 1; have c2 := E.out.box.cell 2; have c3 := E.out.box.cell 3; have c4 := E.out.box.cell 4; have c5 := E.out.box.cell 5; have c6 := E.out.box.cell 6
  go_wp2_with fail
  clear c0 c1 c2 c3 c4 c5 c6
  refine (put_some (w.heap.size + 1) _ (([] : List (BitVec 8)) ++ low mark 4 ++ low k 1) 1 m _ (by omega) (by omega) (by omega) (by simp [low_len]) E.out.wr).mono ?_
  rintro e w3 ⟨rfl, hW⟩
  obtain ⟨v3, hE⟩ := E.out.put hW rfl
  have E := Lib.hid hE
  clear hW hE
  have c0 := E.out.box.cell 0; have c1 := E.out.box.cell 1; have c2 := E.out.box.cell 2; have c3 := E.out.box.cell 3; have c4 := E.out.box.cell 4; have c5 := E.out.box.cell 5; have c6 := E.out.box.cell 6
  go_wp2_with fail
  clear c0 c1 c2 c3 c4 c5 c6
  refine (put_some (w.heap.size + 1) _ (([] : List (BitVec 8)) ++ low mark 4 ++ low k 1 ++ low m 1) 2 b _ (by omega) (by omega) (by omega) (by simp [low_len]) E.out.wr).mono ?_
  rintro e w4 ⟨rfl, hW⟩
  obtain ⟨v4, hE⟩ := E.out.put hW rfl
  have E := Lib.hid hE
  clear hW hE
  have c0 := E.out.box.cell 0; have c1 := E.out.box.cell 1; have c2 := E.out.box.cell 2; have c3 := E.out.box.cell 3; have c4 := E.out.box.cell 4; have c5 := E.out.box.cell 5; have c6 := E.out.box.cell 6
  go_wp2_with fail
  clear c0 c1 c2 c3 c4 c5 c6
  refine (put_some (w.heap.size + 1) _ (([] : List (BitVec 8)) ++ low mark 4 ++ low k 1 ++ low m 1 ++ low b 2) 2 g _ (by omega) (by omega) (by omega) (by simp [low_len]) E.out.wr).mono ?_
  rintro e w5 ⟨rfl, hW⟩
  obtain ⟨v5, hE⟩ := E.out.put hW rfl
  have E := Lib.hid hE
  clear hW hE
  have c0 := E.out.box.cell 0; have c1 := E.out.box.cell 1; have c2 := E.out.box.cell 2; have c3 := E.out.box.cell 3; have c4 := E.out.box.cell 4; have c5 := E.out.box.cell 5; have c6 := E.out.box.cell 6
  go_wp2_with fail
  clear c0 c1 c2 c3 c4 c5 c6
  refine (put_some (w.heap.size + 1) _ (([] : List (BitVec 8)) ++ low mark 4 ++ low k 1 ++ low m 1 ++ low b 2 ++ low g 2) 2 s _ (by omega) (by omega) (by omega) (by simp [low_len]) E.out.wr).mono ?_
  rintro e w6 ⟨rfl, hW⟩
  obtain ⟨v6, hE⟩ := E.out.put hW rfl
  have E := Lib.hid hE
  clear hW hE
  have c0 := E.out.box.cell 0; have c1 := E.out.box.cell 1; have c2 := E.out.box.cell 2; have c3 := E.out.box.cell 3; have c4 := E.out.box.cell 4; have c5 := E.out.box.cell 5; have c6 := E.out.box.cell 6
  go_wp2_with fail
  clear c0 c1 c2 c3 c4 c5 c6
  refine (put_some (w.heap.size + 1) _ (([] : List (BitVec 8)) ++ low mark 4 ++ low k 1 ++ low m 1 ++ low b 2 ++ low g 2 ++ low s 2) 2 n _ (by omega) (by omega) (by omega) (by simp [low_len]) E.out.wr).mono ?_
  rintro e w7 ⟨rfl, hW⟩
  obtain ⟨v7, hE⟩ := E.out.put hW rfl
  have E := Lib.hid hE
  clear hW hE
  have c0 := E.out.box.cell 0; have c1 := E.out.box.cell 1; have c2 := E.out.box.cell 2; have c3 := E.out.box.cell 3; have c4 := E.out.box.cell 4; have c5 := E.out.box.cell 5; have c6 := E.out.box.cell 6
  go_wp2_with fail
  clear c0 c1 c2 c3 c4 c5 c6
  refine (put_some (w.heap.size + 1) _ (([] : List (BitVec 8)) ++ low mark 4 ++ low k 1 ++ low m 1 ++ low b 2 ++ low g 2 ++ low s 2 ++ low n 2) 4 l _ (by omega) (by omega) (by omega) (by simp [low_len]) E.out.wr).mono ?_
  rintro e w8 ⟨rfl, hW⟩
  obtain ⟨v8, hE⟩ := E.out.put hW rfl
  have E := Lib.hid hE
  clear hW hE
  have c0 := E.out.box.cell 0; have c1 := E.out.box.cell 1; have c2 := E.out.box.cell 2; have c3 := E.out.box.cell 3; have c4 := E.out.box.cell 4; have c5 := E.out.box.cell 5; have c6 := E.out.box.cell 6
  go_wp2_with fail
  clear c0 c1 c2 c3 c4 c5 c6
  obtain ⟨L, hL⟩ : ∃ L, L = head ⟨m, b, g, s, n, l, k⟩ := ⟨_, rfl⟩
  have hL18 : L.length = 18 := by rw [hL]; rfl
  have E := Lib.hid (show Enc w w8.drew w.heap.size #[.int .i64 (m : Int), .int .i64 (b : Int), .int .i64 (g : Int), .int .i64 (s : Int), .int .i64 (n : Int), .int .i64 (l : Int), .int .i64 (k : Int)] v8 L by rw [hL]; exact E.out.up (But.refl _ _).drew)
  have HL := Lib.hid (show sector ⟨m, b, g, s, n, l, k⟩ = pad (sealL L) b by rw [hL]; rfl)
  have H18 := Lib.hid hL18
  clear hL hL18
  have S0 : (fun w' : World => w'.cell? ⟨w.heap.size, 1, none⟩ = some (.int .i64 (b : Int))) w8.drew := E.out.box.cell 1
  refine wp_region_early (fun w' : World => w'.cell? ⟨w.heap.size, 1, none⟩ = some (.int .i64 (b : Int))) (fun _ => true) (by kernel_rfl) ?_
  change wpEarly _ _ _ _ _ _ 8 (Array.replicate 8 false) _ w8.drew
  refine early_take (i := 3) 43 (.pointer (some ⟨w.heap.size, 0, none⟩)) rfl rfl (by kernel_rfl) (by kernel_rfl) (by kernel_rfl) (by kernel_rfl) rfl (fun _ _ _ h => h) (fun w' hw' => by go_simp) S0 ?_
  simp only [Act.put, List.setIfInBounds_toArray, List.set_cons_zero, List.set_cons_succ]
  refine early_take (i := 4) 44 (.pointer (some ⟨w.heap.size, 1, none⟩)) rfl rfl (by kernel_rfl) (by kernel_rfl) (by kernel_rfl) (by kernel_rfl) rfl (fun _ _ _ h => h) (fun w' hw' => by go_simp) S0 ?_
  simp only [Act.put, List.setIfInBounds_toArray, List.set_cons_zero, List.set_cons_succ]
  refine early_take (i := 5) 45 (.int .i64 (b : Int)) rfl rfl (by kernel_rfl) (by kernel_rfl) (by kernel_rfl) (by kernel_rfl) rfl (fun _ _ _ h => h) (fun w' hw' => by go_simp) S0 ?_
  simp only [Act.put, List.setIfInBounds_toArray, List.set_cons_zero, List.set_cons_succ]
  refine early_only (i := 0) (by kernel_rfl) rfl (fun K hK => ?_)
  simp only [opWp, List.getElem?_toArray, List.getElem?_cons_zero]
  go_simp
  go_at_call 18
  refine (bytes_any (w.heap.size + 1) v8 L 0 0 18 _ (by rw [H18.out]; omega) (by omega) (by rw [H18.out]; rfl) E.out.wr).mono ?_
  rintro e w9 ⟨v9, rfl, hf9⟩
  rw [pad_self H18.out] at hf9
  obtain ⟨A9, c9, rfl, _, _, hn9, hh9, _⟩ := own_slice hf9.1
  have E := Lib.hid (E.out.up (But.of_below hf9.2))
  have H9 := Lib.hid hh9
  have N9 := Lib.hid (show A9 = none → 18 = 0 ∧ c9 = 0 from fun e => by subst e; obtain ⟨b, o, e⟩ := hh9.some_ (by omega); cases e)
  have S9 : (fun w' : World => w'.cell? ⟨w.heap.size, 1, none⟩ = some (.int .i64 (b : Int))) w9 := E.out.box.cell 1
  clear hf9 hn9 hh9
  refine hK _ _ (fun _ => S9) ?_
  refine early_only (i := 1) (by kernel_rfl) rfl (fun K hK => ?_)
  simp only [opWp, List.getElem?_toArray, List.getElem?_cons_succ, List.getElem?_cons_zero]
  go_simp
  go_at_call 17
  refine (seal_any A9 18 c9 L w9 (by omega) N9.out H9.out).mono ?_
  rintro e w10 ⟨v10, rfl, hf10⟩
  obtain ⟨A10, c10, rfl, _, _, hn10, hh10, _⟩ := own_slice hf10.1
  have E := Lib.hid (E.out.up (But.of_below hf10.2))
  have H10 := Lib.hid (show Has w10 A10 22 (sealL L) from hh10)
  have N10 := Lib.hid hn10
  have S10 : (fun w' : World => w'.cell? ⟨w.heap.size, 1, none⟩ = some (.int .i64 (b : Int))) w10 := E.out.box.cell 1
  clear hf10 hn10 hh10
  refine hK _ _ (fun _ => S10) ?_
  refine early_only (i := 2) (by kernel_rfl) rfl (fun K hK => ?_)
  simp only [opWp, List.getElem?_toArray, List.getElem?_cons_succ, List.getElem?_cons_zero]
  go_simp
  go_at_call 16
  refine (raw_any (w.heap.size + 1 + 1) (.slice none 0 0) [] A10 22 c10 (sealL L) w10 (by simp) (by omega) E.out.sec H10.out N10.out).mono ?_
  rintro e w11 ⟨rfl, hW⟩
  obtain ⟨v11, hw11, hc11, hb11⟩ := E.out.raw hW
  have W11 := Lib.hid hw11
  have B11 := Lib.hid hb11
  have S11 : (fun w' : World => w'.cell? ⟨w.heap.size, 1, none⟩ = some (.int .i64 (b : Int))) w11 := hc11.cell 1
  clear hW hw11 hc11 hb11
  refine hK _ _ (fun _ => S11) ?_
  refine early_only (i := 6) (by kernel_rfl) rfl (fun K hK => ?_)
  simp only [opWp, List.getElem?_toArray, List.getElem?_cons_succ, List.getElem?_cons_zero]
  go_simp
  go_at_call 18
  refine (bytes_any (w.heap.size + 1 + 1) v11 ([] ++ sealL L) b b b _ (by rw [List.nil_append, sealL_len, H18.out]; omega) (by omega) (by rw [List.nil_append, sealL_len, H18.out]; omega) W11.out).mono ?_
  rintro e w12 ⟨v12, rfl, hf12⟩
  have R := Lib.hid (show Cloned w b (pad (sealL L) b) (.returned v12) w12 from ⟨_, rfl, own_base hf12.1 (fun j hj => Nat.le_trans B11.out.size (hf12.1.lt j hj).1), B11.out.trans (hf12.2.mono B11.out.size)⟩)
  have S12 : (fun w' : World => w'.cell? ⟨w.heap.size, 1, none⟩ = some (.int .i64 (b : Int))) w12 := (hf12.2.cell (p := ⟨w.heap.size, 1, none⟩) (by have := W11.out.lt; show w.heap.size < _; omega)).trans S11
  clear hf12
  refine hK _ _ (fun _ => S12) ?_
  refine early_take (i := 7) 2 v12 rfl rfl (by kernel_rfl) (by kernel_rfl) (by kernel_rfl) (by kernel_rfl) rfl (fun _ _ _ h => h) (fun w' hw' => by go_simp) S12 ?_
  simp only [Act.put, List.setIfInBounds_toArray, List.set_cons_zero, List.set_cons_succ]
  refine early_done (by kernel_rfl) ?_
  clear S0 S9 S10 S11 S12
  go_wp2
  go_ret
  rw [HL.out]
  exact R.out

theorem encode_any (x : Lab) (w : World) (hf : x.fits) (h22 : 22 ≤ x.b) : Calls Try.prog 9 #[.agg x.cs] w (Cloned w x.b (sector x)) := by
  obtain ⟨m, b, g, s, n, l, k⟩ := x
  obtain ⟨h1, h2, h3, h4, h5, h6, h7⟩ := hf
  exact encode_at m b g s n l k w h1 h2 h3 h4 h5 h6 h7 h22

end Go.Proofs.Ytkhjeaabhjfkgaa
