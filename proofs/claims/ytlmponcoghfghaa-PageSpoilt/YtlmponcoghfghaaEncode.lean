/-
  THE WALK OF page.Encode: no pages of a shape that may not be, or of an image of another one; the pages of an image.
-/
import Derived.Test.YtlmponcoghfghaaJoin
import Derived.Test.YtlmponcoghfghaaWalkE
namespace Go.Proofs.Ytlmponcoghfghaa
open Go.RowKit
set_option linter.unusedVariables false
set_option maxRecDepth 100000


theorem made_ln {w w1 : World} {M : Nat} (h : w1.ownsRow w.heap.size 42 1 (.slice (some ⟨w.heap.size, 0, none⟩) M M) M (madeCells (Value.slice none 0 0).cells (M * 1)).toList) :
    At w1 w.heap.size (List.replicate M (Value.slice none 0 0)).toArray 42 := by
  rcases h.2 with ⟨e, _⟩ | ⟨g, cap, cur, e, _, hh, _, _, hs, ht⟩
  · cases e
  · injection e with e1 _ e2
    injection e1 with e1
    injection e1 with e1
    subst e1 e2
    unfold At
    rw [hh]
    congr 2
    apply Array.ext'
    rw [List.take_of_length_le (by simp [hs])] at ht
    rw [ht, show (Value.slice none 0 0).cells = #[.slice none 0 0] from rfl, toList_madeCells_one]
    simp

/-- The shape's box, a reader with D left, a row of pages that holds L and nothing behind it; all of them below H. -/
structure Eno (w0 w : World) (H La R : Nat) (sc : Array Value) (D : List (BitVec 8)) (L : List Sl) (np : Nat) : Prop where
  shp : At w w0.heap.size sc 32
  rd : ∃ A c, Rd w R A D.length c D false ∧ ∀ x, A = some x → x.block < H ∧ x.block ≠ La
  lst : At w La (L.map Sl.v ++ List.replicate (np - L.length) (Value.slice none 0 0)).toArray 42
  has : ∀ x ∈ L, Has w x.A x.n x.l ∧ ∀ a, x.A = some a → a.block < H ∧ a.block ≠ R ∧ a.block ≠ La
  cap : ∀ x ∈ L, x.n ≤ 1000000 ∧ x.n ≤ x.c ∧ x.c ≤ maxLen
  lt : w0.heap.size < La ∧ w0.heap.size < R ∧ R < H ∧ La < H ∧ R ≠ La ∧ H ≤ w.heap.size
  bel : Below w0.heap.size w0 w
section
variable {w0 w w' : World} {H La R : Nat} {sc : Array Value} {D : List (BitVec 8)} {L : List Sl} {np : Nat}
theorem Eno.new {S : Nat → Prop} (h : Eno w0 w H La R sc D L np) (hb : But S w w') (hs : ∀ k, S k → H ≤ k) : Eno w0 w' H La R sc D L np := by
  obtain ⟨h1, h2, h3, h4, h5, h6⟩ := h.lt
  obtain ⟨A, c, hr, hA⟩ := h.rd
  refine ⟨h.shp.but hb (fun e => by have := hs _ e; omega), ⟨A, c, hr.but hb (fun e => by have := hs _ e; omega) (fun x hx e => by have := hs _ e; have := (hA x hx).1; omega), hA⟩, h.lst.but hb (fun e => by have := hs _ e; omega),
    fun x hx => ⟨(h.has x hx).1.but hb (fun a ha e => by have := hs _ e; have := ((h.has x hx).2 a ha).1; omega), (h.has x hx).2⟩, h.cap, ⟨h1, h2, h3, h4, h5, Nat.le_trans h6 hb.size⟩, h.bel.trans (hb.below (fun k e => by have := hs k e; omega) h.bel.size)⟩
theorem Eno.read {A : Option Addr} {D' : List (BitVec 8)} (h : Eno w0 w H La R sc D L np) (hA : ∀ x, A = some x → x.block < H ∧ x.block ≠ La) (hS : Step w R A D' false w') : Eno w0 w' H La R sc D' L np := by
  obtain ⟨h1, h2, h3, h4, h5, h6⟩ := h.lt
  obtain ⟨⟨A2, c2, hr, hA2⟩, hb⟩ := hS
  refine ⟨h.shp.but hb (by omega), ⟨A2, c2, hr, fun x hx => ?_⟩, h.lst.but hb (fun e => h5 e.symm), fun x hx => ⟨(h.has x hx).1.but hb (fun a ha => ((h.has x hx).2 a ha).2.1), (h.has x hx).2⟩, h.cap, ⟨h1, h2, h3, h4, h5, Nat.le_trans h6 hb.size⟩, h.bel.trans (hb.below (fun k e => by omega) h.bel.size)⟩
  obtain ⟨y, hy, e⟩ := hA2 x hx
  rw [e]
  exact hA y hy
/-- A page more is laid. -/
theorem Eno.store {x : Sl} (h : Eno w0 w H La R sc D L np) (hk : L.length < np) (hx : Has w x.A x.n x.l) (hc : x.n ≤ 1000000 ∧ x.n ≤ x.c ∧ x.c ≤ maxLen) (ha : ∀ a, x.A = some a → H ≤ a.block ∧ a.block < w.heap.size) :
    Eno w0 (w.setCell ⟨La, L.length, none⟩ (.slice x.A x.n x.c)) w.heap.size La R sc D (L ++ [x]) np := by
  obtain ⟨h1, h2, h3, h4, h5, h6⟩ := h.lt
  obtain ⟨A, c, hr, hA⟩ := h.rd
  have bs : But (fun k => k = La) w (w.setCell ⟨La, L.length, none⟩ (.slice x.A x.n x.c)) := (But.refl (fun k => k = La) w).setCell (p := ⟨La, L.length, none⟩) (fun _ => rfl) _
  have hsz : (w.setCell ⟨La, L.length, none⟩ (.slice x.A x.n x.c)).heap.size = w.heap.size := by simp [World.setCell]
  refine ⟨h.shp.but bs (by omega), ⟨A, c, hr.but bs h5 (fun x hx e => (hA x hx).2 e), fun x hx => ⟨by have := (hA x hx).1; omega, (hA x hx).2⟩⟩, ?_, fun y hy => ?_, fun y hy => ?_, ⟨h1, h2, by omega, by omega, h5, by omega⟩, h.bel.trans (bs.below (fun k e => by omega) h.bel.size)⟩
  · have h9 := h.lst.set L.length (.slice x.A x.n x.c)
    have e : (L.map Sl.v ++ List.replicate (np - L.length) (Value.slice none 0 0)).toArray.setIfInBounds L.length (.slice x.A x.n x.c) = ((L ++ [x]).map Sl.v ++ List.replicate (np - (L ++ [x]).length) (Value.slice none 0 0)).toArray := by
      rw [List.setIfInBounds_toArray, List.set_append_right _ _ (by simp)]
      congr 1
      obtain ⟨r, hr⟩ : ∃ r, np - L.length = r + 1 := ⟨np - L.length - 1, by omega⟩
      rw [hr, show np - (L ++ [x]).length = r by simp; omega]
      simp [List.replicate_succ, Sl.v]
    rw [e] at h9
    exact h9
  · rcases List.mem_append.1 hy with hy | hy
    · obtain ⟨k1, k2⟩ := h.has y hy
      exact ⟨k1.but bs (fun a ha => (k2 a ha).2.2), fun a ha => ⟨by have := (k2 a ha).1; omega, (k2 a ha).2⟩⟩
    · simp at hy; subst hy
      exact ⟨hx.but bs (fun a e => by have := (ha a e).1; omega), fun a e => ⟨(ha a e).2, by have := (ha a e).1; omega, by have := (ha a e).1; omega⟩⟩
  · rcases List.mem_append.1 hy with hy | hy
    · exact h.cap y hy
    · simp at hy; subst hy; exact hc
/-- And a writer at H that holds M. -/
structure Rnd (w0 w : World) (H La R : Nat) (sc : Array Value) (D : List (BitVec 8)) (L : List Sl) (np : Nat) (v : Value) (M : List (BitVec 8)) : Prop where
  e : Eno w0 w H La R sc D L np
  wr : Wr w H v M
  own : ∀ j, v.ownBlock = some j → H ≤ j
variable {v : Value} {M M' : List (BitVec 8)}
theorem Rnd.put (h : Rnd w0 w H La R sc D L np v M) (hW : Wrote w H v M' w') : ∃ v', Rnd w0 w' H La R sc D L np v' M' := by
  obtain ⟨v', h1, h2, h3⟩ := hW
  have h6 := h.e.lt.2.2.2.2.2
  refine ⟨v', h.e.new h2 ?_, h1, fun j hj => ?_⟩
  · rintro k (e | e)
    · omega
    · exact h.own k e
  · rcases h3 j hj with e | e
    · exact h.own j e
    · omega
theorem Rnd.up (h : Rnd w0 w H La R sc D L np v M) (hb : But (fun _ => False) w w') : Rnd w0 w' H La R sc D L np v M :=
  ⟨h.e.new hb (fun _ e => e.elim), h.wr.but hb (fun e => e) (fun _ _ e => e), h.own⟩
theorem Rnd.read {A : Option Addr} {D' : List (BitVec 8)} (h : Rnd w0 w H La R sc D L np v M) (hA : ∀ x, A = some x → x.block < H ∧ x.block ≠ La) (hS : Step w R A D' false w') : Rnd w0 w' H La R sc D' L np v M := by
  have h3 := h.e.lt.2.2.1
  exact ⟨h.e.read hA hS, h.wr.but hS.2 (by omega) (fun k hk e => by have := h.own k hk; omega), h.own⟩
end
theorem Enc.box2 (w : World) (sc ic : Array Value) : At ((w.alloc (.cells sc 32)).alloc (.cells ic 37)) w.heap.size sc 32 ∧ At ((w.alloc (.cells sc 32)).alloc (.cells ic 37)) (w.heap.size + 1) ic 37 ∧ Below w.heap.size w ((w.alloc (.cells sc 32)).alloc (.cells ic 37)) :=
  ⟨(At.new _ _ rfl).alloc _, At.new _ _ (by simp), BB2 _ _ _⟩

set_option maxHeartbeats 400000 in
theorem encode_bad (m b g s n l : Int) (gen : Int) (u0 u1 u2 : Value) (A : Option Addr) (na c : Nat) (B : Option Addr) (nb d : Nat) (w : World) (hu : (#[u0, u1, u2] : Array Value).all (·.oneCell') = true) (h : ¬ Ok m b g s n l) :
    Calls Try.prog 10 #[sv m b g s n l, .int .u64 gen, .agg #[u0, u1, u2, .slice A na c, .slice B nb d]] w fun e w' => e = .returned (.slice none 0 0) ∧ Below w.heap.size w w' := by
  unfold sv
  have H := Lib.hid h
  clear h
  go_enter Try.func10, Try.ntmps10
  go_wp2_with fail
  refine (check_bad m b g s n l H.out _).mono ?_
  rintro e w1 ⟨rfl, hb⟩
  have BW := Lib.hid (show Below w.heap.size w w1 from (BB2 w _ _).trans (hb.mono (BB2 w _ _).size))
  clear hb
  go_wp2
  go_ret
  exact ⟨rfl, BW.out⟩
set_option maxHeartbeats 400000 in
theorem encode_off (m b g s n l : Int) (gen : Int) (u0 u1 u2 : Value) (A : Option Addr) (na c : Nat) (B : Option Addr) (nb d : Nat) (w : World) (hu : (#[u0, u1, u2] : Array Value).all (·.oneCell') = true) (h : Ok m b g s n l) (hne : ¬ ((na : Int) = g ∧ (nb : Int) = l)) :
    Calls Try.prog 10 #[sv m b g s n l, .int .u64 gen, .agg #[u0, u1, u2, .slice A na c, .slice B nb d]] w fun e w' => e = .returned (.slice none 0 0) ∧ Below w.heap.size w w' := by
  unfold sv
  have H := Lib.hid h
  clear h
  go_enter Try.func10, Try.ntmps10
  go_wp2_with fail
  refine (check_ok m b g s n l H.out _).mono ?_
  rintro e w1 ⟨rfl, hb⟩
  obtain ⟨b1, b2, b3⟩ := Enc.box2 w #[.int .i64 m, .int .i64 b, .int .i64 g, .int .i64 s, .int .i64 n, .int .i64 l] #[u0, u1, u2, .slice A na c, .slice B nb d]
  have BW := Lib.hid (show Below w.heap.size w w1 from b3.trans (hb.mono b3.size))
  have A1 := b1.below hb b1.lt
  have A2 := b2.below hb b2.lt
  have k2 := A1.cell 2; have k5 := A1.cell 5; have j3 := A2.cell 3; have j4 := A2.cell 4
  clear hb b1 b2 b3 A1 A2
  by_cases h1 : (na : Int) = g
  · have h2 : ¬ (nb : Int) = l := fun e => hne ⟨h1, e⟩
    subst h1
    clear hne
    go_wp2
    go_ret
    exact ⟨rfl, BW.out⟩
  · clear hne
    go_wp2
    go_ret
    exact ⟨rfl, BW.out⟩

/-- What Encode answers: pages of these bytes. -/
def Paged (w : World) (D : List (BitVec 8)) (gen P n : Nat) (e : Ending) (w' : World) : Prop :=
  ∃ A c L, e = .returned (.slice A n c) ∧ n ≤ c ∧ c ≤ maxLen ∧ Lns w' A n L ∧ byts L = sheets D gen P n ∧ (∀ x ∈ L, x.n = P + 15) ∧ Below w.heap.size w w'
theorem cut_drop (D : List (BitVec 8)) (k P : Nat) : (D.drop (k * P)).take P = cut D P k := rfl
theorem next_drop (D : List (BitVec 8)) (k P : Nat) : (D.drop (k * P)).drop P = D.drop ((k + 1) * P) := by rw [List.drop_drop, Nat.add_mul, Nat.one_mul]
set_option maxHeartbeats 2000000 in
theorem encode_any (m b g s n l : Nat) (gen : Nat) (q sg ix : Nat) (A : Option Addr) (c : Nat) (B : Option Addr) (d : Nat) (gs : List Sg) (mp : List Nat) (w : World) (ok : OkN m b g s n l) (hgen : gen < 18446744073709551616) (hf : (Im.mk q sg ix gs mp).fits) (h : Img w A g B l ⟨q, sg, ix, gs, mp⟩) :
    Calls Try.prog 10 #[.agg #[.int .i64 (m : Int), .int .i64 (b : Int), .int .i64 (g : Int), .int .i64 (s : Int), .int .i64 (n : Int), .int .i64 (l : Int)], .int .u64 (gen : Int), .agg (ics q sg ix A g c B l d)] w (Paged w (pad (Im.mk q sg ix gs mp).body (npg b g l * (b - 15))) gen (b - 15) (npg b g l)) := by
  have OK := Lib.hid ok
  have BN := Lib.hid ok.bnd
  have hb := ok.bnd.b; have hg := ok.bnd.g; have hl := ok.bnd.l
  have hnp := npg_few ok.bnd
  have NG := Lib.hid (npg_ge ok.bnd)
  have NM := Lib.hid (npg_max ok.bnd)
  have FT := Lib.hid hf
  have HI := Lib.hid h
  have LB := Lib.hid (show (Im.mk q sg ix gs mp).body.length = 12 + 9 * g + 4 * l by rw [body_len, h.lg, h.lm])
  obtain ⟨np, hnpe⟩ : ∃ y, y = npg b g l := ⟨_, rfl⟩
  obtain ⟨P, hP⟩ : ∃ y, y = b - 15 := ⟨_, rfl⟩
  rw [← hnpe] at hnp NG NM ⊢
  rw [← hP] at NG NM ⊢
  have NE := Lib.hid hnpe
  have PE := Lib.hid hP
  have hPb : 17 ≤ P ∧ P ≤ 497 := by omega
  have PB := Lib.hid (show P + 15 = b by omega)
  clear ok hf h hnpe hP
  go_enter Try.func10, Try.ntmps10
  go_wp2_with fail
  refine (check_ok m b g s n l OK.out _).mono ?_
  rintro e w1 ⟨rfl, hb1⟩
  obtain ⟨b1, b2, b3⟩ := Enc.box2 w #[.int .i64 (m : Int), .int .i64 (b : Int), .int .i64 (g : Int), .int .i64 (s : Int), .int .i64 (n : Int), .int .i64 (l : Int)] (ics q sg ix A g c B l d)
  have BW := Lib.hid (show Below w.heap.size w w1 from b3.trans (hb1.mono b3.size))
  have A1 := Lib.hid (b1.below hb1 b1.lt)
  have A2 := Lib.hid (b2.below hb1 b2.lt)
  have k2 := A1.out.cell 2; have k5 := A1.out.cell 5; have j3 := A2.out.cell 3; have j4 := A2.out.cell 4
  clear hb1 b1 b2 b3
  go_wp2_with fail
  clear k2 k5 j3 j4
  refine wp_region_early (fun w' : World => At w' w.heap.size #[.int .i64 (m : Int), .int .i64 (b : Int), .int .i64 (g : Int), .int .i64 (s : Int), .int .i64 (n : Int), .int .i64 (l : Int)] 32 ∧ At w' (w.heap.size + 1) (ics q sg ix A g c B l d) 37) (fun _ => true) (by kernel_rfl) ?_
  change wpEarly _ _ _ _ _ _ 9 (Array.replicate 9 false) _ w1.drew
  have BW := Lib.hid (below_drew BW.out)
  have S0 := Lib.hid (show At w1.drew w.heap.size #[.int .i64 (m : Int), .int .i64 (b : Int), .int .i64 (g : Int), .int .i64 (s : Int), .int .i64 (n : Int), .int .i64 (l : Int)] 32 ∧ At w1.drew (w.heap.size + 1) (ics q sg ix A g c B l d) 37 from ⟨A1.out, A2.out⟩)
  clear A1 A2
  generalize w1.drew = wa at *
  refine early_take (i := 0) 30 (.agg (ics q sg ix A g c B l d)) rfl rfl (by kernel_rfl) (by kernel_rfl) (by kernel_rfl) (by kernel_rfl) rfl (fun _ _ _ h => h) (fun w' hw' => exec_load_whole rfl rfl hw'.2 Try.underlying37 size37) S0.out ?_
  simp only [Act.put, List.setIfInBounds_toArray, List.set_cons_zero, List.set_cons_succ]
  refine early_take (i := 1) 31 (.agg #[.int .i64 (m : Int), .int .i64 (b : Int), .int .i64 (g : Int), .int .i64 (s : Int), .int .i64 (n : Int), .int .i64 (l : Int)]) rfl rfl (by kernel_rfl) (by kernel_rfl) (by kernel_rfl) (by kernel_rfl) rfl (fun _ _ _ h => h) (fun w' hw' => exec_load_whole rfl rfl hw'.1 Try.underlying32 info32) S0.out ?_
  simp only [Act.put, List.setIfInBounds_toArray, List.set_cons_zero, List.set_cons_succ]
  refine early_take (i := 3) 33 (.agg #[.int .i64 (m : Int), .int .i64 (b : Int), .int .i64 (g : Int), .int .i64 (s : Int), .int .i64 (n : Int), .int .i64 (l : Int)]) rfl rfl (by kernel_rfl) (by kernel_rfl) (by kernel_rfl) (by kernel_rfl) rfl (fun _ _ _ h => h) (fun w' hw' => exec_load_whole rfl rfl hw'.1 Try.underlying32 info32) S0.out ?_
  simp only [Act.put, List.setIfInBounds_toArray, List.set_cons_zero, List.set_cons_succ]
  refine early_only (i := 2) (by kernel_rfl) rfl (fun K hK => ?_)
  simp only [opWp, List.getElem?_toArray, List.getElem?_cons_succ, List.getElem?_cons_zero]
  go_simp
  go_at_call 25
  refine (pages_nat BN.out _).mono ?_
  rintro e wz ⟨rfl, hb⟩
  rw [← NE.out]
  have BW := Lib.hid (BW.out.trans (hb.mono BW.out.size))
  have S0 := Lib.hid (And.intro (S0.out.1.below hb S0.out.1.lt) (S0.out.2.below hb S0.out.2.lt))
  clear hb
  refine hK _ _ (fun _ => S0.out) ?_
  clear hK
  refine early_only (i := 4) (by kernel_rfl) rfl (fun K hK => ?_)
  simp only [opWp, List.getElem?_toArray, List.getElem?_cons_succ, List.getElem?_cons_zero]
  go_simp
  go_at_call 26
  refine (page_nat BN.out _).mono ?_
  rintro e wz ⟨rfl, hb⟩
  rw [← PE.out]
  have BW := Lib.hid (BW.out.trans (hb.mono BW.out.size))
  have S0 := Lib.hid (And.intro (S0.out.1.below hb S0.out.1.lt) (S0.out.2.below hb S0.out.2.lt))
  clear hb
  refine hK _ _ (fun _ => S0.out) ?_
  clear hK
  refine early_take (i := 5) 35 (.int .i64 ((np * P : Nat) : Int)) rfl rfl (by kernel_rfl) (by kernel_rfl) (by kernel_rfl) (by kernel_rfl) rfl (fun _ _ _ h => h) (fun w' hw' => by go_simp; rw [← Int.natCast_mul]; exact wrap_of (by omega) (by have := NM.out; omega)) S0.out ?_
  simp only [Act.put, List.setIfInBounds_toArray, List.set_cons_zero, List.set_cons_succ]
  refine early_only (i := 6) (by kernel_rfl) rfl (fun K hK => ?_)
  simp only [opWp, List.getElem?_toArray, List.getElem?_cons_succ, List.getElem?_cons_zero]
  go_simp
  go_at_call 24
  refine (join_any q sg ix A g c B l d gs mp (np * P) (np * P) _ FT.out (by omega) (by omega) (by have := NM.out; omega) (by have := NG.out; omega) (HI.out.below BW.out)).mono ?_
  rintro e wz ⟨vz, rfl, hf⟩
  obtain ⟨Az, cz, rfl, hcz, hmz, hnz, hhz, hxz⟩ := own_slice hf.1
  have hb := hf.2
  have BW := Lib.hid (BW.out.trans (hb.mono BW.out.size))
  have S0 := Lib.hid (And.intro (S0.out.1.below hb S0.out.1.lt) (S0.out.2.below hb S0.out.2.lt))
  have DL := Lib.hid (show (pad (Im.mk q sg ix gs mp).body (np * P)).length = np * P from pad_len _ _ (by rw [LB.out]; exact NG.out))
  generalize pad (Im.mk q sg ix gs mp).body (np * P) = D at *
  have HZ := Lib.hid hhz
  clear hf hb hcz hmz hnz hhz hxz
  refine hK _ _ (fun _ => S0.out) ?_
  clear hK
  refine early_only (i := 7) (by kernel_rfl) rfl (fun K hK => ?_)
  simp only [opWp, List.getElem?_toArray, List.getElem?_cons_succ, List.getElem?_cons_zero]
  go_simp
  go_at_call 23
  refine (read_any Az (np * P) cz D _ (by have := NM.out; omega) HZ.out).mono ?_
  rintro e wy ⟨R, Ar, cr, rfl, hr, hb, hR, hA⟩
  have RB := Lib.hid (show w.heap.size < R from by have := S0.out.2.lt; omega)
  have BW := Lib.hid (BW.out.trans (hb.mono BW.out.size))
  have S0 := Lib.hid (And.intro (S0.out.1.below hb S0.out.1.lt) (S0.out.2.below hb S0.out.2.lt))
  have RD := Lib.hid (show Rd wy R Ar D.length cr D false by rw [DL.out]; exact hr)
  clear hb hr hA hR
  refine hK _ _ (fun _ => S0.out) ?_
  clear hK
  refine early_take (i := 8) 7 (.pointer (some ⟨R, 0, none⟩)) rfl rfl (by kernel_rfl) (by kernel_rfl) (by kernel_rfl) (by kernel_rfl) rfl (fun _ _ _ h => h) (fun w' hw' => by go_simp) S0.out ?_
  simp only [Act.put, List.setIfInBounds_toArray, List.set_cons_zero, List.set_cons_succ]
  refine early_done (by kernel_rfl) ?_
  have SH := Lib.hid S0.out.1
  clear S0 HI FT LB NG HZ
  have k0 := SH.out.cell 0; have k1 := SH.out.cell 1; have k2 := SH.out.cell 2; have k3 := SH.out.cell 3; have k4 := SH.out.cell 4; have k5 := SH.out.cell 5
  go_wp2_with fail
  clear k0 k1 k2 k3 k4 k5
  refine (pages_nat BN.out _).mono ?_
  rintro e w2 ⟨rfl, hb2⟩
  rw [← NE.out]
  have BW := Lib.hid (BW.out.trans (hb2.mono BW.out.size))
  have SH := Lib.hid (SH.out.below hb2 SH.out.lt)
  have RD := Lib.hid (RD.out.but (S := fun _ => False) (But.of_below hb2) (fun h => h) (fun _ _ h => h))
  clear hb2
  have RX := Lib.hid (show ∀ x, Ar = some x → x.block < w2.heap.size from fun x hx => by obtain ⟨b', o', e, hlt, _⟩ := RD.out.has.2 (by rw [DL.out]; have := Nat.mul_le_mul hnp.1 hPb.1; omega); rw [hx] at e; injection e with e; subst e; exact hlt)
  obtain ⟨i0, hi, hz0, hz1, hz2⟩ := info_parts line_info
  go_wp2_with (at_make; refine wpList_make_full _ rfl (.tmp 39) (.tmp 39) 39 rfl w2.heap.size 42 i0 (.slice none 0 0) 1 Try.underlying39 hi hz0 hz1 .i64 .i64 np np np rfl rfl rfl rfl (by rw [hz2]; omega) (by unfold maxLen; omega) (Nat.le_refl _) ?_; intro w3 hown3 hg3; have hb3 : Below w2.heap.size w2 w3 := (Below.refl _ _).grown hg3 (Nat.le_refl _) (by simp); have EN := Lib.hid (show Eno w w3 w3.heap.size w2.heap.size R #[.int .i64 (m : Int), .int .i64 (b : Int), .int .i64 (g : Int), .int .i64 (s : Int), .int .i64 (n : Int), .int .i64 (l : Int)] D [] np from ⟨SH.out.below hb3 SH.out.lt, ⟨Ar, cr, RD.out.but (S := fun _ => False) (But.of_below hb3) (fun h => h) (fun _ _ h => h), fun x hx => by have := RX.out x hx; have := hb3.size; omega⟩, made_ln hown3, fun x hx => (by cases hx), fun x hx => (by cases hx), ⟨by have := SH.out.lt; omega, RB.out, by have := RD.out.lt; have := hb3.size; omega, by have := (made_ln hown3).lt; omega, by have := RD.out.lt; omega, Nat.le_refl _⟩, BW.out.trans (hb3.mono BW.out.size)⟩); clear hown3 hg3 hb3)
  clear hi hz0 hz1 hz2 SH RD RB RX BW
  generalize w2.heap.size = La at *
  clear w2
  go_loopw [43] (fun i wr => ∃ (k H : Nat) (L : List Sl), k ≤ np ∧ i = .int .i64 k ∧ Eno w wr H La R #[.int .i64 (m : Int), .int .i64 (b : Int), .int .i64 (g : Int), .int .i64 (s : Int), .int .i64 (n : Int), .int .i64 (l : Int)] (D.drop (k * P)) L np ∧ byts L = sheets D gen P k ∧ ∀ x ∈ L, x.n = P + 15) (fun i _ => np - (intOf i).toNat)
  case atStart => exact ⟨0, _, [], Nat.zero_le _, rfl, by simpa using EN.out, rfl, fun x hx => (by cases hx)⟩
  case round =>
    clear EN
    obtain ⟨k, H, L, hk, rfl, hE, hbl, hxn⟩ := hrel
    have EN := Lib.hid hE
    have BL := Lib.hid hbl
    have XN := Lib.hid hxn
    have KL := Lib.hid (show L.length = k by have := congrArg List.length hbl; rw [byts_len, sheets_len] at this; exact this)
    clear hE hbl hxn
    by_cases hlt : k < np
    · have H6 := Lib.hid EN.out.lt
      have RN := Lib.hid (show Rnd w (wr.alloc (.cells #[.slice none 0 0] 66)).drew wr.heap.size La R #[.int .i64 (m : Int), .int .i64 (b : Int), .int .i64 (g : Int), .int .i64 (s : Int), .int .i64 (n : Int), .int .i64 (l : Int)] (D.drop (k * P)) L np (.slice none 0 0) [] from by
        obtain ⟨h1, h2, h3, h4, h5, h6⟩ := EN.out.lt
        obtain ⟨A', c', hr, hA⟩ := EN.out.rd
        have hb : But (fun _ => False) wr (wr.alloc (.cells #[.slice none 0 0] 66)).drew := ((But.refl _ _).alloc _).drew
        have e1 := EN.out.new hb (fun _ e => e.elim)
        obtain ⟨A', c', hr, hA⟩ := e1.rd
        refine ⟨⟨e1.shp, ⟨A', c', hr, fun x hx => ⟨by have := (hA x hx).1; omega, (hA x hx).2⟩⟩, e1.lst, fun x hx => ⟨(e1.has x hx).1, fun a ha => ⟨by have := ((e1.has x hx).2 a ha).1; omega, ((e1.has x hx).2 a ha).2⟩⟩, e1.cap, ⟨h1, h2, by omega, by omega, h5, hb.size⟩, e1.bel⟩, ⟨At.new _ _ rfl, World.ownsRow_nil _ _ _ _, by simp [Value.ownBlock]⟩, fun j hj => by simp [Value.ownBlock] at hj⟩)
      clear EN H6
      go_wp2_with fail
      refine wp_region_early (fun w' : World => At w' w.heap.size #[.int .i64 (m : Int), .int .i64 (b : Int), .int .i64 (g : Int), .int .i64 (s : Int), .int .i64 (n : Int), .int .i64 (l : Int)] 32) (fun _ => true) (by kernel_rfl) ?_
      change wpEarly _ _ _ _ _ _ 11 (Array.replicate 11 false) _ (wr.alloc (.cells #[.slice none 0 0] 66)).drew
      generalize (wr.alloc (.cells #[.slice none 0 0] 66)).drew = wa at *
      generalize hHH : wr.heap.size = HH at *
      clear hHH
      have S0 := Lib.hid RN.out.e.shp
      refine early_take (i := 1) 47 (.int .u64 (gen : Int)) rfl rfl (by kernel_rfl) (by kernel_rfl) (by kernel_rfl) (by kernel_rfl) rfl (fun _ _ _ h => h) (fun w' hw' => by go_simp) S0.out ?_
      simp only [Act.put, List.setIfInBounds_toArray, List.set_cons_zero, List.set_cons_succ]
      refine early_take (i := 3) 49 (.int .i64 (k : Int)) rfl rfl (by kernel_rfl) (by kernel_rfl) (by kernel_rfl) (by kernel_rfl) rfl (fun _ _ _ h => h) (fun w' hw' => by go_simp) S0.out ?_
      simp only [Act.put, List.setIfInBounds_toArray, List.set_cons_zero, List.set_cons_succ]
      refine early_take (i := 4) 50 (.int .u64 (k : Int)) rfl rfl (by kernel_rfl) (by kernel_rfl) (by kernel_rfl) (by kernel_rfl) rfl (fun _ _ _ h => h) (fun w' hw' => by go_simp; exact wrap64 (by omega)) S0.out ?_
      simp only [Act.put, List.setIfInBounds_toArray, List.set_cons_zero, List.set_cons_succ]
      refine early_take (i := 6) 52 (.pointer (some ⟨R, 0, none⟩)) rfl rfl (by kernel_rfl) (by kernel_rfl) (by kernel_rfl) (by kernel_rfl) rfl (fun _ _ _ h => h) (fun w' hw' => by go_simp) S0.out ?_
      simp only [Act.put, List.setIfInBounds_toArray, List.set_cons_zero, List.set_cons_succ]
      refine early_take (i := 7) 53 (.agg #[.int .i64 (m : Int), .int .i64 (b : Int), .int .i64 (g : Int), .int .i64 (s : Int), .int .i64 (n : Int), .int .i64 (l : Int)]) rfl rfl (by kernel_rfl) (by kernel_rfl) (by kernel_rfl) (by kernel_rfl) rfl (fun _ _ _ h => h) (fun w' hw' => exec_load_whole rfl rfl hw' Try.underlying32 info32) S0.out ?_
      simp only [Act.put, List.setIfInBounds_toArray, List.set_cons_zero, List.set_cons_succ]
      refine early_only (i := 0) (by kernel_rfl) rfl (fun K hK => ?_)
      simp only [opWp, List.getElem?_toArray, List.getElem?_cons_zero]
      go_simp
      go_at_call 27
      refine (put_some HH _ (([] : List (BitVec 8))) 1 80 _ (by omega) (by omega) (by omega) (by simp) RN.out.wr).mono ?_
      rintro e wz ⟨rfl, hW⟩
      obtain ⟨vz, hE⟩ := RN.out.put hW
      have RN := Lib.hid hE
      clear hW hE
      refine hK _ _ (fun _ => RN.out.e.shp) ?_
      clear hK
      refine early_only (i := 2) (by kernel_rfl) rfl (fun K hK => ?_)
      simp only [opWp, List.getElem?_toArray, List.getElem?_cons_succ, List.getElem?_cons_zero]
      go_simp
      go_at_call 27
      refine (put_some HH _ (([] : List (BitVec 8)) ++ low 80 1) 8 gen _ (by omega) (by omega) (by omega) (by simp [low_len]) RN.out.wr).mono ?_
      rintro e wz ⟨rfl, hW⟩
      obtain ⟨vz, hE⟩ := RN.out.put hW
      have RN := Lib.hid hE
      clear hW hE
      refine hK _ _ (fun _ => RN.out.e.shp) ?_
      clear hK
      refine early_only (i := 5) (by kernel_rfl) rfl (fun K hK => ?_)
      simp only [opWp, List.getElem?_toArray, List.getElem?_cons_succ, List.getElem?_cons_zero]
      go_simp
      go_at_call 27
      refine (put_some HH _ (([] : List (BitVec 8)) ++ low 80 1 ++ low gen 8) 2 k _ (by omega) (by omega) (by omega) (by simp [low_len]) RN.out.wr).mono ?_
      rintro e wz ⟨rfl, hW⟩
      obtain ⟨vz, hE⟩ := RN.out.put hW
      have RN := Lib.hid hE
      clear hW hE
      refine hK _ _ (fun _ => RN.out.e.shp) ?_
      clear hK
      refine early_only (i := 8) (by kernel_rfl) rfl (fun K hK => ?_)
      simp only [opWp, List.getElem?_toArray, List.getElem?_cons_succ, List.getElem?_cons_zero]
      go_simp
      go_at_call 26
      refine (page_nat BN.out _).mono ?_
      rintro e wy ⟨rfl, hb⟩
      rw [← PE.out]
      have RN := Lib.hid (RN.out.up (But.of_below hb))
      clear hb
      refine hK _ _ (fun _ => RN.out.e.shp) ?_
      clear hK
      refine early_only (i := 9) (by kernel_rfl) rfl (fun K hK => ?_)
      simp only [opWp, List.getElem?_toArray, List.getElem?_cons_succ, List.getElem?_cons_zero]
      go_simp
      go_at_call 29
      obtain ⟨Aq, cq, hr, hA⟩ := RN.out.e.rd
      have hge : P ≤ (D.drop (k * P)).length := by rw [List.length_drop, DL.out]; have := Nat.mul_le_mul_right P (show k + 1 ≤ np from hlt); rw [Nat.add_mul, Nat.one_mul] at this; omega
      refine (rraw_good R Aq (D.drop (k * P)).length cq (D.drop (k * P)) false P _ (by rw [List.length_drop, DL.out]; have := NM.out; omega) hge hr).mono ?_
      rintro e wx ⟨vx, rfl, hown, hS⟩
      have RN := Lib.hid (RN.out.read hA hS)
      have CL := Lib.hid (show (cut D P k).length = P from cut_len DL.out hlt)
      rw [cut_drop, CL.out] at hown
      obtain ⟨Ax, cx, rfl, hcx, hmx, hnx, hhx, hxx⟩ := own_slice hown
      have HX := Lib.hid hhx
      have NX := Lib.hid hnx
      clear hr hA hge hown hS hcx hmx hnx hhx hxx
      refine hK _ _ (fun _ => RN.out.e.shp) ?_
      clear hK
      refine early_only (i := 10) (by kernel_rfl) rfl (fun K hK => ?_)
      simp only [opWp, List.getElem?_toArray, List.getElem?_cons_succ, List.getElem?_cons_zero]
      go_simp
      go_at_call 28
      refine (raw_any HH _ (mark gen k) Ax P cx (cut D P k) _ (by rw [mark_len]; omega) (by omega) (show Wr _ HH _ (mark gen k) from RN.out.wr) HX.out NX.out).mono ?_
      rintro e wv ⟨rfl, hW⟩
      obtain ⟨vv, hE⟩ := RN.out.put hW
      have RN := Lib.hid hE
      clear hW hE HX NX
      refine hK _ _ (fun _ => RN.out.e.shp) ?_
      clear hK
      refine early_done (by kernel_rfl) ?_
      have LM := Lib.hid (show (mark gen k ++ cut D P k).length = 11 + P by rw [List.length_append, mark_len, CL.out])
      have SE := Lib.hid (show sheet gen k (cut D P k) = mark gen k ++ cut D P k ++ Crc.low (Crc.sum (mark gen k ++ cut D P k)) 4 from rfl)
      generalize mark gen k ++ cut D P k = F at *
      go_wp2_with fail
      refine (bytes_any HH vv F 0 0 (11 + P) _ (by rw [LM.out]; omega) (by omega) (by rw [LM.out]; omega) RN.out.wr).mono ?_
      rintro e w9 ⟨v9, rfl, hf9⟩
      rw [pad_self LM.out] at hf9
      obtain ⟨A9, c9, rfl, _, _, hn9, hh9, hx9⟩ := own_slice hf9.1
      have RN := Lib.hid (RN.out.up (But.of_below hf9.2))
      have H9 := Lib.hid hh9
      have N9 := Lib.hid (show A9 = none → 11 + P = 0 ∧ c9 = 0 from fun e => by subst e; obtain ⟨b, o, e⟩ := hh9.some_ (by omega); cases e)
      clear hf9 hn9 hh9 hx9
      go_wp2_with fail
      refine (seal_any A9 (11 + P) c9 F w9 (by omega) N9.out H9.out).mono ?_
      rintro e w10 ⟨v10, rfl, hf10⟩
      rw [← SE.out] at hf10
      obtain ⟨A10, c10, rfl, hc10, hm10, hn10, hh10, hx10⟩ := own_slice hf10.1
      have LT := Lib.hid (show HH ≤ w9.heap.size from RN.out.e.lt.2.2.2.2.2)
      have RN := Lib.hid (RN.out.up (But.of_below hf10.2))
      have ST := Lib.hid (RN.out.e.store (x := ⟨A10, 11 + P + 4, c10, sheet gen k (cut D P k)⟩) (by rw [KL.out]; exact hlt) hh10 ⟨by show 11 + P + 4 ≤ 1000000; omega, hc10, hm10⟩ (fun a e => ⟨by have := (hx10 a e).1; have := LT.out; omega, (hx10 a e).2.1⟩))
      have la := RN.out.e.lst
      have lc : w10.cell? ⟨La, k, none⟩ = some (.slice none 0 0) := by
        rw [la.cell, List.getElem?_toArray, List.getElem?_append_right (by rw [List.length_map, KL.out]; omega), List.length_map, KL.out, List.getElem?_replicate, if_pos (by omega)]
      have lf := la.frozen k
      clear hf10 hc10 hm10 hn10 hh10 hx10 la
      go_wp2_with fail
      have S2 := ST.out
      rw [KL.out, next_drop] at S2
      refine ⟨⟨k + 1, _, L ++ [⟨A10, 11 + P + 4, c10, sheet gen k (cut D P k)⟩], by omega, by go_num, S2, ?_, fun x hx => ?_⟩, by simp [intOf]; omega⟩
      · rw [sheets_next, ← BL.out]
        simp [byts]
      · rcases List.mem_append.1 hx with hx | hx
        · exact XN.out x hx
        · simp at hx; subst hx
          show 11 + P + 4 = P + 15
          omega
    · obtain rfl : k = np := by omega
      have LS := Lib.hid (show Lns wr (some ⟨La, 0, none⟩) k L from ⟨Row.of_at EN.out.lst (by rw [KL.out, Nat.sub_self]; simp) (by rw [List.length_map, KL.out]), fun x hx => (EN.out.has x hx).1, EN.out.cap⟩)
      go_wp2
      go_ret
      exact ⟨_, k, L, rfl, Nat.le_refl _, by unfold maxLen; omega, LS.out, BL.out, XN.out, EN.out.bel⟩
end Go.Proofs.Ytlmponcoghfghaa
