/-
  TEXTS JOINED: Zap.
-/
import Derived.Test.YtplmdmchkaacoaaGreatJ39

/-
  append(s, make([]byte, n)...): zeros behind a row of bytes of the call's own.
-/
namespace Go.Proofs.YtplmdmchkaacoaaGreat
open Go.RowKit
set_option linter.unusedVariables false
set_option maxRecDepth 100000

theorem asked {n : Nat} (i : TypeInfo) (h63 : (n : Int) ≤ 9223372036854775807) (h48 : n * i.bytes ≤ 281474976710656) :
    (∀ (P : Program) (w : World), (asIntOf (.int .i64 (n : Int))).run P w = .ok (.i64, (n : Int)) w) ∧ IntKind.i64.wrap (n : Int) = (n : Int) ∧ ¬ ((n : Int) < 0) ∧ ¬ (281474976710656 < (n : Int) * (i.bytes : Int)) := by
  refine ⟨fun _ _ => rfl, wrap_of (by omega) (by omega), by omega, ?_⟩
  have : ((n * i.bytes : Nat) : Int) ≤ ((281474976710656 : Nat) : Int) := Int.ofNat_le.2 h48
  rw [Int.natCast_mul] at this
  omega

section
variable {P : Program} (w : World)
theorem runz_nil (t u ty e : TypeId) (k : IntKind) (i : TypeInfo) (z : Value) (ht : P.underlying t = some (.slice e)) (hu : P.underlying u = some (.int k)) (hi : P.info? e = some i) (hz : i.zero = some z)
    (n : Nat) (h0 : 0 < n) (hs : 0 < i.size) (h63 : (n : Int) ≤ 9223372036854775807) (h48 : n * i.bytes ≤ 281474976710656) :
    (Builtin.append_ #[t, u] ty #[.slice none 0 0, .int .i64 (n : Int)]).run P w =
      .ok (.slice (some ⟨w.heap.size, 0, none⟩) n (grownCap w n 0 e)) (w.drew.alloc (.cells (Builtin.zeroCells z.cells n ++ Builtin.zeroCells z.cells (grownCap w n 0 e - n)) e)) := by
  have hn : n ≠ 0 := by omega
  have h63' : ¬ (9223372036854775807 < (n : Int)) := by omega
  have h48' : ¬ (281474976710656 < Builtin.nextslicecap n 0 * i.bytes) := Nat.not_lt.2 (by rw [nextslicecap_zero h0]; exact h48)
  obtain ⟨q1, q2, q3, q4⟩ := asked i h63 h48
  have hnz : ¬ (n * i.size = 0) := fun h => (Nat.mul_eq_zero.1 h).elim (by omega) (by omega)
  simp [Builtin.append_, run_underlying ht, run_underlying hu, sizeOf, typeInfo, zeroValue, hi, hz, asInt, q1 P w, q2, q3, q4, hn, hnz, h63', h48', Question.forced, run_firstCells_none, newRow, grownCap]
/-- Zeros behind a row, in a new row. -/
theorem runz_grow (t u ty e : TypeId) (k : IntKind) (i : TypeInfo) (z : Value) (ht : P.underlying t = some (.slice e)) (hu : P.underlying u = some (.int k)) (hi : P.info? e = some i) (hz : i.zero = some z)
    (b : Addr) (sLen sCap : Nat) (olds : List Value) (hlo : olds.length = sLen * i.size) (holds : ∀ j v, olds[j]? = some v → w.cell? (b.add j) = some v) (n : Nat) (hs : 0 < i.size)
    (hg : sCap < sLen + n) (hle : sLen ≤ sCap) (h63 : ((sLen + n : Nat) : Int) ≤ 9223372036854775807) (h48 : n * i.bytes ≤ 281474976710656) (hfit : Builtin.nextslicecap (sLen + n) sCap * i.bytes ≤ 281474976710656) :
    (Builtin.append_ #[t, u] ty #[.slice (some b) sLen sCap, .int .i64 (n : Int)]).run P w =
      .ok (.slice (some ⟨w.heap.size, 0, none⟩) (sLen + n) (grownCap w (sLen + n) sCap e))
        (w.drew.alloc (.cells (olds.toArray ++ Builtin.zeroCells z.cells n ++ Builtin.zeroCells z.cells (grownCap w (sLen + n) sCap e - (sLen + n))) e)) := by
  have hn : ¬ (sLen + n ≤ sCap) := by omega
  have h63' : ¬ (9223372036854775807 < ((sLen : Int) + (n : Int))) := by omega
  have h48' : ¬ (281474976710656 < Builtin.nextslicecap (sLen + n) sCap * i.bytes) := Nat.not_lt.2 hfit
  obtain ⟨q1, q2, q3, q4⟩ := asked i (by omega) h48
  have hfo := run_firstCells_some (P := P) w.drew i.size sLen b sLen sCap olds hlo (by simpa using holds)
  have hnz : ¬ (n * i.size = 0) := fun h => (Nat.mul_eq_zero.1 h).elim (by omega) (by omega)
  simp [Builtin.append_, run_underlying ht, run_underlying hu, sizeOf, typeInfo, zeroValue, hi, hz, asInt, q1 P w, q2, q3, q4, hn, hnz, h63', h48', Question.forced, hfo, newRow, grownCap]
  try (congr 2; apply Array.ext'; simp [List.append_assoc])
/-- Zeros behind a row that has room. -/
theorem runz_room (t u ty e : TypeId) (k : IntKind) (i : TypeInfo) (z : Value) (ht : P.underlying t = some (.slice e)) (hu : P.underlying u = some (.int k)) (hi : P.info? e = some i) (hz : i.zero = some z)
    (g sLen sCap : Nat) (cur : Array Value) (hg : w.heap[g]? = some (.cells cur e (0, 0))) (n : Nat) (h0 : 0 < n) (hs : 0 < i.size) (h1 : ∀ u ∈ (Builtin.zeroCells z.cells n).toList, u.oneCell' = true)
    (hroom : sLen + n ≤ sCap) (hfit : sLen * i.size + (Builtin.zeroCells z.cells n).toList.length ≤ cur.size) (h63 : (n : Int) ≤ 9223372036854775807) (h48 : n * i.bytes ≤ 281474976710656) :
    (Builtin.append_ #[t, u] ty #[.slice (some ⟨g, 0, none⟩) sLen sCap, .int .i64 (n : Int)]).run P w =
      .ok (.slice (some ⟨g, 0, none⟩) (sLen + n) sCap) (w.setRow g (cur.toList.take (sLen * i.size) ++ (Builtin.zeroCells z.cells n).toList ++ cur.toList.drop (sLen * i.size + (Builtin.zeroCells z.cells n).toList.length)).toArray) := by
  obtain ⟨q1, q2, q3, q4⟩ := asked i h63 h48
  have hst := run_storeCells_at P g (sLen * i.size) e (Builtin.zeroCells z.cells n).toList 0 cur w hg (by simpa using hfit) h1
  simp only [Nat.add_zero] at hst
  have hnz : ¬ (n * i.size = 0) := fun h => (Nat.mul_eq_zero.1 h).elim (by omega) (by omega)
  simp [Builtin.append_, run_underlying ht, run_underlying hu, sizeOf, typeInfo, zeroValue, hi, hz, asInt, q1 P w, q2, q3, q4, hroom, hnz, Addr.add_lit, hst]
end

theorem zero_bytes (m : Nat) : (Builtin.zeroCells (Value.int .u8 0).cells m).toList = (List.replicate m 0#8).map val := by
  apply List.ext_getElem
  · simp [Builtin.zeroCells, Value.cells]
  · intro k h1 h2
    simp [Builtin.zeroCells, Value.cells, val, Nat.mod_one]
theorem runz_own {w : World} (base : Nat) (ty : TypeId) (v : Value) (n : Nat) (l : List (BitVec 8)) (hown : w.ownsRow base 5 1 v n (l.map val)) (m : Nat) (hm : n + m ≤ 1000000) (hbase : base ≤ w.heap.size) :
    ∃ v' w', (Builtin.append_ #[57, 3] ty #[v, .int .i64 (m : Int)]).run Tryz.prog w = .ok v' w' ∧ w'.ownsRow base 5 1 v' (n + m) ((l ++ List.replicate m 0#8).map val) ∧ w.grownBy w' v.ownBlock ∧ (v'.ownBlock = v.ownBlock ∨ v'.ownBlock = some w.heap.size) := by
  obtain ⟨i, hi, hz, hs, hb⟩ := info_parts byte_info
  have hl : l.length = n := by have := hown.1; simpa using this
  have hlen : ((l ++ List.replicate m 0#8).map val).length = (n + m) * 1 := by simp [hl]
  have hzl : (Builtin.zeroCells (Value.int .u8 0).cells m).toList.length = m := by rw [zero_bytes]; simp
  have grown : ∀ (old : Nat), old < n + m → ∀ (row : Option Nat),
      (w.drew.alloc (.cells ((l.map val).toArray ++ Builtin.zeroCells (Value.int .u8 0).cells m ++ Builtin.zeroCells (Value.int .u8 0).cells (grownCap w (n + m) old 5 - (n + m))) 5)).ownsRow base 5 1
        (.slice (some ⟨w.heap.size, 0, none⟩) (n + m) (grownCap w (n + m) old 5)) (n + m) ((l ++ List.replicate m 0#8).map val) ∧
      w.grownBy (w.drew.alloc (.cells ((l.map val).toArray ++ Builtin.zeroCells (Value.int .u8 0).cells m ++ Builtin.zeroCells (Value.int .u8 0).cells (grownCap w (n + m) old 5 - (n + m))) 5)) row := by
    intro old ho row
    have hge := grownCap_ge w (n + m) old 5
    have hcm : grownCap w (n + m) old 5 ≤ maxLen := grownCap_le_maxLen w (n + m) old 5 (by unfold maxLen; omega)
    refine ⟨⟨hlen, .inr ⟨w.heap.size, _, _, rfl, hbase, heap_alloc_new w.drew _, hge, hcm, ?_, ?_⟩⟩, ⟨rfl, rfl, rfl, by simp, fun k hk _ => heap_alloc_old w.drew _ hk⟩⟩
    · have h1 : (Builtin.zeroCells (Value.int .u8 0).cells m).size = m := by rw [← Array.length_toList, hzl]
      have h2 : (Builtin.zeroCells (Value.int .u8 0).cells (grownCap w (n + m) old 5 - (n + m))).size = grownCap w (n + m) old 5 - (n + m) := by rw [← Array.length_toList, zero_bytes]; simp
      simp only [Array.size_append, List.size_toArray, List.length_map, hl, h1, h2]
      omega
    · simp only [Array.toList_append, List.append_assoc, zero_bytes]
      rw [List.map_append, ← List.append_assoc]
      exact List.take_left' (by simp [hl])
  rcases hown.2 with ⟨rfl, h0⟩ | ⟨g, cap, cur, rfl, hbg, hg, hnc, hcm, hcs, htake⟩
  · subst h0
    obtain rfl : l = [] := List.eq_nil_of_length_eq_zero hl
    rcases Nat.eq_zero_or_pos m with h0 | h0
    · subst h0
      have q1 : (asIntOf (.int .i64 0)).run Tryz.prog w = .ok (.i64, 0) w := rfl
      have q2 : IntKind.i64.wrap 0 = 0 := by decide
      refine ⟨.slice none 0 0, w, ?_, World.ownsRow_nil w base 5 1, ⟨rfl, rfl, rfl, Nat.le_refl _, fun _ _ _ => rfl⟩, .inl rfl⟩
      simp [Builtin.append_, run_underlying Tryz.underlying57, run_underlying Tryz.underlying3, sizeOf, typeInfo, hi, asInt, q1, q2]
    · have hr := runz_nil (P := Tryz.prog) w 57 3 ty 5 .i64 i _ Tryz.underlying57 Tryz.underlying3 hi hz m h0 (by omega) (by omega) (by rw [hb]; omega)
      have hgr := grown 0 (by omega) (Value.ownBlock (.slice none 0 0))
      simp only [Nat.zero_add, List.map_nil, Array.empty_append] at hgr ⊢
      exact ⟨_, _, hr, hgr.1, hgr.2, .inr rfl⟩
  · rcases Nat.eq_zero_or_pos m with h0 | h0
    · subst h0
      have q1 : (asIntOf (.int .i64 0)).run Tryz.prog w = .ok (.i64, 0) w := rfl
      have q2 : IntKind.i64.wrap 0 = 0 := by decide
      refine ⟨.slice (some ⟨g, 0, none⟩) n cap, w, ?_, by simpa using hown, ⟨rfl, rfl, rfl, Nat.le_refl _, fun _ _ _ => rfl⟩, .inl rfl⟩
      simp [Builtin.append_, run_underlying Tryz.underlying57, run_underlying Tryz.underlying3, sizeOf, typeInfo, hi, asInt, q1, q2, hnc, storeCells]
    · by_cases hroom : n + m ≤ cap
      · have hfit : n * 1 + (Builtin.zeroCells (Value.int .u8 0).cells m).toList.length ≤ cur.size := by rw [hzl, hcs]; omega
        have hr := runz_room (P := Tryz.prog) w 57 3 ty 5 .i64 i _ Tryz.underlying57 Tryz.underlying3 hi hz g n cap cur hg m h0 (by omega) (by rw [zero_bytes]; exact val_one _) hroom (by rw [hs]; exact hfit) (by omega) (by rw [hb]; omega)
        rw [hs] at hr
        refine ⟨_, _, hr, ⟨hlen, .inr ⟨g, cap, _, rfl, hbg, setRow_heap w g cur _ 5 _ hg, hroom, hcm, ?_, ?_⟩⟩, ⟨rfl, rfl, rfl, by simp, fun k _ hk => setRow_other w g k _ (fun e => hk (by simp [Value.ownBlock, e]))⟩, .inl rfl⟩
        · rw [hzl] at hfit ⊢
          simp only [List.size_toArray, List.length_append, List.length_take, List.length_drop, Array.length_toList, hzl]
          omega
        · rw [htake, zero_bytes, List.map_append]
          exact List.take_left' (by simp [hl])
      · have holds : ∀ j u, (l.map val)[j]? = some u → w.cell? ((⟨g, 0, none⟩ : Addr).add j) = some u := hown.cells (g := g) rfl
        have hr := runz_grow (P := Tryz.prog) w 57 3 ty 5 .i64 i _ Tryz.underlying57 Tryz.underlying3 hi hz ⟨g, 0, none⟩ n cap (l.map val) (by rw [hs]; simpa using hl) holds m (by omega) (by omega) hnc (by omega) (by rw [hb]; omega) (growslice_fits (by omega) (by rw [hb]; omega))
        have hgr := grown cap (by omega) (Value.ownBlock (.slice (some ⟨g, 0, none⟩) n cap))
        exact ⟨_, _, hr, hgr.1, hgr.2, .inr rfl⟩
end Go.Proofs.YtplmdmchkaacoaaGreat
