import Derived.Test.YtapbphkhbhcdkaaGreatTick
import Derived.Shelf.SlIterI.Nil
import Derived.Shelf.SortM.Plain
import Derived.Shelf.SortM.SortNone
import Derived.Test.YtapbphkhbhcdkaaGreatProg
import Derived.Test.YtapbphkhbhcdkaaGreatMap
import Derived.Test.YtapbphkhbhcdkaaGreatDisk3
import Derived.Test.YtapbphkhbhcdkaaGreatDisk4

/-
  THE WALKS OF Run AND OF WHAT IT DEFERS.
-/
namespace Go.Proofs.YtapbphkhbhcdkaaGreat
open Go.RowKit
set_option linter.unusedVariables false
set_option maxRecDepth 100000

theorem slots24 (p : Addr) (x : Value) : #[Value.pointer (some p)] ++ ((Array.replicate 14 undef).setIfInBounds 3 x).setIfInBounds 0 x = #[.pointer (some p), x, undef, undef, x, undef, undef, undef, undef, undef, undef, undef, undef, undef, undef] := rfl

theorem catch_idle (p : Addr) (w : World) :
    CallsD Tryz.prog 31 #[.pointer (some p)] .returning w fun e u' w' => e = .returned (.tuple #[]) ∧ u' = .returning ∧ w' = w := by
  have hnil : ∀ w : World, (binOp BinOp.eql 20 .nilIface .nilIface).run Tryz.prog w = .ok (.bool true) w := fun _ => by kernel_rfl
  refine callsD_of_wpS Tryz.func31 rfl fun c₀ cs hu => ?_
  apply wpS_seq
  apply wpS_region
  simp [wpOpsS, go_sem, recoverD, hu, Tryz.ntmps31, Exit.thenS]
  rw [slots24]
  refine wpS_of_wp ?_
  go_wp2
  cases c₀
  simp_all [bodyPostS, results, Tryz.results31]

theorem catch_out (g : Nat) (older : List PanicEntry) (w : World) (f : Bool) (h : At w g #[.bool f] 4) :
    CallsD Tryz.prog 31 #[.pointer (some ⟨g, 0, none⟩)] (.panicking ({ v := .iface 73 (.agg #[]), recovered := false } :: older)) w fun e u' w' => e = .returned (.tuple #[]) ∧ u' = .panicking ({ v := .iface 73 (.agg #[]), recovered := true } :: older) ∧ ∃ o, w' = (w.alloc o).setCell ⟨g, 0, none⟩ (.bool true) := by
  have hc : (w.alloc (.cells #[] 73)).cell? ⟨g, 0, none⟩ = some (.bool f) := (h.alloc (.cells #[] 73)).cell 0
  have hz := (h.alloc (.cells #[] 73)).frozen 0
  have hnil : ∀ w : World, (binOp BinOp.eql 20 (.iface 73 (.agg #[])) .nilIface).run Tryz.prog w = .ok (.bool false) w := fun _ => by kernel_rfl
  have hta : ∀ w : World, (Instr.typeAssert (.iface 73 (.agg #[])) 20 73 true).run Tryz.prog w = .ok (.tuple #[.agg #[], .bool true]) w := fun _ => by kernel_rfl
  refine callsD_of_wpS Tryz.func31 rfl fun c₀ cs hu => ?_
  apply wpS_seq
  apply wpS_region
  simp [wpOpsS, go_sem, recoverD, hu, Tryz.ntmps31, Exit.thenS]
  rw [slots24]
  refine wpS_of_wp ?_
  go_wp2
  simp [bodyPostS, results, Tryz.results31]
  exact ⟨_, rfl⟩

set_option maxRecDepth 100000 in
theorem run_nil (w : World) : Calls Tryz.prog 10 #[.nilFunc] w fun e w' => e = .returned (.bool false) ∧ Below w.heap.size w w' := by
  have hmf : ∀ (fn : Fn) (first cap : Array Value) (w : World), (Instr.makeFunc fn first cap).run Tryz.prog w = .ok (.func fn first cap) w := fun _ _ _ _ => rfl
  have hnil : ∀ w : World, (binOp BinOp.eql 1 .nilFunc .nilFunc).run Tryz.prog w = .ok (.bool true) w := fun _ => by kernel_rfl
  go_enter_defers Tryz.func10, Tryz.ntmps10
  go_wp2
  simp [bodyPostD, Leaves, results, Tryz.results10, go_sem]
  exact (Below.refl _ _).alloc (Nat.le_refl _) _

set_option maxRecDepth 100000 in
theorem run_some (K : Nat) (cap : Array Value) (w : World) (hK : ∀ w, (callFunc K cap).run Tryz.prog w = .ok (.enter K cap) w) (R : Bool → World → Prop)
    (h : Calls Tryz.prog K cap (w.alloc (.cells #[.bool false] 4)) fun e w' => ∃ gone, e = (if gone then .panicked out else .returned (.tuple #[])) ∧ R gone w' ∧ At w' w.heap.size #[.bool false] 4) : 
    Calls Tryz.prog 10 #[.func (.func K) #[] cap] w fun e w'' => ∃ gone w', e = .returned (.bool gone) ∧ R gone w' ∧ But (fun k => k = w.heap.size) w' w'' := by
  have hmf : ∀ (fn : Fn) (first cap : Array Value) (w : World), (Instr.makeFunc fn first cap).run Tryz.prog w = .ok (.func fn first cap) w := fun _ _ _ _ => rfl
  have hnil : ∀ w : World, (binOp BinOp.eql 1 (.func (.func K) #[] cap) .nilFunc).run Tryz.prog w = .ok (.bool false) w := fun _ => by rfl
  go_enter_defers Tryz.func10, Tryz.ntmps10
  go_wp2_with fail
  refine h.mono ?_
  rintro e w' ⟨gone, rfl, hR, hat⟩
  have hc : w'.cell? ⟨w.heap.size, 0, none⟩ = some (.bool false) := hat.cell 0
  have hz := hat.frozen 0
  have HR := Lib.hid hR
  have HA := Lib.hid hat
  clear h hR hat
  cases gone
  · simp only [Bool.false_eq_true, if_false]
    go_wp2
    refine leaves_cons (f := 31) (args := #[.pointer (some ⟨w.heap.size, 0, none⟩)]) (by simp) (by simp [go_sem]) ?_
    refine (catch_idle ⟨w.heap.size, 0, none⟩ _).mono ?_
    rintro e u' w'' ⟨rfl, rfl, rfl⟩
    simp [Leaves, settle, results, Tryz.results10, go_sem, hc]
    exact ⟨_, HR.out, But.own _ _ _ _⟩
  · simp only [if_true, out]
    go_wp2
    refine leaves_cons (f := 31) (args := #[.pointer (some ⟨w.heap.size, 0, none⟩)]) (by simp) (by simp [go_sem]) ?_
    refine (catch_out w.heap.size [] _ false HA.out).mono ?_
    rintro e u' w'' ⟨rfl, rfl, o, rfl⟩
    have hc' : (w'.alloc o).cell? ⟨w.heap.size, 0, none⟩ = some (.bool false) := (HA.out.alloc o).cell 0
    simp [Leaves, settle, results, Tryz.results10, go_sem, hc']
    exact ⟨_, HR.out, ((But.refl _ _).alloc o).trans (But.own _ _ _ _) (fun _ h _ => h)⟩

end Go.Proofs.YtapbphkhbhcdkaaGreat

/-
  slices.Sorted, maps.Keys, slices.Sort AND maps.Copy OF THIS PROGRAM ARE THE ONES WHOSE CONTRACTS THE LIBRARY HOLDS: their numbers, and each fact by comparison.
-/
namespace Go.Proofs.YtapbphkhbhcdkaaGreat
open Go.Shelf
def keysA_ren : Go.Shelf.Ren := ⟨fun | 7 => 61 | 10 => 78 | n => n, fun | 23 => 87 | 26 => 3 | 3 => 55 | 28 => 109 | 0 => 0 | 27 => 108 | 33 => 122 | 4 => 4 | n => n, fun | n => n⟩
theorem keysA : Go.Proofs.SlLaysZI.n7 Tryz.prog keysA_ren := {
  mixed := by kernel_rfl
  f7 := ⟨Tryz.f61.name, by decide, Tryz.func61.trans (congrArg some (by kernel_rfl))⟩
  f10 := ⟨Tryz.f78.name, by decide, Tryz.func78.trans (congrArg some (by kernel_rfl))⟩
  t0 := Tryz.underlying0
  a0 := Tryz.isAgg0
  z0 := Tryz.sizeOf0
  v0 := Tryz.zeroValue0
  t4 := Tryz.underlying4
  a4 := Tryz.isAgg4
  z4 := Tryz.sizeOf4
  v4 := Tryz.zeroValue4
  t23 := Tryz.underlying87
  a23 := Tryz.isAgg87
  z23 := Tryz.sizeOf87
  v23 := Tryz.zeroValue87
  t26 := Tryz.underlying3
  a26 := Tryz.isAgg3
  z26 := Tryz.sizeOf3
  v26 := Tryz.zeroValue3
  t27 := Tryz.underlying108
  a27 := Tryz.isAgg108
  z27 := Tryz.sizeOf108
  v27 := Tryz.zeroValue108
  t28 := Tryz.underlying109
  a28 := Tryz.isAgg109
  z28 := Tryz.sizeOf109
  v28 := Tryz.zeroValue109
  t33 := Tryz.underlying122
  a33 := Tryz.isAgg122
  z33 := Tryz.sizeOf122
  v33 := Tryz.zeroValue122 }
def sortedA_ren : Go.Shelf.Ren := ⟨fun | 6 => 60 | 8 => 76 | 9 => 77 | 11 => 81 | 13 => 83 | 12 => 82 | 23 => 93 | 24 => 94 | 14 => 84 | 15 => 85 | 16 => 86 | 17 => 87 | 18 => 88 | 19 => 89 | 20 => 90 | 21 => 91 | 22 => 92 | 25 => 95 | 26 => 96 | 27 => 97 | 28 => 98 | 29 => 99 | 30 => 100 | 31 => 101 | n => n, fun | 26 => 3 | 28 => 109 | 24 => 85 | 0 => 0 | 3 => 3 | 37 => 116 | 48 => 123 | 50 => 27 | 4 => 4 | 40 => 133 | 39 => 132 | 45 => 137 | 5 => 5 | 9 => 9 | 51 => 141 | 55 => 145 | 57 => 147 | 58 => 148 | 33 => 122 | n => n, fun | n => n⟩
theorem sortedA : Go.Proofs.SlLaysZI.n6 Tryz.prog sortedA_ren := {
  mixed := by kernel_rfl
  f6 := ⟨Tryz.f60.name, by decide, Tryz.func60.trans (congrArg some (by kernel_rfl))⟩
  f8 := ⟨Tryz.f76.name, by decide, Tryz.func76.trans (congrArg some (by kernel_rfl))⟩
  f11 := ⟨Tryz.f81.name, by decide, Tryz.func81.trans (congrArg some (by kernel_rfl))⟩
  t0 := Tryz.underlying0
  a0 := Tryz.isAgg0
  z0 := Tryz.sizeOf0
  v0 := Tryz.zeroValue0
  t24 := Tryz.underlying85
  a24 := Tryz.isAgg85
  z24 := Tryz.sizeOf85
  v24 := Tryz.zeroValue85
  t26 := Tryz.underlying3
  a26 := Tryz.isAgg3
  z26 := Tryz.sizeOf3
  v26 := Tryz.zeroValue3
  t28 := Tryz.underlying109
  a28 := Tryz.isAgg109
  z28 := Tryz.sizeOf109
  v28 := Tryz.zeroValue109
  i26 := by kernel_rfl }
def sortA_ren : Go.Shelf.Ren := ⟨fun | 5 => 77 | 8 => 83 | 7 => 82 | 19 => 93 | 20 => 94 | 10 => 84 | 11 => 85 | 12 => 86 | 13 => 87 | 14 => 88 | 15 => 89 | 16 => 90 | 17 => 91 | 18 => 92 | 30 => 95 | 31 => 96 | 32 => 97 | 33 => 98 | 34 => 99 | 35 => 100 | 40 => 101 | n => n, fun | 23 => 85 | 25 => 3 | 3 => 3 | 32 => 116 | 22 => 85 | 0 => 0 | 44 => 123 | 46 => 27 | 4 => 4 | 36 => 133 | 35 => 132 | 41 => 137 | 5 => 5 | 9 => 9 | 53 => 141 | 57 => 145 | 63 => 147 | 64 => 148 | n => n, fun | n => n⟩
theorem sortA : Go.Proofs.SlLaysM.n5 Tryz.prog sortA_ren := {
  mixed := by kernel_rfl
  f5 := ⟨Tryz.f77.name, by decide, Tryz.func77.trans (congrArg some (by kernel_rfl))⟩
  f7 := ⟨Tryz.f82.name, by decide, Tryz.func82.trans (congrArg some (by kernel_rfl))⟩
  f8 := Tryz.func83.trans (congrArg some (by kernel_rfl))
  f10 := ⟨Tryz.f84.name, by decide, Tryz.func84.trans (congrArg some (by kernel_rfl))⟩
  f11 := ⟨Tryz.f85.name, by decide, Tryz.func85.trans (congrArg some (by kernel_rfl))⟩
  f12 := ⟨Tryz.f86.name, by decide, Tryz.func86.trans (congrArg some (by kernel_rfl))⟩
  f13 := ⟨Tryz.f87.name, by decide, Tryz.func87.trans (congrArg some (by kernel_rfl))⟩
  f14 := ⟨Tryz.f88.name, by decide, Tryz.func88.trans (congrArg some (by kernel_rfl))⟩
  f15 := ⟨Tryz.f89.name, by decide, Tryz.func89.trans (congrArg some (by kernel_rfl))⟩
  f16 := ⟨Tryz.f90.name, by decide, Tryz.func90.trans (congrArg some (by kernel_rfl))⟩
  f17 := ⟨Tryz.f91.name, by decide, Tryz.func91.trans (congrArg some (by kernel_rfl))⟩
  f18 := ⟨Tryz.f92.name, by decide, Tryz.func92.trans (congrArg some (by kernel_rfl))⟩
  f19 := Tryz.func93.trans (congrArg some (by kernel_rfl))
  f20 := Tryz.func94.trans (congrArg some (by kernel_rfl))
  f30 := ⟨Tryz.f95.name, by decide, Tryz.func95.trans (congrArg some (by kernel_rfl))⟩
  f31 := Tryz.func96.trans (congrArg some (by kernel_rfl))
  f32 := Tryz.func97.trans (congrArg some (by kernel_rfl))
  f33 := ⟨Tryz.f98.name, by decide, Tryz.func98.trans (congrArg some (by kernel_rfl))⟩
  f34 := ⟨Tryz.f99.name, by decide, Tryz.func99.trans (congrArg some (by kernel_rfl))⟩
  f35 := ⟨Tryz.f100.name, by decide, Tryz.func100.trans (congrArg some (by kernel_rfl))⟩
  f40 := ⟨Tryz.f101.name, by decide, Tryz.func101.trans (congrArg some (by kernel_rfl))⟩
  t0 := Tryz.underlying0
  a0 := Tryz.isAgg0
  z0 := Tryz.sizeOf0
  v0 := Tryz.zeroValue0
  t3 := Tryz.underlying3
  a3 := Tryz.isAgg3
  z3 := Tryz.sizeOf3
  v3 := Tryz.zeroValue3
  t4 := Tryz.underlying4
  a4 := Tryz.isAgg4
  z4 := Tryz.sizeOf4
  v4 := Tryz.zeroValue4
  t5 := Tryz.underlying5
  a5 := Tryz.isAgg5
  z5 := Tryz.sizeOf5
  v5 := Tryz.zeroValue5
  t9 := Tryz.underlying9
  a9 := Tryz.isAgg9
  z9 := Tryz.sizeOf9
  v9 := Tryz.zeroValue9
  t22 := Tryz.underlying85
  a22 := Tryz.isAgg85
  z22 := Tryz.sizeOf85
  v22 := Tryz.zeroValue85
  t23 := Tryz.underlying85
  a23 := Tryz.isAgg85
  z23 := Tryz.sizeOf85
  v23 := Tryz.zeroValue85
  t25 := Tryz.underlying3
  a25 := Tryz.isAgg3
  z25 := Tryz.sizeOf3
  v25 := Tryz.zeroValue3
  t32 := Tryz.underlying116
  a32 := Tryz.isAgg116
  z32 := Tryz.sizeOf116
  v32 := Tryz.zeroValue116
  t35 := Tryz.underlying132
  a35 := Tryz.isAgg132
  z35 := Tryz.sizeOf132
  v35 := Tryz.zeroValue132
  t36 := Tryz.underlying133
  a36 := Tryz.isAgg133
  z36 := Tryz.sizeOf133
  v36 := Tryz.zeroValue133
  t41 := Tryz.underlying137
  a41 := Tryz.isAgg137
  z41 := Tryz.sizeOf137
  v41 := Tryz.zeroValue137
  t44 := Tryz.underlying123
  a44 := Tryz.isAgg123
  z44 := Tryz.sizeOf123
  v44 := Tryz.zeroValue123
  t46 := Tryz.underlying27
  a46 := Tryz.isAgg27
  z46 := Tryz.sizeOf27
  v46 := Tryz.zeroValue27
  t53 := Tryz.underlying141
  a53 := Tryz.isAgg141
  z53 := Tryz.sizeOf141
  v53 := Tryz.zeroValue141
  t57 := Tryz.underlying145
  a57 := Tryz.isAgg145
  z57 := Tryz.sizeOf145
  v57 := Tryz.zeroValue145
  t63 := Tryz.underlying147
  a63 := Tryz.isAgg147
  z63 := Tryz.sizeOf147
  v63 := Tryz.zeroValue147
  t64 := Tryz.underlying148
  a64 := Tryz.isAgg148
  z64 := Tryz.sizeOf148
  v64 := Tryz.zeroValue148 }
end Go.Proofs.YtapbphkhbhcdkaaGreat

/-
  THE KEYS OF A MAP, ascending.
-/
namespace Go.Proofs.YtapbphkhbhcdkaaGreat
open Go.RowKit Go.Maps Go.Shelf
set_option linter.unusedVariables false
set_option maxRecDepth 100000

/-- slices.Sort's two contracts at this program. -/
theorem sortsA (m : Nat) : AnyZI.SortsIn Tryz.prog sortedA_ren Fence.wide m :=
  ⟨fun blk off cap ss W hH hblk hsz => callsIn_wide.2 (AnyM.slices_Sort_int sortA blk off cap ss W hH hblk hsz),
   fun p cap W => callsIn_wide.2 (AnyM.slices_Sort_int_none sortA p cap W)⟩

/-- The list's members are the keys, each once, ascending. -/
def Keys (f : Int → Option Value) (ss : List Int) : Prop := ss.Pairwise (fun x y => x < y) ∧ ∀ x, x ∈ ss ↔ (f x).isSome = true

theorem keys_of_perm {w : World} {b n : Nat} {D : DataW Value} {f : Int → Option Value} (h : w.ownsMap Tryz.prog 3 raw b n D) (hf : ∀ i, f i = valAt D i) (h64 : ∀ i, f i ≠ none → In64 i) {ss : List Int} (hp : ss.Perm (intKeys D)) :
    Keys f (ss.mergeSort leI) := by
  obtain ⟨h1, h2, h3⟩ := keys_nodup h
  have tr : ∀ a b c : Int, leI a b = true → leI b c = true → leI a c = true := fun a b c h1 h2 => by simp only [leI, decide_eq_true_eq] at *; exact Int.le_trans h1 h2
  have to : ∀ a b : Int, (leI a b || leI b a) = true := fun a b => by simp only [leI, Bool.or_eq_true, decide_eq_true_eq]; exact Int.le_total a b
  have hpm : (ss.mergeSort leI).Perm (intKeys D) := (List.mergeSort_perm ss leI).trans hp
  refine ⟨?_, fun x => ?_⟩
  · have hs := List.pairwise_mergeSort tr to ss
    have hn : (ss.mergeSort leI).Nodup := (hpm.nodup_iff).2 h1
    refine (hs.and hn).imp ?_
    rintro a c ⟨h1, h2⟩
    simp only [leI, decide_eq_true_eq] at h1
    have h3 : a ≠ c := h2
    omega
  · rw [hpm.mem_iff, h2 x, ← hf x]
    refine ⟨fun h => h.1, fun h => ⟨h, h64 x ?_⟩⟩
    intro e
    rw [e] at h
    cases h

set_option maxRecDepth 100000 in
set_option maxHeartbeats 1000000 in
/-- What Waiting's inner two calls make. -/
theorem sorted_keys (b : Nat) (f : Int → Option Value) (S : Nat) (w : World) (h : Mp w b f) (hu : Under f S) (hS : S ≤ 1000000000) (R : Ending → World → Prop)
    (hR : ∀ v ss w', Keys f ss → w'.ownsRow w.heap.size 3 1 v ss.length (ss.map encZ) → Below w.heap.size w w' → R (.returned v) w') :
    CallsIn Fence.wide 5 Tryz.prog 60 #[.func (.func 78) #[] #[.pointer (some ⟨w.heap.size, 0, none⟩)]] (w.alloc (.cells #[.map (some b)] 87)) R := by
  obtain ⟨D, hown, hf, h64⟩ := h
  have hsz := size_under hown hf hu
  have hbl := hown.lt
  have hseq : SeqGives Fence.wide 2 Tryz.prog 78 #[.pointer (some ⟨w.heap.size, 0, none⟩)] encZ (fun ss => ss.Perm (intKeys D)) (Maps.size D) (w.alloc (.cells #[.map (some b)] 87)) :=
    AnyZI.keys_gives (ρ := keysA_ren) { keysA with } Fence.wide _ trivial rfl (by omega) w.heap.size b (Maps.size D) D _ (by simp) (by simp) (by
      obtain ⟨es, clock, hb, Ft, hs, hD⟩ := hown
      exact ⟨es, clock, (Below.heap_alloc _ _ b hbl).trans hb, Ft, hs, hD⟩)
  have cS := AnyZI.sorted_in sortedA Fence.wide 5 trivial trivial trivial trivial rfl (by omega) (sortsA _) (enters_of Tryz.func77 (by kernel_rfl) rfl) 78 #[.pointer (some ⟨w.heap.size, 0, none⟩)] trivial (enters_of Tryz.func78 (by kernel_rfl) rfl) _ _ (by unfold maxLen; omega) (by omega) _ hseq
  change CallsIn _ _ Tryz.prog 60 _ _ _ at cS
  refine cS.mono ?_
  rintro e w' ⟨v, ss, rfl, hp, hrow, hnil, hb⟩
  have hl : (ss.mergeSort leI).length = ss.length := by simp
  refine hR v (ss.mergeSort leI) w' (keys_of_perm hown hf h64 hp) ?_ ?_
  · rw [hl]
    exact ownsRow_base_a hrow (by simp)
  · exact ((Below.refl _ w).alloc (Nat.le_refl _) _).trans (hb.mono (by simp))

end Go.Proofs.YtapbphkhbhcdkaaGreat

/-
  THE WALK OF Waiting.
-/
namespace Go.Proofs.YtapbphkhbhcdkaaGreat
open Go.RowKit Go.Maps Go.Shelf
set_option linter.unusedVariables false
set_option maxRecDepth 100000

section
variable {w w' : World} {g p : Nat} {T : Nat → Prop} {s : DS}
/-- The sectors that wait, ascending. -/
def Waits (s : DS) (ss : List Int) : Prop := ss.Pairwise (fun x y => x < y) ∧ ∀ x, x ∈ ss ↔ (s.wait x).isSome = true
theorem sect_some {w : World} {T Z : Nat → Prop} {size : Nat} {f : Int → Option Value} {c : Int → Option Bytes} (h : Sect w T Z size f c) (i : Int) : (f i).isSome = (c i).isSome := by
  rcases h i with ⟨h1, h2⟩ | ⟨A, cap, l, h1, h2, _⟩
  · rw [h1, h2]; rfl
  · rw [h1, h2]; rfl

theorem keys_call (b : Nat) (w : World) : Calls Tryz.prog 61 #[.map (some b)] w fun e w' => e = .returned (.func (.func 78) #[] #[.pointer (some ⟨w.heap.size, 0, none⟩)]) ∧ w' = w.alloc (.cells #[.map (some b)] 87) := by
  have h : CallsIn Fence.wide 5 Tryz.prog 61 #[.map (some b)] w fun e w' => e = .returned (.func (.func 78) #[] #[.pointer (some ⟨w.heap.size, 0, none⟩)]) ∧ w' = w.alloc (.cells #[.map (some b)] 87) := AnyZI.keys_in keysA Fence.wide 5 trivial rfl (some b) w
  exact callsIn_wide.1 h

set_option maxHeartbeats 400000 in
theorem waiting_any (h : Dk w g p T s) : Calls Tryz.prog 42 #[.pointer (some ⟨g, 0, none⟩)] w fun e w' => ∃ v ss, e = .returned v ∧ Waits s ss ∧ w'.ownsRow w.heap.size 3 1 v ss.length (ss.map encZ) ∧ Below w.heap.size w w' := by
  obtain ⟨bd, bw, bn, fd, fw, fn, h⟩ := h
  obtain ⟨c0, c1, c2, c3, c4, c5, c6, c7⟩ := h.cell
  have H := Lib.hid h
  clear h c0 c1 c2 c3 c5 c6 c7
  go_enter Tryz.func42, Tryz.ntmps42
  go_wp2_with fail
  refine (keys_call bw w).mono ?_
  rintro e w' ⟨rfl, rfl⟩
  go_wp2_with fail
  refine (callsIn_wide.1 (sorted_keys bw fw s.sectors w H.out.wait H.out.underWait H.out.small.1 (fun e w' => ∃ v ss, e = .returned v ∧ Keys fw ss ∧ w'.ownsRow w.heap.size 3 1 v ss.length (ss.map encZ) ∧ Below w.heap.size w w') (fun v ss w' h1 h2 h3 => ⟨v, ss, rfl, h1, h2, h3⟩))).mono ?_
  rintro e w' ⟨v, ss, rfl, hK, hrow, hb⟩
  go_wp2
  go_ret
  refine ⟨v, ss, rfl, ⟨hK.1, fun x => ?_⟩, hrow, hb⟩
  rw [hK.2 x, sect_some H.out.rowsWait x]

end
end Go.Proofs.YtapbphkhbhcdkaaGreat

/-
  THE WALK OF Cycle.
-/
namespace Go.Proofs.YtapbphkhbhcdkaaGreat
open Go.RowKit Go.Maps Go.Shelf
set_option linter.unusedVariables false
set_option maxRecDepth 100000

section
variable {w w' : World} {g p : Nat} {T : Nat → Prop} {s : DS}
/-- Of the sectors ss the first k: does i stay? -/
def kept (keep : Nat) (ss : List Int) (i : Int) : Nat → Bool
  | 0 => false
  | k + 1 => kept keep ss i k || (decide (ss.getD k 0 = i) && keep.testBit (k % 64))
/-- What is durable when the first k of the waiting sectors ss were settled. -/
def mix {α : Type} (keep : Nat) (ss : List Int) (k : Nat) (on wait : Int → Option α) : Int → Option α := fun i => if kept keep ss i k then wait i else on i
def DS.cycle (s : DS) (keep : Nat) (ss : List Int) : DS := { s with on := mix keep ss ss.length s.on s.wait, wait := fun _ => none }

theorem mix_zero {α : Type} (keep : Nat) (ss : List Int) (on wait : Int → Option α) : mix keep ss 0 on wait = on := rfl
theorem mix_stay {α : Type} {keep : Nat} {ss : List Int} {k : Nat} (on wait : Int → Option α) (h : keep.testBit (k % 64) = false) : mix keep ss (k + 1) on wait = mix keep ss k on wait := by
  funext i
  simp [mix, kept, h]
theorem mix_upd {keep : Nat} {ss : List Int} {k : Nat} {x : Int} {v : Value} (on wait : Int → Option Value) (h : keep.testBit (k % 64) = true) (hx : ss.getD k 0 = x) (hv : wait x = some v) : mix keep ss (k + 1) on wait = upd (mix keep ss k on wait) x v := by
  funext i
  have e0 : kept keep ss i (k + 1) = (kept keep ss i k || (decide (x = i) && true)) := by rw [← hx, ← h]; rfl
  unfold upd mix
  rw [e0]
  by_cases e : i = x
  · subst e
    simp [hv]
  · have : ¬ x = i := fun h => e h.symm
    simp [this, e]
theorem bit_test (keep j : Nat) (h : keep < 18446744073709551616) : (bits BinOp.and IntKind.u64 ((keep : Int) / 2 ^ j) 1 == 1) = keep.testBit j := by
  have h0 : keep / 2 ^ j ≤ keep := Nat.div_le_self _ _
  have e : (keep : Int) / 2 ^ j = ((keep / 2 ^ j : Nat) : Int) := by
    rw [Int.natCast_ediv, Int.natCast_pow]
    rfl
  rw [e, show (1 : Int) = ((1 : Nat) : Int) from rfl, bits_and_u64_nat _ 1 (by omega) (by omega), Nat.testBit_eq_decide_div_mod_eq, Nat.and_one_is_mod]
  generalize keep / 2 ^ j % 2 = m
  by_cases hm : m = 1
  · simp [hm]
  · simp [hm]
    omega
theorem Sect.mix {w : World} {T Z : Nat → Prop} {size : Nat} {f h : Int → Option Value} {c d : Int → Option Bytes} (keep : Nat) (ss : List Int) (k : Nat) (hf : Sect w T Z size f c) (hh : Sect w T Z size h d) : Sect w T Z size (mix keep ss k f h) (mix keep ss k c d) := by
  intro i
  unfold YtapbphkhbhcdkaaGreat.mix
  cases kept keep ss i k
  · simpa using hf i
  · simpa using hh i
theorem Under.mix {f h : Int → Option Value} {S : Nat} (keep : Nat) (ss : List Int) (k : Nat) (hf : Under f S) (hh : Under h S) : Under (mix keep ss k f h) S := by
  intro i hi
  unfold YtapbphkhbhcdkaaGreat.mix at hi
  cases hc : kept keep ss i k
  · rw [hc] at hi; exact hf i hi
  · rw [hc] at hi; exact hh i hi

theorem waits_len (h : Dk w g p T s) {ss : List Int} (hW : Waits s ss) : ss.length ≤ s.sectors ∧ ∀ x ∈ ss, s.has x := by
  obtain ⟨bd, bw, bn, fd, fw, fn, h⟩ := h
  have hin : ∀ x ∈ ss, s.has x := fun x hx => h.underWait x (by
    have h1 := (hW.2 x).1 hx
    rw [← sect_some h.rowsWait x] at h1
    intro e
    rw [e] at h1
    cases h1)
  refine ⟨nodup_le _ _ (hW.1.imp (fun h => by omega)) hin, hin⟩
theorem row_cell {w : World} {base n c : Nat} {A : Option Addr} {ss : List Int} (h : w.ownsRow base 3 1 (.slice A n c) n (ss.map encZ)) (hn : ss.length = n) {k : Nat} (hk : k < n) :
    ∃ gr o0, A = some ⟨gr, o0, none⟩ ∧ base ≤ gr ∧ gr < w.heap.size ∧ w.cell? ⟨gr, o0 + k, none⟩ = some (.int .i64 (ss.getD k 0)) := by
  rcases h.2 with ⟨e, h0⟩ | ⟨g, cap, cur, e, hg, _⟩
  · omega
  · injection e with e1 e2 e3
    subst e1 e3
    refine ⟨g, 0, rfl, hg, (h.lt g rfl).2, ?_⟩
    have := h.cellAt (g := g) (cap := c) k (by omega)
    rw [Nat.zero_add, this, List.getElem?_map, List.getElem?_eq_getElem (by omega)]
    simp only [Option.map_some, List.getD_eq_getElem?_getD, List.getElem?_eq_getElem (show k < ss.length by omega), Option.getD_some]

/-- In the loop: the map of what is durable as it stands. -/
def Cyc (w wr : World) (bd bw : Nat) (fd fw : Int → Option Value) (keep : Nat) (ss : List Int) (k : Nat) : Prop := Mp wr bd (YtapbphkhbhcdkaaGreat.mix keep ss k fd fw) ∧ But (fun j => j = bd) w wr

set_option maxHeartbeats 1600000 in
theorem cycle_any (keep : Nat) (hk : keep < 18446744073709551616) (h : Dk w g p T s) : Calls Tryz.prog 14 #[.pointer (some ⟨g, 0, none⟩), .int .u64 (keep : Int)] w fun e w' => ∃ ss, e = .returned (.tuple #[]) ∧ Waits s ss ∧ Dk w' g p T (s.cycle keep ss) ∧ But T w w' := by
  have HD := Lib.hid h
  obtain ⟨bd, bw, bn, fd, fw, fn, hL⟩ := h
  have HL := Lib.hid hL
  clear hL
  go_enter Tryz.func14, Tryz.ntmps14
  go_wp2_with fail
  refine (waiting_any HD.out).mono ?_
  rintro e w1 ⟨v, ss, rfl, hW, hrow, hb⟩
  have L1 := Lib.hid (HL.out.but (S := fun _ => False) (But.of_below hb) (fun _ _ h => h))
  have WW := Lib.hid hW
  have RW := Lib.hid hrow
  have B1 := Lib.hid hb
  obtain ⟨A, cap, rfl⟩ : ∃ A cap, v = .slice A ss.length cap := by
    rcases hrow.2 with ⟨rfl, e⟩ | ⟨g, cap, cur, rfl, _⟩
    · exact ⟨none, 0, by rw [e]⟩
    · exact ⟨_, cap, rfl⟩
  clear hW hrow hb
  generalize hn : ss.length = n
  have HN := Lib.hid hn
  clear hn
  go_wp2
  have hn9 : n ≤ 1000000000 := by
    have h1 := (waits_len HD.out WW.out).1
    rw [HN.out] at h1
    have := HL.out.small.1
    omega
  go_loopw [9] (fun i wr => ∃ k : Nat, k ≤ n ∧ i = .int .i64 k ∧ Cyc w1 wr bd bw fd fw keep ss k) (fun i _ => n - (intOf i).toNat)
  case atStart => exact ⟨0, Nat.zero_le _, rfl, L1.out.on, But.refl _ _⟩
  case round =>
    obtain ⟨k, hk', rfl, hC⟩ := hrel
    have HC := Lib.hid hC
    clear hC
    have hap := L1.out.apart
    have HAP := Lib.hid hap
    have c3 : wr.cell? ⟨g, 3, none⟩ = some (.map (some bd)) := (L1.out.at_.but HC.out.2 hap.2.2.2.1).cell 3
    have c4 : wr.cell? ⟨g, 4, none⟩ = some (.map (some bw)) := (L1.out.at_.but HC.out.2 hap.2.2.2.1).cell 4
    have mw : Mp wr bw fw := L1.out.wait.but HC.out.2 (fun e => hap.1 e.symm)
    have MW := Lib.hid mw
    clear hap mw
    by_cases hlt : k < n
    · have hR := RW.out
      rw [HN.out] at hR
      obtain ⟨b0, o0, rfl, hbase, hlt0, hcell⟩ := row_cell hR HN.out hlt
      have hne : ¬ b0 = bd := by
        have := HL.out.lt _ HL.out.own.2.1
        omega
      have hce : wr.cell? ⟨b0, o0 + k, none⟩ = some (.int .i64 (ss.getD k 0)) := (HC.out.2.cell (p := ⟨b0, o0 + k, none⟩) hlt0 hne).trans hcell
      have hmem : ss.getD k 0 ∈ ss := by
        rw [List.getD_eq_getElem?_getD, List.getElem?_eq_getElem (by rw [HN.out]; exact hlt)]
        exact List.getElem_mem _
      generalize hx : ss.getD k 0 = x at hce hmem
      have hwx := (WW.out.2 x).1 hmem
      rw [← sect_some HL.out.rowsWait x] at hwx
      obtain ⟨vx, hvx⟩ := Option.isSome_iff_exists.1 hwx
      have hx64 : In64 x := in64_of HD.out ((waits_len HD.out WW.out).2 x hmem)
      have HX := Lib.hid hx
      have HV := Lib.hid hvx
      have HX64 := Lib.hid hx64
      have hbt := bit_test keep (k % 64) hk
      have e1 : wrap64 ((k : Int) + 1) = (k : Int) + 1 := by unfold wrap64; omega
      clear hR hcell hmem hwx hx hvx hx64 hne hbase hlt0
      cases ht : keep.testBit (k % 64)
      · rw [ht] at hbt
        have HT := Lib.hid ht
        clear ht
        go_wp2
        go_roundw
        case rel =>
          refine ⟨k + 1, by omega, by go_num, ?_, HC.out.2⟩
          rw [mix_stay fd fw HT.out]
          exact HC.out.1
        case measure => simp [intOf]; omega
      · rw [ht] at hbt
        have HT := Lib.hid ht
        clear ht
        have hlk := (MW.out.but (S := fun _ => False) (But.refl _ _).drew (fun h => h)).look (w := wr.drew) Tryz.underlying87 (zero28 _) HX64.out (u := vx) (by rw [HV.out]; rfl)
        obtain ⟨w2, hr2, hm2, hb2⟩ := (HC.out.1.but (S := fun _ => False) (But.refl _ _).drew (fun h => h)).store (w := wr.drew) Tryz.underlying87 (S := s.sectors) (HL.out.underOn.mix keep ss k HL.out.underWait) (by have := HL.out.small; unfold maxLen; omega) HX64.out vx
        have M2 := Lib.hid hm2
        have B2 := Lib.hid hb2
        clear hm2 hb2
        go_wp2
        go_region
        go_wp2
        go_roundw
        case rel =>
          refine ⟨k + 1, by omega, by go_num, ?_, HC.out.2.drew.trans B2.out (fun _ h _ => h)⟩
          rw [mix_upd fd fw HT.out HX.out HV.out]
          exact M2.out
        case measure => simp [intOf]; omega
    · have e0 : k = n := by omega
      subst e0
      obtain ⟨w3, hr3, hm3, hb3⟩ := MW.out.clear Tryz.underlying87
      have M3 := Lib.hid hm3
      have B3 := Lib.hid hb3
      clear hm3 hb3
      go_wp2
      go_end0
      have hlies := L1.out.turn HC.out.1 HC.out.2 M3.out B3.out (L1.out.rowsOn.mix keep ss k L1.out.rowsWait) (L1.out.underOn.mix keep ss k L1.out.underWait)
      have ho := L1.out.own
      have hcyc : s.cycle keep ss = { s with on := mix keep ss k s.on s.wait, wait := fun _ => none } := by
        unfold DS.cycle
        rw [HN.out]
      refine ⟨ss, rfl, WW.out, ?_, ?_⟩
      · rw [hcyc]
        exact ⟨_, _, _, _, _, _, hlies⟩
      · refine ((But.of_below (S := T) B1.out).trans HC.out.2 ?_).trans B3.out ?_
        · rintro i rfl _; exact ho.2.1
        · rintro i rfl _; exact ho.2.2.1
end

end Go.Proofs.YtapbphkhbhcdkaaGreat
