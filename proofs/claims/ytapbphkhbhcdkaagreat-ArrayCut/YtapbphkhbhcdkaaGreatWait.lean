/-
  THE KEYS OF A MAP, ascending.
-/
import Derived.Test.YtapbphkhbhcdkaaGreatLayS
import Derived.Test.YtapbphkhbhcdkaaGreatMap
namespace Go.Proofs.YtapbphkhbhcdkaaGreat
open Go.RowKit Go.Maps Go.Shelf
set_option linter.unusedVariables false
set_option maxRecDepth 100000

/-- slices.Sort's two contracts at this program. -/
theorem sortsA (m : Nat) : AnyZI.SortsIn Tryz.prog sortedA_ren Fence.wide m :=
  ⟨fun blk off cap ss W hH hblk hsz => callsIn_wide.2 (AnyM.slices_Sort_int sortA blk off cap ss W hH hblk hsz),
   fun p cap W => callsIn_wide.2 (AnyM.slices_Sort_int_none sortA p cap W)⟩

/-- The list's members are the keys, each once, ascending. -/
def Keys (f : Int → Option Value) (ss : List Int) : Prop := ss.Pairwise (fun x y => x < y) ∧ ∀ x, x ∈ ss ↔ (f x).isSome = true

theorem keys_of_perm {w : World} {b n : Nat} {D : DataW Value} {f : Int → Option Value} (h : w.ownsMap Tryz.prog 3 raw b n D) (hf : ∀ i, f i = valAt D i) (h64 : ∀ i, f i ≠ none → In64 i) {ss : List Int} (hp : ss.Perm (intKeys D)) :
    Keys f (ss.mergeSort leI) := by
  obtain ⟨h1, h2, h3⟩ := keys_nodup h
  have tr : ∀ a b c : Int, leI a b = true → leI b c = true → leI a c = true := fun a b c h1 h2 => by simp only [leI, decide_eq_true_eq] at *; exact Int.le_trans h1 h2
  have to : ∀ a b : Int, (leI a b || leI b a) = true := fun a b => by simp only [leI, Bool.or_eq_true, decide_eq_true_eq]; exact Int.le_total a b
  have hpm : (ss.mergeSort leI).Perm (intKeys D) := (List.mergeSort_perm ss leI).trans hp
  refine ⟨?_, fun x => ?_⟩
  · have hs := List.pairwise_mergeSort tr to ss
    have hn : (ss.mergeSort leI).Nodup := (hpm.nodup_iff).2 h1
    refine (hs.and hn).imp ?_
    rintro a c ⟨h1, h2⟩
    simp only [leI, decide_eq_true_eq] at h1
    have h3 : a ≠ c := h2
    omega
  · rw [hpm.mem_iff, h2 x, ← hf x]
    refine ⟨fun h => h.1, fun h => ⟨h, h64 x ?_⟩⟩
    intro e
    rw [e] at h
    cases h

set_option maxRecDepth 100000 in
set_option maxHeartbeats 1000000 in
/-- What Waiting's inner two calls make. -/
theorem sorted_keys (b : Nat) (f : Int → Option Value) (S : Nat) (w : World) (h : Mp w b f) (hu : Under f S) (hS : S ≤ 1000000000) (R : Ending → World → Prop)
    (hR : ∀ v ss w', Keys f ss → w'.ownsRow w.heap.size 3 1 v ss.length (ss.map encZ) → Below w.heap.size w w' → R (.returned v) w') :
    CallsIn Fence.wide 5 Tryz.prog 60 #[.func (.func 78) #[] #[.pointer (some ⟨w.heap.size, 0, none⟩)]] (w.alloc (.cells #[.map (some b)] 87)) R := by
  obtain ⟨D, hown, hf, h64⟩ := h
  have hsz := size_under hown hf hu
  have hbl := hown.lt
  have hseq : SeqGives Fence.wide 2 Tryz.prog 78 #[.pointer (some ⟨w.heap.size, 0, none⟩)] encZ (fun ss => ss.Perm (intKeys D)) (Maps.size D) (w.alloc (.cells #[.map (some b)] 87)) :=
    AnyZI.keys_gives (ρ := keysA_ren) { keysA with } Fence.wide _ trivial rfl (by omega) w.heap.size b (Maps.size D) D _ (by simp) (by simp) (by
      obtain ⟨es, clock, hb, Ft, hs, hD⟩ := hown
      exact ⟨es, clock, (Below.heap_alloc _ _ b hbl).trans hb, Ft, hs, hD⟩)
  have cS := AnyZI.sorted_in sortedA Fence.wide 5 trivial trivial trivial trivial rfl (by omega) (sortsA _) (enters_of Tryz.func77 (by kernel_rfl) rfl) 78 #[.pointer (some ⟨w.heap.size, 0, none⟩)] trivial (enters_of Tryz.func78 (by kernel_rfl) rfl) _ _ (by unfold maxLen; omega) (by omega) _ hseq
  change CallsIn _ _ Tryz.prog 60 _ _ _ at cS
  refine cS.mono ?_
  rintro e w' ⟨v, ss, rfl, hp, hrow, hnil, hb⟩
  have hl : (ss.mergeSort leI).length = ss.length := by simp
  refine hR v (ss.mergeSort leI) w' (keys_of_perm hown hf h64 hp) ?_ ?_
  · rw [hl]
    exact ownsRow_base_a hrow (by simp)
  · exact ((Below.refl _ w).alloc (Nat.le_refl _) _).trans (hb.mono (by simp))

end Go.Proofs.YtapbphkhbhcdkaaGreat
