/-
  THE WALK OF Same.
-/
import Derived.Test.YtapbphkhbhcdkaaGreatChunk
namespace Go.Proofs.YtapbphkhbhcdkaaGreat
open Go.RowKit Go.Maps
set_option linter.unusedVariables false
set_option maxRecDepth 100000

section
variable {w w' : World} {P : Pl} {O : Nat → Prop} {s : AS}

/-- What reading what all members have comes to. -/
inductive SameAs (w w' : World) (s s' : AS) (i : Int) : Value → Int → Prop
  | got (v : Value) (m : Nat) (hm : (m = 0 ∧ s'.stale = s.stale ∧ s.stale ≠ 0) ∨ (m = 1 ∧ s'.stale = 0)) (hr : Rel (fun _ => Aged) 4 s s') (hv : NewRow w w' v ((s.d m).read i)) (hl : (s'.d m).dead = false) : SameAs w w' s s' i v 0
  | gone (hg : Gone 4 s s') : SameAs w w' s s' i (.slice none 0 0) 3

end
end Go.Proofs.YtapbphkhbhcdkaaGreat
