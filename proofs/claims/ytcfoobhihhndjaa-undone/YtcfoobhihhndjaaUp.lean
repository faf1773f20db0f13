/- Undone: regions, by their number. -/
import Derived.Test.YtcfoobhihhndjaaHc
namespace Go.Proofs.Ytcfoobhihhndjaa
open Go.RowKit Go.Sort

/-- an end that is no panic -/
def calmQ (Q : Exit → Act → World → Prop) : Exit → Act → World → Prop
  | .normal, a, w => Q .normal a w
  | _, _, _ => False
theorem calmQ_out (Q : Exit → Act → World → Prop) : ∀ e a w, calmQ Q e a w → Q e a w := fun e a w h => by
  cases e <;> first | exact h | exact h.elim

/-- a region of a body, by its number -/
def regQ (n : Nat) : Code → Option Code
  | .region id ops b => if id = n then some (.region id ops b) else none
  | .seq a b => match regQ n a with
    | some c => some c
    | none => regQ n b
  | .block _ c => regQ n c
  | .loop c => regQ n c
  | .scope c => regQ n c
  | .cond _ a b => match regQ n a with
    | some c => some c
    | none => regQ n b
  | _ => none
def regOf (f : Func) (n : Nat) : Code := ((f.body.bind (regQ n)).getD .skip)

end Go.Proofs.Ytcfoobhihhndjaa
