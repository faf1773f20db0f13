/-
  No cell of these rows narrows 'for every input' (looked for: loops, veiled, ifaces, maps, wideKeys, modest, calm, conditions, laid).
  DERIVED. THE GIVEN ROWS OF THIS SEAT. 6 by the template 'for every input the law returns true; each argument reads behind the call as it read before'; 0 by the template 'total and deterministic' (their statements: YtcfoobhihhndjaaTotals.lean).
  GIVEN WITH THE SEED: the statements are not yours to turn. If you find one false, say at which input.
  Laid BY PROGRAM, IN A SANDBOX (cutbox-rows.mjs): the forced cells as the released guide's own fill.sh prints them over the translation 810805df4e973304… (all of the seat's roots in one cut). By AI agents, Wed Nov 11 2026. No macro, syntax, notation, axiom, sorry.
-/
import Derived.Test.YtcfoobhihhndjaaChecked
import GoSem.Claim
import GoSem.ClaimJoined
import GoSem.ClaimMapViews
import Derived.JoinedTies
import Derived.KernelRfl
namespace Go.Proofs.Ytcfoobhihhndjaa
/- THE CELL 'sum', in the pinned program and in every row, IS THE sha256 OF THE DUMP (.gsa) THAT YtcfoobhihhndjaaProg.lean LOADS. Nothing in Lean hashes anything: it is a label: what it is worth is what the hold of that sum in a sandbox is worth. -/
noncomputable def Try.pinned : Pinned := { name := "ytcfoobhihhndjaa", sum := "810805df4e973304bdb24cd9bef3272f53569de5cdaa097e95022227f11459bd", checked := Try.checked }
namespace Rows
def none {H : Type} : Left H := { results := [], args := [] }

/-- 'mercatkeep.Shipped': WHATEVER THE INPUT: true; the input reads as it did. -/
def shippedSpec : ChangeSpec := { name := "shipped", fn := fun _ => fun
  | [d1, d2, d3, d4, d5] => { results := [.lit (.bool true)], args := [d1, d2, d3, d4, d5] }
  | _ => none }
def shippedRow : OpenClaim := { program := "ytcfoobhihhndjaa", sum := "810805df4e973304bdb24cd9bef3272f53569de5cdaa097e95022227f11459bd", func := "mercat/mercatkeep.Shipped", spec := "shipped", inPlace := ["slices.overlaps[*mercat/api.Order]"], unfollowed := true, recurses := true, apart := false }
def ShippedSaid : Prop := shippedRow.holds Try.pinned (OpenSpec.ofChange shippedSpec)

/-- ITS FALSE NEIGHBOUR: 'it returns false'. Refute it at one input. -/
def shippedWrong : ChangeSpec := { name := "shipped", fn := fun _ => fun
  | [d1, d2, d3, d4, d5] => { results := [.lit (.bool false)], args := [d1, d2, d3, d4, d5] }
  | _ => none }
def ShippedWrongFalsely : Prop := shippedRow.holds Try.pinned (OpenSpec.ofChange shippedWrong)

/-- 'mercatkeep.Best': WHATEVER THE INPUT: true; the input reads as it did. -/
def bestSpec : ChangeSpec := { name := "best", fn := fun _ => fun
  | [d1, d2, d3] => { results := [.lit (.bool true)], args := [d1, d2, d3] }
  | _ => none }
def bestRow : OpenClaim := { program := "ytcfoobhihhndjaa", sum := "810805df4e973304bdb24cd9bef3272f53569de5cdaa097e95022227f11459bd", func := "mercat/mercatkeep.Best", spec := "best", inPlace := ["slices.overlaps[*mercat/api.Order]"], unfollowed := true, recurses := true, apart := false }
def BestSaid : Prop := bestRow.holds Try.pinned (OpenSpec.ofChange bestSpec)

/-- ITS FALSE NEIGHBOUR: 'it returns false'. Refute it at one input. -/
def bestWrong : ChangeSpec := { name := "best", fn := fun _ => fun
  | [d1, d2, d3] => { results := [.lit (.bool false)], args := [d1, d2, d3] }
  | _ => none }
def BestWrongFalsely : Prop := bestRow.holds Try.pinned (OpenSpec.ofChange bestWrong)

/-- 'mercatkeep.Whole': WHATEVER THE INPUT: true; the input reads as it did. -/
def wholeSpec : ChangeSpec := { name := "whole", fn := fun _ => fun
  | [d1, d2] => { results := [.lit (.bool true)], args := [d1, d2] }
  | _ => none }
def wholeRow : OpenClaim := { program := "ytcfoobhihhndjaa", sum := "810805df4e973304bdb24cd9bef3272f53569de5cdaa097e95022227f11459bd", func := "mercat/mercatkeep.Whole", spec := "whole", inPlace := ["slices.overlaps[*mercat/api.Order]"], unfollowed := true, recurses := true, apart := false }
def WholeSaid : Prop := wholeRow.holds Try.pinned (OpenSpec.ofChange wholeSpec)

/-- ITS FALSE NEIGHBOUR: 'it returns false'. Refute it at one input. -/
def wholeWrong : ChangeSpec := { name := "whole", fn := fun _ => fun
  | [d1, d2] => { results := [.lit (.bool false)], args := [d1, d2] }
  | _ => none }
def WholeWrongFalsely : Prop := wholeRow.holds Try.pinned (OpenSpec.ofChange wholeWrong)

/-- 'mercatkeep.Held': WHATEVER THE INPUT: true; the input reads as it did. -/
def heldSpec : ChangeSpec := { name := "held", fn := fun _ => fun
  | [d1, d2] => { results := [.lit (.bool true)], args := [d1, d2] }
  | _ => none }
def heldRow : OpenClaim := { program := "ytcfoobhihhndjaa", sum := "810805df4e973304bdb24cd9bef3272f53569de5cdaa097e95022227f11459bd", func := "mercat/mercatkeep.Held", spec := "held", inPlace := ["slices.overlaps[*mercat/api.Order]"], unfollowed := true, recurses := true, apart := false }
def HeldSaid : Prop := heldRow.holds Try.pinned (OpenSpec.ofChange heldSpec)

/-- ITS FALSE NEIGHBOUR: 'it returns false'. Refute it at one input. -/
def heldWrong : ChangeSpec := { name := "held", fn := fun _ => fun
  | [d1, d2] => { results := [.lit (.bool false)], args := [d1, d2] }
  | _ => none }
def HeldWrongFalsely : Prop := heldRow.holds Try.pinned (OpenSpec.ofChange heldWrong)

/-- 'mercatkeep.Apart': WHATEVER THE INPUT: true; the input reads as it did. -/
def apartSpec : ChangeSpec := { name := "apart", fn := fun _ => fun
  | [d1, d2] => { results := [.lit (.bool true)], args := [d1, d2] }
  | _ => none }
def apartRow : OpenClaim := { program := "ytcfoobhihhndjaa", sum := "810805df4e973304bdb24cd9bef3272f53569de5cdaa097e95022227f11459bd", func := "mercat/mercatkeep.Apart", spec := "apart", inPlace := ["slices.overlaps[*mercat/api.Order]"], unfollowed := true, recurses := true, apart := false }
def ApartSaid : Prop := apartRow.holds Try.pinned (OpenSpec.ofChange apartSpec)

/-- ITS FALSE NEIGHBOUR: 'it returns false'. Refute it at one input. -/
def apartWrong : ChangeSpec := { name := "apart", fn := fun _ => fun
  | [d1, d2] => { results := [.lit (.bool false)], args := [d1, d2] }
  | _ => none }
def ApartWrongFalsely : Prop := apartRow.holds Try.pinned (OpenSpec.ofChange apartWrong)

/-- 'mercatkeep.Undone': WHATEVER THE INPUT: true; the input reads as it did. -/
def undoneSpec : ChangeSpec := { name := "undone", fn := fun _ => fun
  | [d1, d2, d3] => { results := [.lit (.bool true)], args := [d1, d2, d3] }
  | _ => none }
def undoneRow : OpenClaim := { program := "ytcfoobhihhndjaa", sum := "810805df4e973304bdb24cd9bef3272f53569de5cdaa097e95022227f11459bd", func := "mercat/mercatkeep.Undone", spec := "undone", inPlace := ["slices.overlaps[*mercat/api.Order]"], unfollowed := true, recurses := true, apart := false }
def UndoneSaid : Prop := undoneRow.holds Try.pinned (OpenSpec.ofChange undoneSpec)

/-- ITS FALSE NEIGHBOUR: 'it returns false'. Refute it at one input. -/
def undoneWrong : ChangeSpec := { name := "undone", fn := fun _ => fun
  | [d1, d2, d3] => { results := [.lit (.bool false)], args := [d1, d2, d3] }
  | _ => none }
def UndoneWrongFalsely : Prop := undoneRow.holds Try.pinned (OpenSpec.ofChange undoneWrong)

/- THE SECOND FORM. 'bulk': how many values and letters a reading holds, each counted each time it is reached (what is shared counts as often as it is met; a slice's spare places count too). A statement '..UptoSaid' is the law's where the arguments, and the package variables that the reading takes, are together of bulk at most 1048576: NARROWER than '..Said'. Prove '..Said' where nothing that the law and all that it calls make is longer than what came in: it says more and counts as full. Else prove '..UptoSaid'. A law counts once. -/
mutual
def uptoBulk {H : Type} : DataW H → Nat
  | .lit (.string bytes) => bytes.length + 1
  | .lit _ => 1
  | .nil => 1
  | .ptr d => uptoBulk d + 1
  | .slice elems spare => uptoBulkAll elems + uptoBulkAll spare + 1
  | .agg parts => uptoBulkAll parts + 1
  | .iface _ d => uptoBulk d + 1
  | .map entries => uptoBulkEntries entries + 1
  | .held _ => 1
def uptoBulkAll {H : Type} : List (DataW H) → Nat
  | [] => 0
  | d :: r => uptoBulk d + uptoBulkAll r
def uptoBulkEntries {H : Type} : List (Lit × DataW H) → Nat
  | [] => 0
  | x :: r => uptoBulkEntry x + uptoBulkEntries r
def uptoBulkEntry {H : Type} : Lit × DataW H → Nat
  | (.string bytes, d) => bytes.length + uptoBulk d + 1
  | (_, d) => uptoBulk d + 1
 end
def uptoSmall : (H : Type) → List (DataW H) → Bool := fun _ ds => decide (uptoBulkAll ds ≤ 1048576)
def OpenSpec.upto (s : _root_.Go.ChangeSpec) : _root_.Go.OpenSpec := { _root_.Go.OpenSpec.ofChange s with cond := some uptoSmall }

/-- 'mercatkeep.Shipped', WHERE WHAT IT READS IS OF BULK AT MOST 1048576: true; the input reads as it did. -/
def shippedUptoRow : OpenClaim := { program := "ytcfoobhihhndjaa", sum := "810805df4e973304bdb24cd9bef3272f53569de5cdaa097e95022227f11459bd", func := "mercat/mercatkeep.Shipped", spec := "shipped", inPlace := ["slices.overlaps[*mercat/api.Order]"], unfollowed := true, recurses := true, apart := false, narrowed := true }
def ShippedUptoSaid : Prop := shippedUptoRow.holds Try.pinned (OpenSpec.upto shippedSpec)

/-- 'mercatkeep.Best', WHERE WHAT IT READS IS OF BULK AT MOST 1048576: true; the input reads as it did. -/
def bestUptoRow : OpenClaim := { program := "ytcfoobhihhndjaa", sum := "810805df4e973304bdb24cd9bef3272f53569de5cdaa097e95022227f11459bd", func := "mercat/mercatkeep.Best", spec := "best", inPlace := ["slices.overlaps[*mercat/api.Order]"], unfollowed := true, recurses := true, apart := false, narrowed := true }
def BestUptoSaid : Prop := bestUptoRow.holds Try.pinned (OpenSpec.upto bestSpec)

/-- 'mercatkeep.Whole', WHERE WHAT IT READS IS OF BULK AT MOST 1048576: true; the input reads as it did. -/
def wholeUptoRow : OpenClaim := { program := "ytcfoobhihhndjaa", sum := "810805df4e973304bdb24cd9bef3272f53569de5cdaa097e95022227f11459bd", func := "mercat/mercatkeep.Whole", spec := "whole", inPlace := ["slices.overlaps[*mercat/api.Order]"], unfollowed := true, recurses := true, apart := false, narrowed := true }
def WholeUptoSaid : Prop := wholeUptoRow.holds Try.pinned (OpenSpec.upto wholeSpec)

/-- 'mercatkeep.Held', WHERE WHAT IT READS IS OF BULK AT MOST 1048576: true; the input reads as it did. -/
def heldUptoRow : OpenClaim := { program := "ytcfoobhihhndjaa", sum := "810805df4e973304bdb24cd9bef3272f53569de5cdaa097e95022227f11459bd", func := "mercat/mercatkeep.Held", spec := "held", inPlace := ["slices.overlaps[*mercat/api.Order]"], unfollowed := true, recurses := true, apart := false, narrowed := true }
def HeldUptoSaid : Prop := heldUptoRow.holds Try.pinned (OpenSpec.upto heldSpec)

/-- 'mercatkeep.Apart', WHERE WHAT IT READS IS OF BULK AT MOST 1048576: true; the input reads as it did. -/
def apartUptoRow : OpenClaim := { program := "ytcfoobhihhndjaa", sum := "810805df4e973304bdb24cd9bef3272f53569de5cdaa097e95022227f11459bd", func := "mercat/mercatkeep.Apart", spec := "apart", inPlace := ["slices.overlaps[*mercat/api.Order]"], unfollowed := true, recurses := true, apart := false, narrowed := true }
def ApartUptoSaid : Prop := apartUptoRow.holds Try.pinned (OpenSpec.upto apartSpec)

/-- 'mercatkeep.Undone', WHERE WHAT IT READS IS OF BULK AT MOST 1048576: true; the input reads as it did. -/
def undoneUptoRow : OpenClaim := { program := "ytcfoobhihhndjaa", sum := "810805df4e973304bdb24cd9bef3272f53569de5cdaa097e95022227f11459bd", func := "mercat/mercatkeep.Undone", spec := "undone", inPlace := ["slices.overlaps[*mercat/api.Order]"], unfollowed := true, recurses := true, apart := false, narrowed := true }
def UndoneUptoSaid : Prop := undoneUptoRow.holds Try.pinned (OpenSpec.upto undoneSpec)

end Rows
end Go.Proofs.Ytcfoobhihhndjaa
