/-
  No cell of these rows narrows 'for every input' (looked for: loops, veiled, ifaces, maps, wideKeys, modest, calm, conditions, laid).
  DERIVED. THE GIVEN ROWS OF THIS SEAT. 6 by the template 'for every input the law returns true; each argument reads behind the call as it read before'; 0 by the template 'total and deterministic' (their statements: YtnngbckahkalhaaTotals.lean).
  GIVEN WITH THE SEED: the statements are not yours to turn. If you find one false, say at which input.
  Laid BY PROGRAM, IN A SANDBOX (cutbox-rows.mjs): the forced cells as the released guide's own fill.sh prints them over the translation d4e7f3757db89e64… (all of the seat's roots in one cut). By AI agents, Wed Nov 11 2026. No macro, syntax, notation, axiom, sorry.
-/
import Derived.Test.YtnngbckahkalhaaChecked
import GoSem.Claim
import GoSem.ClaimJoined
import GoSem.ClaimMapViews
import Derived.JoinedTies
import Derived.KernelRfl
namespace Go.Proofs.Ytnngbckahkalhaa
/- THE CELL 'sum', in the pinned program and in every row, IS THE sha256 OF THE DUMP (.gsa) THAT YtnngbckahkalhaaProg.lean LOADS. Nothing in Lean hashes anything: it is a label: what it is worth is what the hold of that sum in a sandbox is worth. -/
noncomputable def Try.pinned : Pinned := { name := "ytnngbckahkalhaa", sum := "d4e7f3757db89e64e1195c66de63990ba08ab7b34b42fe5ed815c0fe90ab5386", checked := Try.checked }
namespace Rows
def none {H : Type} : Left H := { results := [], args := [] }

/-- 'fairleadlaw12.RtoPlays': WHATEVER THE INPUT: true; the input reads as it did. -/
def rtoPlaysSpec : ChangeSpec := { name := "rtoPlays", fn := fun _ => fun
  | [d1, d2, d3, d4] => { results := [.lit (.bool true)], args := [d1, d2, d3, d4] }
  | _ => none }
def rtoPlaysRow : OpenClaim := { program := "ytnngbckahkalhaa", sum := "d4e7f3757db89e64e1195c66de63990ba08ab7b34b42fe5ed815c0fe90ab5386", func := "fairlead/fairleadlaw12.RtoPlays", spec := "rtoPlays", apart := false }
def RtoPlaysSaid : Prop := rtoPlaysRow.holds Try.pinned (OpenSpec.ofChange rtoPlaysSpec)

/-- ITS FALSE NEIGHBOUR: 'it returns false'. Refute it at one input. -/
def rtoPlaysWrong : ChangeSpec := { name := "rtoPlays", fn := fun _ => fun
  | [d1, d2, d3, d4] => { results := [.lit (.bool false)], args := [d1, d2, d3, d4] }
  | _ => none }
def RtoPlaysWrongFalsely : Prop := rtoPlaysRow.holds Try.pinned (OpenSpec.ofChange rtoPlaysWrong)

/-- 'fairleadlaw12.RtoBounds': WHATEVER THE INPUT: true; the input reads as it did. -/
def rtoBoundsSpec : ChangeSpec := { name := "rtoBounds", fn := fun _ => fun
  | [d1, d2, d3, d4] => { results := [.lit (.bool true)], args := [d1, d2, d3, d4] }
  | _ => none }
def rtoBoundsRow : OpenClaim := { program := "ytnngbckahkalhaa", sum := "d4e7f3757db89e64e1195c66de63990ba08ab7b34b42fe5ed815c0fe90ab5386", func := "fairlead/fairleadlaw12.RtoBounds", spec := "rtoBounds", apart := false }
def RtoBoundsSaid : Prop := rtoBoundsRow.holds Try.pinned (OpenSpec.ofChange rtoBoundsSpec)

/-- ITS FALSE NEIGHBOUR: 'it returns false'. Refute it at one input. -/
def rtoBoundsWrong : ChangeSpec := { name := "rtoBounds", fn := fun _ => fun
  | [d1, d2, d3, d4] => { results := [.lit (.bool false)], args := [d1, d2, d3, d4] }
  | _ => none }
def RtoBoundsWrongFalsely : Prop := rtoBoundsRow.holds Try.pinned (OpenSpec.ofChange rtoBoundsWrong)

/-- 'fairleadlaw12.RtoSteady': WHATEVER THE INPUT: true; the input reads as it did. -/
def rtoSteadySpec : ChangeSpec := { name := "rtoSteady", fn := fun _ => fun
  | [d1, d2, d3, d4] => { results := [.lit (.bool true)], args := [d1, d2, d3, d4] }
  | _ => none }
def rtoSteadyRow : OpenClaim := { program := "ytnngbckahkalhaa", sum := "d4e7f3757db89e64e1195c66de63990ba08ab7b34b42fe5ed815c0fe90ab5386", func := "fairlead/fairleadlaw12.RtoSteady", spec := "rtoSteady", apart := false }
def RtoSteadySaid : Prop := rtoSteadyRow.holds Try.pinned (OpenSpec.ofChange rtoSteadySpec)

/-- ITS FALSE NEIGHBOUR: 'it returns false'. Refute it at one input. -/
def rtoSteadyWrong : ChangeSpec := { name := "rtoSteady", fn := fun _ => fun
  | [d1, d2, d3, d4] => { results := [.lit (.bool false)], args := [d1, d2, d3, d4] }
  | _ => none }
def RtoSteadyWrongFalsely : Prop := rtoSteadyRow.holds Try.pinned (OpenSpec.ofChange rtoSteadyWrong)

/-- 'fairleadlaw12.RtoLater': WHATEVER THE INPUT: true; the input reads as it did. -/
def rtoLaterSpec : ChangeSpec := { name := "rtoLater", fn := fun _ => fun
  | [d1, d2, d3, d4] => { results := [.lit (.bool true)], args := [d1, d2, d3, d4] }
  | _ => none }
def rtoLaterRow : OpenClaim := { program := "ytnngbckahkalhaa", sum := "d4e7f3757db89e64e1195c66de63990ba08ab7b34b42fe5ed815c0fe90ab5386", func := "fairlead/fairleadlaw12.RtoLater", spec := "rtoLater", apart := false }
def RtoLaterSaid : Prop := rtoLaterRow.holds Try.pinned (OpenSpec.ofChange rtoLaterSpec)

/-- ITS FALSE NEIGHBOUR: 'it returns false'. Refute it at one input. -/
def rtoLaterWrong : ChangeSpec := { name := "rtoLater", fn := fun _ => fun
  | [d1, d2, d3, d4] => { results := [.lit (.bool false)], args := [d1, d2, d3, d4] }
  | _ => none }
def RtoLaterWrongFalsely : Prop := rtoLaterRow.holds Try.pinned (OpenSpec.ofChange rtoLaterWrong)

/-- 'fairleadlaw12.RtoFirst': WHATEVER THE INPUT: true; the input reads as it did. -/
def rtoFirstSpec : ChangeSpec := { name := "rtoFirst", fn := fun _ => fun
  | [d1, d2, d3, d4, d5] => { results := [.lit (.bool true)], args := [d1, d2, d3, d4, d5] }
  | _ => none }
def rtoFirstRow : OpenClaim := { program := "ytnngbckahkalhaa", sum := "d4e7f3757db89e64e1195c66de63990ba08ab7b34b42fe5ed815c0fe90ab5386", func := "fairlead/fairleadlaw12.RtoFirst", spec := "rtoFirst", apart := false }
def RtoFirstSaid : Prop := rtoFirstRow.holds Try.pinned (OpenSpec.ofChange rtoFirstSpec)

/-- ITS FALSE NEIGHBOUR: 'it returns false'. Refute it at one input. -/
def rtoFirstWrong : ChangeSpec := { name := "rtoFirst", fn := fun _ => fun
  | [d1, d2, d3, d4, d5] => { results := [.lit (.bool false)], args := [d1, d2, d3, d4, d5] }
  | _ => none }
def RtoFirstWrongFalsely : Prop := rtoFirstRow.holds Try.pinned (OpenSpec.ofChange rtoFirstWrong)

/-- 'fairleadlaw12.RtoNil': WHATEVER THE INPUT: true; the input reads as it did. -/
def rtoNilSpec : ChangeSpec := { name := "rtoNil", fn := fun _ => fun
  | [d] => { results := [.lit (.bool true)], args := [d] }
  | _ => none }
def rtoNilRow : OpenClaim := { program := "ytnngbckahkalhaa", sum := "d4e7f3757db89e64e1195c66de63990ba08ab7b34b42fe5ed815c0fe90ab5386", func := "fairlead/fairleadlaw12.RtoNil", spec := "rtoNil", apart := false }
def RtoNilSaid : Prop := rtoNilRow.holds Try.pinned (OpenSpec.ofChange rtoNilSpec)

/-- ITS FALSE NEIGHBOUR: 'it returns false'. Refute it at one input. -/
def rtoNilWrong : ChangeSpec := { name := "rtoNil", fn := fun _ => fun
  | [d] => { results := [.lit (.bool false)], args := [d] }
  | _ => none }
def RtoNilWrongFalsely : Prop := rtoNilRow.holds Try.pinned (OpenSpec.ofChange rtoNilWrong)

/- THE SECOND FORM. 'bulk': how many values and letters a reading holds, each counted each time it is reached (what is shared counts as often as it is met; a slice's spare places count too). A statement '..UptoSaid' is the law's where the arguments, and the package variables that the reading takes, are together of bulk at most 1048576: NARROWER than '..Said'. Prove '..Said' where nothing that the law and all that it calls make is longer than what came in: it says more and counts as full. Else prove '..UptoSaid'. A law counts once. -/
mutual
def uptoBulk {H : Type} : DataW H → Nat
  | .lit (.string bytes) => bytes.length + 1
  | .lit _ => 1
  | .nil => 1
  | .ptr d => uptoBulk d + 1
  | .slice elems spare => uptoBulkAll elems + uptoBulkAll spare + 1
  | .agg parts => uptoBulkAll parts + 1
  | .iface _ d => uptoBulk d + 1
  | .map entries => uptoBulkEntries entries + 1
  | .held _ => 1
def uptoBulkAll {H : Type} : List (DataW H) → Nat
  | [] => 0
  | d :: r => uptoBulk d + uptoBulkAll r
def uptoBulkEntries {H : Type} : List (Lit × DataW H) → Nat
  | [] => 0
  | x :: r => uptoBulkEntry x + uptoBulkEntries r
def uptoBulkEntry {H : Type} : Lit × DataW H → Nat
  | (.string bytes, d) => bytes.length + uptoBulk d + 1
  | (_, d) => uptoBulk d + 1
 end
def uptoSmall : (H : Type) → List (DataW H) → Bool := fun _ ds => decide (uptoBulkAll ds ≤ 1048576)
def OpenSpec.upto (s : _root_.Go.ChangeSpec) : _root_.Go.OpenSpec := { _root_.Go.OpenSpec.ofChange s with cond := some uptoSmall }

/-- 'fairleadlaw12.RtoPlays', WHERE WHAT IT READS IS OF BULK AT MOST 1048576: true; the input reads as it did. -/
def rtoPlaysUptoRow : OpenClaim := { program := "ytnngbckahkalhaa", sum := "d4e7f3757db89e64e1195c66de63990ba08ab7b34b42fe5ed815c0fe90ab5386", func := "fairlead/fairleadlaw12.RtoPlays", spec := "rtoPlays", apart := false, narrowed := true }
def RtoPlaysUptoSaid : Prop := rtoPlaysUptoRow.holds Try.pinned (OpenSpec.upto rtoPlaysSpec)

/-- 'fairleadlaw12.RtoBounds', WHERE WHAT IT READS IS OF BULK AT MOST 1048576: true; the input reads as it did. -/
def rtoBoundsUptoRow : OpenClaim := { program := "ytnngbckahkalhaa", sum := "d4e7f3757db89e64e1195c66de63990ba08ab7b34b42fe5ed815c0fe90ab5386", func := "fairlead/fairleadlaw12.RtoBounds", spec := "rtoBounds", apart := false, narrowed := true }
def RtoBoundsUptoSaid : Prop := rtoBoundsUptoRow.holds Try.pinned (OpenSpec.upto rtoBoundsSpec)

/-- 'fairleadlaw12.RtoSteady', WHERE WHAT IT READS IS OF BULK AT MOST 1048576: true; the input reads as it did. -/
def rtoSteadyUptoRow : OpenClaim := { program := "ytnngbckahkalhaa", sum := "d4e7f3757db89e64e1195c66de63990ba08ab7b34b42fe5ed815c0fe90ab5386", func := "fairlead/fairleadlaw12.RtoSteady", spec := "rtoSteady", apart := false, narrowed := true }
def RtoSteadyUptoSaid : Prop := rtoSteadyUptoRow.holds Try.pinned (OpenSpec.upto rtoSteadySpec)

/-- 'fairleadlaw12.RtoLater', WHERE WHAT IT READS IS OF BULK AT MOST 1048576: true; the input reads as it did. -/
def rtoLaterUptoRow : OpenClaim := { program := "ytnngbckahkalhaa", sum := "d4e7f3757db89e64e1195c66de63990ba08ab7b34b42fe5ed815c0fe90ab5386", func := "fairlead/fairleadlaw12.RtoLater", spec := "rtoLater", apart := false, narrowed := true }
def RtoLaterUptoSaid : Prop := rtoLaterUptoRow.holds Try.pinned (OpenSpec.upto rtoLaterSpec)

/-- 'fairleadlaw12.RtoFirst', WHERE WHAT IT READS IS OF BULK AT MOST 1048576: true; the input reads as it did. -/
def rtoFirstUptoRow : OpenClaim := { program := "ytnngbckahkalhaa", sum := "d4e7f3757db89e64e1195c66de63990ba08ab7b34b42fe5ed815c0fe90ab5386", func := "fairlead/fairleadlaw12.RtoFirst", spec := "rtoFirst", apart := false, narrowed := true }
def RtoFirstUptoSaid : Prop := rtoFirstUptoRow.holds Try.pinned (OpenSpec.upto rtoFirstSpec)

/-- 'fairleadlaw12.RtoNil', WHERE WHAT IT READS IS OF BULK AT MOST 1048576: true; the input reads as it did. -/
def rtoNilUptoRow : OpenClaim := { program := "ytnngbckahkalhaa", sum := "d4e7f3757db89e64e1195c66de63990ba08ab7b34b42fe5ed815c0fe90ab5386", func := "fairlead/fairleadlaw12.RtoNil", spec := "rtoNil", apart := false, narrowed := true }
def RtoNilUptoSaid : Prop := rtoNilUptoRow.holds Try.pinned (OpenSpec.upto rtoNilSpec)

end Rows
end Go.Proofs.Ytnngbckahkalhaa
