/-
  NARROWER THAN 'FOR EVERY INPUT', by the rows' own cells (each row's printed sentence says how): PatternSome: loops · PatternFills: loops.
  DERIVED. THE GIVEN ROWS OF THIS SEAT. 2 by the template 'for every input the law returns true; each argument reads behind the call as it read before'; 0 by the template 'total and deterministic' (their statements: YtjcmbljpjimdiaaTotals.lean).
  GIVEN WITH THE SEED: the statements are not yours to turn. If you find one false, say at which input.
  Laid BY PROGRAM, IN A SANDBOX (cutbox-rows.mjs): the forced cells as the released guide's own fill.sh prints them over the translation 3d74c60db8c17a97… (all of the seat's roots in one cut). By AI agents, Wed Nov 11 2026. No macro, syntax, notation, axiom, sorry.
-/
import Derived.Test.YtjcmbljpjimdiaaChecked
import GoSem.Claim
import GoSem.ClaimJoined
import GoSem.ClaimMapViews
import Derived.JoinedTies
import Derived.KernelRfl
namespace Go.Proofs.Ytjcmbljpjimdiaa
/- THE CELL 'sum', in the pinned program and in every row, IS THE sha256 OF THE DUMP (.gsa) THAT YtjcmbljpjimdiaaProg.lean LOADS. Nothing in Lean hashes anything: it is a label: what it is worth is what the hold of that sum in a sandbox is worth. -/
noncomputable def Try.pinned : Pinned := { name := "ytjcmbljpjimdiaa", sum := "3d74c60db8c17a975fb8c0e134895f447ddb78b0016c2808ab02d073641ddd4e", checked := Try.checked }
namespace Rows
def none {H : Type} : Left H := { results := [], args := [] }

/-- 'ropewalklaw10.PatternSome': WHATEVER THE INPUT: true; the input reads as it did. -/
def patternSomeSpec : ChangeSpec := { name := "patternSome", fn := fun _ => fun
  | [d1, d2, d3, d4] => { results := [.lit (.bool true)], args := [d1, d2, d3, d4] }
  | _ => none }
def patternSomeRow : OpenClaim := { program := "ytjcmbljpjimdiaa", sum := "3d74c60db8c17a975fb8c0e134895f447ddb78b0016c2808ab02d073641ddd4e", func := "ropewalk/ropewalklaw10.PatternSome", spec := "patternSome", unfollowed := true, recurses := true, loops := true, apart := false }
def PatternSomeSaid : Prop := patternSomeRow.holds Try.pinned (OpenSpec.ofChange patternSomeSpec)

/-- ITS FALSE NEIGHBOUR: 'it returns false'. Refute it at one input. -/
def patternSomeWrong : ChangeSpec := { name := "patternSome", fn := fun _ => fun
  | [d1, d2, d3, d4] => { results := [.lit (.bool false)], args := [d1, d2, d3, d4] }
  | _ => none }
def PatternSomeWrongFalsely : Prop := patternSomeRow.holds Try.pinned (OpenSpec.ofChange patternSomeWrong)

/-- 'ropewalklaw10.PatternFills': WHATEVER THE INPUT: true; the input reads as it did. -/
def patternFillsSpec : ChangeSpec := { name := "patternFills", fn := fun _ => fun
  | [d1, d2, d3, d4, d5] => { results := [.lit (.bool true)], args := [d1, d2, d3, d4, d5] }
  | _ => none }
def patternFillsRow : OpenClaim := { program := "ytjcmbljpjimdiaa", sum := "3d74c60db8c17a975fb8c0e134895f447ddb78b0016c2808ab02d073641ddd4e", func := "ropewalk/ropewalklaw10.PatternFills", spec := "patternFills", unfollowed := true, recurses := true, loops := true, apart := false }
def PatternFillsSaid : Prop := patternFillsRow.holds Try.pinned (OpenSpec.ofChange patternFillsSpec)

/-- ITS FALSE NEIGHBOUR: 'it returns false'. Refute it at one input. -/
def patternFillsWrong : ChangeSpec := { name := "patternFills", fn := fun _ => fun
  | [d1, d2, d3, d4, d5] => { results := [.lit (.bool false)], args := [d1, d2, d3, d4, d5] }
  | _ => none }
def PatternFillsWrongFalsely : Prop := patternFillsRow.holds Try.pinned (OpenSpec.ofChange patternFillsWrong)

/- THE SECOND FORM. 'bulk': how many values and letters a reading holds, each counted each time it is reached (what is shared counts as often as it is met; a slice's spare places count too). A statement '..UptoSaid' is the law's where the arguments, and the package variables that the reading takes, are together of bulk at most 1048576: NARROWER than '..Said'. Prove '..Said' where nothing that the law and all that it calls make is longer than what came in: it says more and counts as full. Else prove '..UptoSaid'. A law counts once. -/
mutual
def uptoBulk {H : Type} : DataW H → Nat
  | .lit (.string bytes) => bytes.length + 1
  | .lit _ => 1
  | .nil => 1
  | .ptr d => uptoBulk d + 1
  | .slice elems spare => uptoBulkAll elems + uptoBulkAll spare + 1
  | .agg parts => uptoBulkAll parts + 1
  | .iface _ d => uptoBulk d + 1
  | .map entries => uptoBulkEntries entries + 1
  | .held _ => 1
def uptoBulkAll {H : Type} : List (DataW H) → Nat
  | [] => 0
  | d :: r => uptoBulk d + uptoBulkAll r
def uptoBulkEntries {H : Type} : List (Lit × DataW H) → Nat
  | [] => 0
  | x :: r => uptoBulkEntry x + uptoBulkEntries r
def uptoBulkEntry {H : Type} : Lit × DataW H → Nat
  | (.string bytes, d) => bytes.length + uptoBulk d + 1
  | (_, d) => uptoBulk d + 1
 end
def uptoSmall : (H : Type) → List (DataW H) → Bool := fun _ ds => decide (uptoBulkAll ds ≤ 1048576)
def OpenSpec.upto (s : _root_.Go.ChangeSpec) : _root_.Go.OpenSpec := { _root_.Go.OpenSpec.ofChange s with cond := some uptoSmall }

/-- 'ropewalklaw10.PatternSome', WHERE WHAT IT READS IS OF BULK AT MOST 1048576: true; the input reads as it did. -/
def patternSomeUptoRow : OpenClaim := { program := "ytjcmbljpjimdiaa", sum := "3d74c60db8c17a975fb8c0e134895f447ddb78b0016c2808ab02d073641ddd4e", func := "ropewalk/ropewalklaw10.PatternSome", spec := "patternSome", unfollowed := true, recurses := true, loops := true, apart := false, narrowed := true }
def PatternSomeUptoSaid : Prop := patternSomeUptoRow.holds Try.pinned (OpenSpec.upto patternSomeSpec)

/-- 'ropewalklaw10.PatternFills', WHERE WHAT IT READS IS OF BULK AT MOST 1048576: true; the input reads as it did. -/
def patternFillsUptoRow : OpenClaim := { program := "ytjcmbljpjimdiaa", sum := "3d74c60db8c17a975fb8c0e134895f447ddb78b0016c2808ab02d073641ddd4e", func := "ropewalk/ropewalklaw10.PatternFills", spec := "patternFills", unfollowed := true, recurses := true, loops := true, apart := false, narrowed := true }
def PatternFillsUptoSaid : Prop := patternFillsUptoRow.holds Try.pinned (OpenSpec.upto patternFillsSpec)

end Rows
end Go.Proofs.Ytjcmbljpjimdiaa
