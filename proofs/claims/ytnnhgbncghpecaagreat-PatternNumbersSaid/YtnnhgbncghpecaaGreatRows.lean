/-
  NARROWER THAN 'FOR EVERY INPUT', by the rows' own cells (each row's printed sentence says how): PatternMatches: loops.
  DERIVED. THE GIVEN ROWS OF THIS SEAT. 2 by the template 'for every input the law returns true; each argument reads behind the call as it read before'; 0 by the template 'total and deterministic' (their statements: YtnnhgbncghpecaaGreatTotals.lean).
  GIVEN WITH THE SEED: the statements are not yours to turn. If you find one false, say at which input.
  Laid BY PROGRAM, IN A SANDBOX (cutbox-rows.mjs): the forced cells as the released guide's own fill.sh prints them over the translation 1bedd9a5c7ae7aa0… (all of the seat's roots in one cut). By AI agents, Wed Nov 11 2026. No macro, syntax, notation, axiom, sorry.
-/
import Derived.Test.YtnnhgbncghpecaaGreatChecked
import GoSem.Claim
import GoSem.ClaimJoined
import GoSem.ClaimMapViews
import Derived.JoinedTies
import Derived.KernelRfl
namespace Go.Proofs.YtnnhgbncghpecaaGreat
/- THE CELL 'sum', in the pinned program and in every row, IS THE sha256 OF THE DUMP (.gsa) THAT YtnnhgbncghpecaaGreatProg.lean LOADS. Nothing in Lean hashes anything: it is a label: what it is worth is what the hold of that sum in a sandbox is worth. -/
noncomputable def Tryz.pinned : Pinned := { name := "ytnnhgbncghpecaagreat", sum := "1bedd9a5c7ae7aa029dff72a5888c373bf3e43b4cd01db617c408e91607e811a", checked := Tryz.checked }
namespace Rows
def none {H : Type} : Left H := { results := [], args := [] }

/-- 'ropewalklaw10.PatternMatches': WHATEVER THE INPUT: true; the input reads as it did. -/
def patternMatchesSpec : ChangeSpec := { name := "patternMatches", fn := fun _ => fun
  | [d1, d2, d3, d4] => { results := [.lit (.bool true)], args := [d1, d2, d3, d4] }
  | _ => none }
def patternMatchesRow : OpenClaim := { program := "ytnnhgbncghpecaagreat", sum := "1bedd9a5c7ae7aa029dff72a5888c373bf3e43b4cd01db617c408e91607e811a", func := "ropewalk/ropewalklaw10.PatternMatches", spec := "patternMatches", unfollowed := true, recurses := true, loops := true, apart := false }
def PatternMatchesSaid : Prop := patternMatchesRow.holds Tryz.pinned (OpenSpec.ofChange patternMatchesSpec)

/-- ITS FALSE NEIGHBOUR: 'it returns false'. Refute it at one input. -/
def patternMatchesWrong : ChangeSpec := { name := "patternMatches", fn := fun _ => fun
  | [d1, d2, d3, d4] => { results := [.lit (.bool false)], args := [d1, d2, d3, d4] }
  | _ => none }
def PatternMatchesWrongFalsely : Prop := patternMatchesRow.holds Tryz.pinned (OpenSpec.ofChange patternMatchesWrong)

/-- 'ropewalklaw10.PatternNumbers': WHATEVER THE INPUT: true; the input reads as it did. -/
def patternNumbersSpec : ChangeSpec := { name := "patternNumbers", fn := fun _ => fun
  | [] => { results := [.lit (.bool true)], args := [] }
  | _ => none }
def patternNumbersRow : OpenClaim := { program := "ytnnhgbncghpecaagreat", sum := "1bedd9a5c7ae7aa029dff72a5888c373bf3e43b4cd01db617c408e91607e811a", func := "ropewalk/ropewalklaw10.PatternNumbers", spec := "patternNumbers", unfollowed := true, recurses := true, apart := false }
def PatternNumbersSaid : Prop := patternNumbersRow.holds Tryz.pinned (OpenSpec.ofChange patternNumbersSpec)

/-- ITS FALSE NEIGHBOUR: 'it returns false'. Refute it at one input. -/
def patternNumbersWrong : ChangeSpec := { name := "patternNumbers", fn := fun _ => fun
  | [] => { results := [.lit (.bool false)], args := [] }
  | _ => none }
def PatternNumbersWrongFalsely : Prop := patternNumbersRow.holds Tryz.pinned (OpenSpec.ofChange patternNumbersWrong)

/- THE SECOND FORM. 'bulk': how many values and letters a reading holds, each counted each time it is reached (what is shared counts as often as it is met; a slice's spare places count too). A statement '..UptoSaid' is the law's where the arguments, and the package variables that the reading takes, are together of bulk at most 1048576: NARROWER than '..Said'. Prove '..Said' where nothing that the law and all that it calls make is longer than what came in: it says more and counts as full. Else prove '..UptoSaid'. A law counts once. -/
mutual
def uptoBulk {H : Type} : DataW H → Nat
  | .lit (.string bytes) => bytes.length + 1
  | .lit _ => 1
  | .nil => 1
  | .ptr d => uptoBulk d + 1
  | .slice elems spare => uptoBulkAll elems + uptoBulkAll spare + 1
  | .agg parts => uptoBulkAll parts + 1
  | .iface _ d => uptoBulk d + 1
  | .map entries => uptoBulkEntries entries + 1
  | .held _ => 1
def uptoBulkAll {H : Type} : List (DataW H) → Nat
  | [] => 0
  | d :: r => uptoBulk d + uptoBulkAll r
def uptoBulkEntries {H : Type} : List (Lit × DataW H) → Nat
  | [] => 0
  | x :: r => uptoBulkEntry x + uptoBulkEntries r
def uptoBulkEntry {H : Type} : Lit × DataW H → Nat
  | (.string bytes, d) => bytes.length + uptoBulk d + 1
  | (_, d) => uptoBulk d + 1
 end
def uptoSmall : (H : Type) → List (DataW H) → Bool := fun _ ds => decide (uptoBulkAll ds ≤ 1048576)
def OpenSpec.upto (s : _root_.Go.ChangeSpec) : _root_.Go.OpenSpec := { _root_.Go.OpenSpec.ofChange s with cond := some uptoSmall }

/-- 'ropewalklaw10.PatternMatches', WHERE WHAT IT READS IS OF BULK AT MOST 1048576: true; the input reads as it did. -/
def patternMatchesUptoRow : OpenClaim := { program := "ytnnhgbncghpecaagreat", sum := "1bedd9a5c7ae7aa029dff72a5888c373bf3e43b4cd01db617c408e91607e811a", func := "ropewalk/ropewalklaw10.PatternMatches", spec := "patternMatches", unfollowed := true, recurses := true, loops := true, apart := false, narrowed := true }
def PatternMatchesUptoSaid : Prop := patternMatchesUptoRow.holds Tryz.pinned (OpenSpec.upto patternMatchesSpec)

/-- 'ropewalklaw10.PatternNumbers', WHERE WHAT IT READS IS OF BULK AT MOST 1048576: true; the input reads as it did. -/
def patternNumbersUptoRow : OpenClaim := { program := "ytnnhgbncghpecaagreat", sum := "1bedd9a5c7ae7aa029dff72a5888c373bf3e43b4cd01db617c408e91607e811a", func := "ropewalk/ropewalklaw10.PatternNumbers", spec := "patternNumbers", unfollowed := true, recurses := true, apart := false, narrowed := true }
def PatternNumbersUptoSaid : Prop := patternNumbersUptoRow.holds Tryz.pinned (OpenSpec.upto patternNumbersSpec)

end Rows
end Go.Proofs.YtnnhgbncghpecaaGreat
