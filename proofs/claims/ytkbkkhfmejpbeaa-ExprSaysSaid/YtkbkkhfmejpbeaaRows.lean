/-
  NARROWER THAN 'FOR EVERY INPUT', by the rows' own cells (each row's printed sentence says how): ExprSays: loops · ExprAll: loops · ExprPuts: loops.
  DERIVED. THE GIVEN ROWS OF THIS SEAT. 3 by the template 'for every input the law returns true; each argument reads behind the call as it read before'; 0 by the template 'total and deterministic' (their statements: YtkbkkhfmejpbeaaTotals.lean).
  GIVEN WITH THE SEED: the statements are not yours to turn. If you find one false, say at which input.
  Laid BY PROGRAM, IN A SANDBOX (cutbox-rows.mjs): the forced cells as the released guide's own fill.sh prints them over the translation 9748c0dc552cd849… (all of the seat's roots in one cut). By AI agents, Wed Nov 11 2026. No macro, syntax, notation, axiom, sorry.
-/
import Derived.Test.YtkbkkhfmejpbeaaChecked
import GoSem.Claim
import GoSem.ClaimJoined
import GoSem.ClaimMapViews
import Derived.JoinedTies
import Derived.KernelRfl
namespace Go.Proofs.Ytkbkkhfmejpbeaa
/- THE CELL 'sum', in the pinned program and in every row, IS THE sha256 OF THE DUMP (.gsa) THAT YtkbkkhfmejpbeaaProg.lean LOADS. Nothing in Lean hashes anything: it is a label: what it is worth is what the hold of that sum in a sandbox is worth. -/
noncomputable def Try.pinned : Pinned := { name := "ytkbkkhfmejpbeaa", sum := "9748c0dc552cd8496d42f505850555fdaa9f6d27deb407742e7970eaecdbbfd6", checked := Try.checked }
namespace Rows
def none {H : Type} : Left H := { results := [], args := [] }

/-- 'ropewalklaw09.ExprSays': WHATEVER THE INPUT: true; the input reads as it did. -/
def exprSaysSpec : ChangeSpec := { name := "exprSays", fn := fun _ => fun
  | [d1, d2] => { results := [.lit (.bool true)], args := [d1, d2] }
  | _ => none }
def exprSaysRow : OpenClaim := { program := "ytkbkkhfmejpbeaa", sum := "9748c0dc552cd8496d42f505850555fdaa9f6d27deb407742e7970eaecdbbfd6", func := "ropewalk/ropewalklaw09.ExprSays", spec := "exprSays", unfollowed := true, recurses := true, loops := true, apart := false }
def ExprSaysSaid : Prop := exprSaysRow.holds Try.pinned (OpenSpec.ofChange exprSaysSpec)

/-- ITS FALSE NEIGHBOUR: 'it returns false'. Refute it at one input. -/
def exprSaysWrong : ChangeSpec := { name := "exprSays", fn := fun _ => fun
  | [d1, d2] => { results := [.lit (.bool false)], args := [d1, d2] }
  | _ => none }
def ExprSaysWrongFalsely : Prop := exprSaysRow.holds Try.pinned (OpenSpec.ofChange exprSaysWrong)

/-- 'ropewalklaw09.ExprAll': WHATEVER THE INPUT: true; the input reads as it did. -/
def exprAllSpec : ChangeSpec := { name := "exprAll", fn := fun _ => fun
  | [d1, d2] => { results := [.lit (.bool true)], args := [d1, d2] }
  | _ => none }
def exprAllRow : OpenClaim := { program := "ytkbkkhfmejpbeaa", sum := "9748c0dc552cd8496d42f505850555fdaa9f6d27deb407742e7970eaecdbbfd6", func := "ropewalk/ropewalklaw09.ExprAll", spec := "exprAll", unfollowed := true, recurses := true, loops := true, apart := false }
def ExprAllSaid : Prop := exprAllRow.holds Try.pinned (OpenSpec.ofChange exprAllSpec)

/-- ITS FALSE NEIGHBOUR: 'it returns false'. Refute it at one input. -/
def exprAllWrong : ChangeSpec := { name := "exprAll", fn := fun _ => fun
  | [d1, d2] => { results := [.lit (.bool false)], args := [d1, d2] }
  | _ => none }
def ExprAllWrongFalsely : Prop := exprAllRow.holds Try.pinned (OpenSpec.ofChange exprAllWrong)

/-- 'ropewalklaw09.ExprPuts': WHATEVER THE INPUT: true; the input reads as it did. -/
def exprPutsSpec : ChangeSpec := { name := "exprPuts", fn := fun _ => fun
  | [d1, d2, d3, d4] => { results := [.lit (.bool true)], args := [d1, d2, d3, d4] }
  | _ => none }
def exprPutsRow : OpenClaim := { program := "ytkbkkhfmejpbeaa", sum := "9748c0dc552cd8496d42f505850555fdaa9f6d27deb407742e7970eaecdbbfd6", func := "ropewalk/ropewalklaw09.ExprPuts", spec := "exprPuts", unfollowed := true, recurses := true, loops := true, apart := false }
def ExprPutsSaid : Prop := exprPutsRow.holds Try.pinned (OpenSpec.ofChange exprPutsSpec)

/-- ITS FALSE NEIGHBOUR: 'it returns false'. Refute it at one input. -/
def exprPutsWrong : ChangeSpec := { name := "exprPuts", fn := fun _ => fun
  | [d1, d2, d3, d4] => { results := [.lit (.bool false)], args := [d1, d2, d3, d4] }
  | _ => none }
def ExprPutsWrongFalsely : Prop := exprPutsRow.holds Try.pinned (OpenSpec.ofChange exprPutsWrong)

/- THE SECOND FORM. 'bulk': how many values and letters a reading holds, each counted each time it is reached (what is shared counts as often as it is met; a slice's spare places count too). A statement '..UptoSaid' is the law's where the arguments, and the package variables that the reading takes, are together of bulk at most 1048576: NARROWER than '..Said'. Prove '..Said' where nothing that the law and all that it calls make is longer than what came in: it says more and counts as full. Else prove '..UptoSaid'. A law counts once. -/
mutual
def uptoBulk {H : Type} : DataW H → Nat
  | .lit (.string bytes) => bytes.length + 1
  | .lit _ => 1
  | .nil => 1
  | .ptr d => uptoBulk d + 1
  | .slice elems spare => uptoBulkAll elems + uptoBulkAll spare + 1
  | .agg parts => uptoBulkAll parts + 1
  | .iface _ d => uptoBulk d + 1
  | .map entries => uptoBulkEntries entries + 1
  | .held _ => 1
def uptoBulkAll {H : Type} : List (DataW H) → Nat
  | [] => 0
  | d :: r => uptoBulk d + uptoBulkAll r
def uptoBulkEntries {H : Type} : List (Lit × DataW H) → Nat
  | [] => 0
  | x :: r => uptoBulkEntry x + uptoBulkEntries r
def uptoBulkEntry {H : Type} : Lit × DataW H → Nat
  | (.string bytes, d) => bytes.length + uptoBulk d + 1
  | (_, d) => uptoBulk d + 1
 end
def uptoSmall : (H : Type) → List (DataW H) → Bool := fun _ ds => decide (uptoBulkAll ds ≤ 1048576)
def OpenSpec.upto (s : _root_.Go.ChangeSpec) : _root_.Go.OpenSpec := { _root_.Go.OpenSpec.ofChange s with cond := some uptoSmall }

/-- 'ropewalklaw09.ExprSays', WHERE WHAT IT READS IS OF BULK AT MOST 1048576: true; the input reads as it did. -/
def exprSaysUptoRow : OpenClaim := { program := "ytkbkkhfmejpbeaa", sum := "9748c0dc552cd8496d42f505850555fdaa9f6d27deb407742e7970eaecdbbfd6", func := "ropewalk/ropewalklaw09.ExprSays", spec := "exprSays", unfollowed := true, recurses := true, loops := true, apart := false, narrowed := true }
def ExprSaysUptoSaid : Prop := exprSaysUptoRow.holds Try.pinned (OpenSpec.upto exprSaysSpec)

/-- 'ropewalklaw09.ExprAll', WHERE WHAT IT READS IS OF BULK AT MOST 1048576: true; the input reads as it did. -/
def exprAllUptoRow : OpenClaim := { program := "ytkbkkhfmejpbeaa", sum := "9748c0dc552cd8496d42f505850555fdaa9f6d27deb407742e7970eaecdbbfd6", func := "ropewalk/ropewalklaw09.ExprAll", spec := "exprAll", unfollowed := true, recurses := true, loops := true, apart := false, narrowed := true }
def ExprAllUptoSaid : Prop := exprAllUptoRow.holds Try.pinned (OpenSpec.upto exprAllSpec)

/-- 'ropewalklaw09.ExprPuts', WHERE WHAT IT READS IS OF BULK AT MOST 1048576: true; the input reads as it did. -/
def exprPutsUptoRow : OpenClaim := { program := "ytkbkkhfmejpbeaa", sum := "9748c0dc552cd8496d42f505850555fdaa9f6d27deb407742e7970eaecdbbfd6", func := "ropewalk/ropewalklaw09.ExprPuts", spec := "exprPuts", unfollowed := true, recurses := true, loops := true, apart := false, narrowed := true }
def ExprPutsUptoSaid : Prop := exprPutsUptoRow.holds Try.pinned (OpenSpec.upto exprPutsSpec)

end Rows
end Go.Proofs.Ytkbkkhfmejpbeaa
