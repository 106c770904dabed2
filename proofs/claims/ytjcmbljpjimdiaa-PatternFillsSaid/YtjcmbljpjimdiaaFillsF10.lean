/- PatternFills answers true, whatever comes in. -/
import Derived.Test.YtjcmbljpjimdiaaFillD10
namespace Go.Proofs.Ytjcmbljpjimdiaa
open Go.RowKit

section
variable {w : World} {c : C10} {ao : Option Addr} {ac : Nat} {xo : Option Addr} {xc : Nat} {f : F10} {fo : Option Addr} {fc : Nat} {e0 : E10} {ho : Option Addr} {hc : Nat} {vo : Option Addr} {vc : Nat} {v : V3}
theorem fills_any (h : Came10 w c ao ac f fo fc e0 ho hc vo vc v) :
    Calls Try.prog 4 #[aggC c ao ac xo xc, aggF f fo fc, .slice ho e0.1.length hc, .slice vo e0.2.length vc, aggV v] w (FillsP w) := by
  by_cases hm : c.args.length ≤ 2000 ∧ f.args.length ≤ 2000 ∧ e0.1.length ≤ 2000 ∧ e0.2.length ≤ 2000
  · obtain ⟨h1, h2, h3, h4⟩ := hm
    cases hx : firstB c [f] e0 with
    | none => exact fills_none h h1 h2 h3 h4 hx
    | some en => exact fills_some h h1 h2 h3 h4 en hx
  · exact fills_much h hm
end
end Go.Proofs.Ytjcmbljpjimdiaa
