/- ExprSays is true of any expression over any variables: it says just what the document tells, or has its error, and both stay as they were; no conditions. -/
import Derived.Test.YtkbkkhfmejpbeaaSays9
import Derived.Test.YtkbkkhfmejpbeaaOpen9
import Derived.Test.YtkbkkhfmejpbeaaRows
import Derived.ProofKit
import Derived.OpenShut
import Derived.LaidMore
import Derived.Lay
import Derived.SevenTiedAt
import Derived.Stop.Joined
import Derived.Lib.SmallJoins
import Derived.Deep.Slices
import Derived.Deep.Strs
import Derived.Carry
namespace Go.Proofs.Ytkbkkhfmejpbeaa.exprSays
open Go.ChangeShapes Go.WideShapes Go.ChangeAt Go.RowKit Go.Joins

theorem own : ownKnob Try.prog.godebug = none := by kernel_rfl
theorem laidOut : laidOutB Try.prog = true := by kernel_rfl

theorem open_arg {H : Type} {enc : TypeId × Value → H} {W : World} {v : Value} {d : DataW H} {p : List MemPlace} (h : DataW.Trod enc Try.prog W 0 (fun _ => true) true 29 v d p) :
    ∃ t u, v = agg t u ∧ Lies W.heap.size W t u ∧ Held t := by
  obtain ⟨fuel, hf⟩ := h
  obtain ⟨t, u, hcs, hl, hx⟩ := open_expr fuel _ _ hf
  refine ⟨t, u, ?_, hl, hx⟩
  cases v with
  | agg cs =>
    have : cs.toList = seven t u := hcs
    obtain ⟨l⟩ := cs
    simp only at this
    subst this
    rfl
  | _ => simp [Value.cells] at hcs

set_option maxRecDepth 100000 in
theorem lifted (os : Os) (started : os.Started) (H : Type) (enc : TypeId × Value → H) :
    ReturnsInHanded {} Try.checked os 3 .any (Rows.exprSaysSpec.pre6 enc Try.prog Try.f3 Rows.exprSaysRow.domain false) (Rows.exprSaysSpec.post enc Try.prog Try.f3 false true false false) := by
  refine returnsInHanded_of_change (C := Try.checked) own started (by kernel_rfl) Try.func3
    (ChangeSpec.witness6 (enc := enc) (C := Try.checked) false ⟨#[], #[.agg #[.int .u8 0, .int .u8 0, .int .i64 0, .string ⟨#[]⟩, .int .i64 0, .int .u8 0, .slice none 0 0], .slice none 0 0], []⟩ 8 (by kernel_rfl) (by kernel_rfl) (by kernel_rfl) (by kernel_rfl)) ?_
  intro W base args ds gs before hval0 hW _ _
  have hval : ∀ (j : Nat) t v, Try.f3.params[j]? = some t → args[j]? = some v → Value.okWide Try.prog W .any base t v := hval0
  have hW' := hW
  obtain ⟨p, q, hA0, hV, rfl, _, _⟩ := hW
  have hA : DataW.TrodAll enc Try.prog W 0 (fun _ => true) true Try.f3.params.toList args.toList ds p := hA0
  rw [Try.params3] at hA hval
  obtain ⟨v0, vs0, d0, ds0, p0, q0, hargs, rfl, rfl, h0, r0⟩ := trodAll_cons hA
  obtain ⟨v1, vs1, d1, ds1, p1, q1, rfl, rfl, rfl, h1, r1⟩ := trodAll_cons r0
  obtain ⟨rfl, rfl, rfl⟩ := trodAll_nil r1
  obtain rfl : args = #[v0, v1] := by cases args; simp_all
  obtain ⟨rfl, rfl⟩ := trodVars_none hV
  have h0k := h0
  obtain ⟨t0, u0, rfl, k0, x0⟩ := open_arg h0
  obtain ⟨a1, len, cap, rfl⟩ := okWide_slice Try.underlying30 (hval 1 30 v1 rfl rfl)
  have h1k := h1
  obtain ⟨zs, hz, hml, hfine, hlies⟩ := opened_values h1
  subst hz
  have hnil : a1 = none → zs.length = 0 ∧ cap = 0 := fun e => by
    rcases hlies with h | ⟨b, off, h, _⟩
    · exact ⟨h.1, h.2 e⟩
    · rw [e] at h
      cases h
  have hrow : 0 < zs.length → ∃ b off, a1 = some ⟨b, off, none⟩ ∧ b < W.heap.size ∧ RowAt W b off zs := fun hp => by
    rcases hlies with h | h
    · omega
    · exact h
  have hcame : Came9 W a1 cap zs := ⟨by unfold maxLen at hml; omega, hnil, hrow, hfine⟩
  have hlt0 : ∀ x ∈ p0, x.block < W.heap.size := fun x hx => hW'.lt x (by simp [hx])
  have hlt1 : ∀ x ∈ p1, x.block < W.heap.size := fun x hx => hW'.lt x (by simp [hx])
  clear hA0 hval0
  refine (says_any t0 u0 a1 cap zs W k0 x0 hcame).mono fun e W' ⟨he, hg⟩ => ?_
  subst he
  refine ⟨_, rfl, _, _, _, [], p0 ++ (p1 ++ ([])), [], hW', (trodAll_cons_mk (shut_bool Try.underlying4 _) trodAll_mk0), ?_, rfl, hg.frame _, fun h => by cases h⟩
  exact (trodAll_cons_mk (Below.trod laidOut (by kernel_rfl) (of_decide_eq_true (by kernel_rfl)) h0k hg hlt0) (trodAll_cons_mk (Below.trod laidOut (by kernel_rfl) (of_decide_eq_true (by kernel_rfl)) h1k hg hlt1) trodAll_mk0))

/-- THE STATEMENT. -/
theorem proved : Rows.ExprSaysSaid :=
  OpenClaim.holds_of_wide 3 Try.f3 rfl rfl rfl rfl rfl rfl rfl ⟨rfl, rfl, rfl, rfl, rfl⟩ rfl rfl rfl rfl rfl (by kernel_rfl) Try.func3 (by kernel_rfl)
    (of_decide_eq_true (by kernel_rfl)) (by unfold Func.isWrapper; first | (rw [if_pos (by decide +kernel)]; kernel_rfl) | (rw [if_neg (by decide +kernel)]; exact ⟨rfl, rfl⟩))
    (fun os started H enc _ => lifted os started H enc)
#print axioms proved
end Go.Proofs.Ytkbkkhfmejpbeaa.exprSays
