/- A row of facts that came in. -/
import Derived.Test.YtjcmbljpjimdiaaOpen10
import Derived.Test.YtjcmbljpjimdiaaIndex10
namespace Go.Proofs.Ytjcmbljpjimdiaa
open Go.ChangeShapes Go.WideShapes Go.ChangeAt Go.RowKit

section
variable {H : Type} {enc : TypeId × Value → H} {W : World}
instance : Inhabited (F10 × Value) := ⟨(⟨0, 0, []⟩, .slice none 0 0)⟩
theorem cellsF_flat (l : List (F10 × Value)) : (l.map fun p => [Value.int .i64 p.1.id, .int .i64 p.1.type, p.2]).flatten = cellsF l := by
  induction l with
  | nil => rfl
  | cons v l ih => rw [List.map_cons, List.flatten_cons, ih]; rfl
theorem open_facts {fuel : Nat} {cs : List Value} {x : DataW H × List MemPlace} (h : Trd enc W fuel 36 cs x) :
    ∃ (ao : Option Addr) (l : List F10) (c : Nat), cs = [.slice ao l.length c] ∧ Facts10 W.heap.size W l ao c := by
  obtain ⟨ao, l, c, h1, h2, h3⟩ := open_rowG (sz := 3) Try.underlying36 (by kernel_rfl) (by decide) (fun p : F10 × Value => [Value.int .i64 p.1.id, .int .i64 p.1.type, p.2]) (fun p _ => FAt W.heap.size W p.1 p.2) (fun _ => rfl) (fun fuel cs x h => by
    obtain ⟨f, fo, fc, e, s, -⟩ := open_fact h
    exact ⟨(f, .slice fo f.args.length fc), e, fo, fc, rfl, s⟩) h
  rw [cellsF_flat] at h2
  have hl : (l.map Prod.fst).length = l.length := by simp
  refine ⟨ao, l.map Prod.fst, c, by rw [hl]; exact h1, ⟨l, rfl, h2.row, fun p hp => ?_⟩, by rw [hl]; exact h2.nil, by rw [hl]; exact h2.cap, h2.top⟩
  obtain ⟨d, hd, -⟩ := h3 p hp
  exact hd
end
end Go.Proofs.Ytjcmbljpjimdiaa
