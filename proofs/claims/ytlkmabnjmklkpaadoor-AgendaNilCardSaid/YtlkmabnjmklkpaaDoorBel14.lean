/- A quiet region whose callees make memory. -/
import Derived.Test.YtlkmabnjmklkpaaDoorSal14
namespace Go.Proofs.YtlkmabnjmklkpaaDoor
open Go.RowKit

/-- A world in which all that was is as it was. -/
structure BelW (W : World) where
  w : World
  h : Below W.heap.size W w
instance (W : World) : Nonempty (BelW W) := ⟨⟨W, Below.refl _ _⟩⟩
theorem wp_region_quiet_bel {P : Program} {id : Nat} {Q : Exit → Act → World → Prop} {a : Act} {w : World} {l : List Oper} (hm : P.follows .mixedOrders = true) (hB : Region.lexB .any l.toArray = true)
    (h : wpQuiet P l.toArray (fun w' => ∃ p : BelW w, w' = p.w) (fun a' => ∀ w', (∃ p : BelW w, w' = p.w) → Q .normal a' w') l a) : (Code.region id l.toArray true).wp P Q a w :=
  wp_region_quiet (C := fun w' => ∃ p : BelW w, w' = p.w) hm hB ⟨⟨w.drew, RowKit_drewN (Below.refl _ _) 1⟩, rfl⟩ (by simpa using h)
theorem cellW {w : World} {b o : Nat} {v : Value} (hb : b < w.heap.size) (h : w.cell? ⟨b, o, none⟩ = some v) : ∀ p : BelW w, p.w.cell? ⟨b, o, none⟩ = some v := fun p => ((bcell p.h).1 b o hb).trans h

theorem owns_slG {w : World} {base e size n c : Nat} {ao : Option Addr} {cs : List Value} (h : w.ownsRow base e size (.slice ao n c) n cs) : SlG w.heap.size w ao cs := fun hne => by
  rcases h.2 with ⟨h1, h2⟩ | ⟨g, cap, cur, h1, _, hg, _⟩
  · have h3 := h.1
    rw [h2, Nat.zero_mul] at h3
    exact absurd (List.eq_nil_of_length_eq_zero h3) hne
  · simp only [Value.slice.injEq] at h1
    obtain ⟨rfl, _, rfl⟩ := h1
    refine ⟨g, 0, rfl, lt_of_heap hg, fun j u hu => ?_⟩
    rw [Nat.zero_add]
    have := h.cells (g := g) rfl j u hu
    rwa [Addr.add_lit, Nat.zero_add] at this
end Go.Proofs.YtlkmabnjmklkpaaDoor
