/- The example, as it stands. -/
import Derived.Test.YtnnhgbncghpecaaGreatAwakeA10
import Derived.Deep.RegionHeld3
namespace Go.Proofs.YtnnhgbncghpecaaGreat
open Go.RowKit

/-- The four numbers of a fact. -/
abbrev rowE (a b c d : Int) : Obj := .cells #[.int .u8 1, .int .i64 a, .string ⟨#[]⟩, .int .u8 1, .int .i64 b, .string ⟨#[]⟩, .int .u8 1, .int .i64 c, .string ⟨#[]⟩, .int .u8 1, .int .i64 d, .string ⟨#[]⟩] 27
/-- The condition, with its arguments' row at block ab. -/
abbrev cellsEg (ab : Nat) : Array Value := #[.int .u8 1, .int .i64 1, .slice (some ⟨ab, 0, none⟩) 4 4, .int .u8 0, .int .u8 0, .int .i64 0, .string ⟨#[]⟩, .int .i64 0, .int .u8 0, .slice none 0 0]
/-- Where the example stands. -/
structure Eg (l : List A10) (ab cb : Nat) (W : World) : Prop where
  args : W.heap[ab]? = some (.cells (cellsA l).toArray 64 (0, 0))
  cond : W.heap[cb]? = some (.cells (cellsEg ab) 33 (0, 0))
theorem Eg.old {l : List A10} {ab cb : Nat} {W W' : World} (h : Eg l ab cb W) (b : Below W.heap.size W W') : Eg l ab cb W' := ⟨(b.block ab (lt_of_heap h.args)).trans h.args, (b.block cb (lt_of_heap h.cond)).trans h.cond⟩
/-- The ten cells that are read, and that nothing that was there turned. -/
theorem keepS {l : List A10} {ab cb : Nat} {wb W : World} (he : Eg l ab cb wb) (h : Below wb.heap.size wb W) :
    W.cell? ⟨cb, 0, none⟩ = some (.int .u8 1) ∧ W.cell? ⟨cb, 1, none⟩ = some (.int .i64 1) ∧ W.cell? ⟨cb, 2, none⟩ = some (.slice (some ⟨ab, 0, none⟩) 4 4) ∧ W.cell? ⟨cb, 3, none⟩ = some (.int .u8 0) ∧ W.cell? ⟨cb, 4, none⟩ = some (.int .u8 0) ∧ W.cell? ⟨cb, 5, none⟩ = some (.int .i64 0) ∧ W.cell? ⟨cb, 6, none⟩ = some (.string ⟨#[]⟩) ∧ W.cell? ⟨cb, 7, none⟩ = some (.int .i64 0) ∧ W.cell? ⟨cb, 8, none⟩ = some (.int .u8 0) ∧ W.cell? ⟨cb, 9, none⟩ = some (.slice none 0 0) ∧ Below wb.heap.size wb W := by
  have h2 := (he.old h).cond
  exact ⟨Lib.cell_of_heap h2 0, Lib.cell_of_heap h2 1, Lib.cell_of_heap h2 2, Lib.cell_of_heap h2 3, Lib.cell_of_heap h2 4, Lib.cell_of_heap h2 5, Lib.cell_of_heap h2 6, Lib.cell_of_heap h2 7, Lib.cell_of_heap h2 8, Lib.cell_of_heap h2 9, h⟩
theorem Own10.env {base n : Nat} {W : World} {e : E10} {h1 h2 : Option Addr} {c1 c2 : Nat} (he : Even n e) (h : Own10 base W e (.slice h1 n c1) (.slice h2 n c2)) : Env10 W.heap.size W e h1 c1 h2 c2 := by
  have q1 := h.has
  have q2 := h.vals
  rw [he.1] at q1
  rw [he.2] at q2
  exact ⟨by rw [he.1]; exact owns_sl q1, by rw [he.2]; exact owns_sl q2⟩
/-- Match at the example. -/
theorem eg_match (l : List A10) (hl : l.length = 4) (a b c d : Int) (ab cb : Nat) (W : World) (he : Eg l ab cb W) (g : Nat) (hg : W.heap[g]? = some (rowE a b c d)) (h1 h2 : Option Addr) (c1 c2 base : Nat) (hO : Own10 base W egE (.slice h1 1 c1) (.slice h2 1 c2)) (x : Option E10) (hx : firstB (egC l) [⟨0, 1, [numT a, numT b, numT c, numT d]⟩] egE = x) :
    Calls Tryz.prog 10 #[.agg (cellsEg ab), .agg #[.int .i64 0, .int .i64 1, .slice (some ⟨g, 0, none⟩) 4 4], .agg #[.slice h1 1 c1, .slice h2 1 c2]] W (MatchP x W) := by
  subst hx
  have ha : Sl10 W.heap.size W l.length (some ⟨ab, 0, none⟩) 4 (cellsA l) := ⟨fun _ => ⟨ab, 0, rfl, lt_of_heap he.args, fun j u hu => by
    rw [Nat.zero_add, Lib.cell_of_heap he.args j, ← Array.getElem?_toList]
    exact hu⟩, (fun h => by cases h), by omega, by unfold maxLen; omega⟩
  have hf : Sl10 W.heap.size W 4 (some ⟨g, 0, none⟩) 4 (cellsV [numT a, numT b, numT c, numT d]) := ⟨fun _ => ⟨g, 0, rfl, lt_of_heap hg, fun j u hu => by
    rw [Nat.zero_add, Lib.cell_of_heap hg j, ← Array.getElem?_toList]
    exact hu⟩, (fun h => by cases h), Nat.le_refl _, by unfold maxLen; omega⟩
  have hE := hO.env (n := 1) ⟨rfl, rfl⟩
  have := match_any (egC l) (some ⟨ab, 0, none⟩) 4 none 0 ⟨0, 1, [numT a, numT b, numT c, numT d]⟩ (some ⟨g, 0, none⟩) 4 egE h1 c1 h2 c2 W ha hf hE (by decide) (fun v hv => by
    obtain rfl := List.mem_singleton.1 hv
    exact Nat.zero_le _) (fun v hv => by
    have hv' : v = numT a ∨ v = numT b ∨ v = numT c ∨ v = numT d := by simpa using hv
    rcases hv' with rfl | rfl | rfl | rfl <;> exact Nat.zero_le _)
  have e1 : aggC (egC l) (some ⟨ab, 0, none⟩) 4 none 0 = .agg (cellsEg ab) := by
    show Value.agg #[_, _, .slice _ l.length _, _, _, _, _, _, _, _] = _
    rw [hl]
    rfl
  rw [e1] at this
  exact this
theorem eg_match_yes (ab cb : Nat) (W : World) (he : Eg egArgs ab cb W) (g : Nat) (hg : W.heap[g]? = some (rowE 1 2 2 5)) (h1 h2 : Option Addr) (c1 c2 base : Nat) (hO : Own10 base W egE (.slice h1 1 c1) (.slice h2 1 c2)) :
    Calls Tryz.prog 10 #[.agg (cellsEg ab), .agg #[.int .i64 0, .int .i64 1, .slice (some ⟨g, 0, none⟩) 4 4], .agg #[.slice h1 1 c1, .slice h2 1 c2]] W fun r w' => ∃ a1 d1 a2 d2, r = .returned (.tuple #[.agg #[.slice a1 1 d1, .slice a2 1 d2], .bool true]) ∧ Own10 W.heap.size w' ([true], [numT 2]) (.slice a1 1 d1) (.slice a2 1 d2) ∧ Below W.heap.size W w' :=
  (eg_match egArgs rfl 1 2 2 5 ab cb W he g hg h1 h2 c1 c2 base hO _ eg_yes).mono fun r w' ⟨hb, h⟩ => by
    rcases h with ⟨h, -⟩ | ⟨e', a1, d1, a2, d2, hx, hr, hO'⟩
    · cases h
    · obtain rfl := Option.some.inj hx
      exact ⟨a1, d1, a2, d2, hr, hO', hb⟩
theorem eg_match_no (ab cb : Nat) (W : World) (he : Eg egArgs ab cb W) (g : Nat) (hg : W.heap[g]? = some (rowE 1 2 3 5)) (h1 h2 : Option Addr) (c1 c2 base : Nat) (hO : Own10 base W egE (.slice h1 1 c1) (.slice h2 1 c2)) :
    Calls Tryz.prog 10 #[.agg (cellsEg ab), .agg #[.int .i64 0, .int .i64 1, .slice (some ⟨g, 0, none⟩) 4 4], .agg #[.slice h1 1 c1, .slice h2 1 c2]] W fun r w' => r = .returned (.tuple #[.agg #[.slice none 0 0, .slice none 0 0], .bool false]) ∧ Below W.heap.size W w' :=
  (eg_match egArgs rfl 1 2 3 5 ab cb W he g hg h1 h2 c1 c2 base hO _ eg_no).mono fun r w' ⟨hb, h⟩ => by
    rcases h with ⟨-, h⟩ | ⟨e', a1, d1, a2, d2, hx, -⟩
    · exact ⟨h, hb⟩
    · cases hx
theorem eg_match_nor (ab cb : Nat) (W : World) (he : Eg egArgs1 ab cb W) (g : Nat) (hg : W.heap[g]? = some (rowE 1 2 2 5)) (h1 h2 : Option Addr) (c1 c2 base : Nat) (hO : Own10 base W egE (.slice h1 1 c1) (.slice h2 1 c2)) :
    Calls Tryz.prog 10 #[.agg (cellsEg ab), .agg #[.int .i64 0, .int .i64 1, .slice (some ⟨g, 0, none⟩) 4 4], .agg #[.slice h1 1 c1, .slice h2 1 c2]] W fun r w' => r = .returned (.tuple #[.agg #[.slice none 0 0, .slice none 0 0], .bool false]) ∧ Below W.heap.size W w' :=
  (eg_match egArgs1 rfl 1 2 2 5 ab cb W he g hg h1 h2 c1 c2 base hO _ eg_nor).mono fun r w' ⟨hb, h⟩ => by
    rcases h with ⟨-, h⟩ | ⟨e', a1, d1, a2, d2, hx, -⟩
    · exact ⟨h, hb⟩
    · cases hx
end Go.Proofs.YtnnhgbncghpecaaGreat
