/- A map of functions that a call makes, by byte-wide keys: put and asked in one go. -/
import Derived.Test.YtkbkkhfmejpbeaaFind
import Derived.MapKept
import Derived.Laws.EntriesVeiled
namespace Go.Proofs.Ytkbkkhfmejpbeaa
open Go.RowKit

theorem alloc_set (w : World) (o o' : Obj) : ({ w.alloc o with heap := (w.alloc o).heap.setIfInBounds w.heap.size o' } : World) = w.alloc o' := by
  have h : (w.heap.push o).setIfInBounds w.heap.size o' = w.heap.push o' := by
    apply Array.ext
    · simp
    · intro i h1 h2
      simp only [Array.size_setIfInBounds, Array.size_push] at h1
      rw [Array.getElem_setIfInBounds (by simpa using h1)]
      by_cases e : w.heap.size = i
      · subst e; simp
      · rw [if_neg e, Array.getElem_push, Array.getElem_push]
        simp [show i < w.heap.size from by omega]
  simp only [World.alloc] at h ⊢
  rw [h]

theorem run_put {P : Program} (w : World) (t kt et : TypeId) (es : Array MapEntry) (clock : Nat) (a : Int) (val : Value) (ht : P.underlying t = some (.map kt et)) (hk : P.underlying kt = some (.int .u8))
    (hf : Instr.findNow (.int .u8) (.int .u8 a) es.toList 0 = some none) :
    (Instr.mapUpdate t (.map (some w.heap.size)) (.int .u8 a) val).run P (w.alloc (.map es clock)) = .ok () (w.alloc (.map (es.push ⟨.int .u8 a, val, clock⟩) (clock + 1))) := by
  have hb : (w.alloc (.map es clock)).heap[w.heap.size]? = some (.map es clock) := by
    show (w.heap.push _)[w.heap.size]? = _
    simp
  have hkey : MapKept.IsKey (.int .u8) (.int .u8 a) := rfl
  simp [Instr.mapUpdate, run_underlying ht, MapKept.run_getObj_map hb, MapKept.run_checkKey hk hkey, MapKept.run_findKey hk hf, MapKept.run_setObj_map _ hb, Result.andThen]
  exact alloc_set _ _ _

theorem run_ask {P : Program} (W : World) (t kt et : TypeId) (b : Nat) (es : Array MapEntry) (clock : Nat) (a : Int) (i : Nat) (v : Value) (ht : P.underlying t = some (.map kt et)) (hk : P.underlying kt = some (.int .u8))
    (hb : W.heap[b]? = some (.map es clock)) (hf : Instr.findNow (.int .u8) (.int .u8 a) es.toList 0 = some (some (i, v))) (ok : Bool) :
    (Instr.lookup t (.map (some b)) (.int .u8 a) ok).run P W = .ok (if ok then .tuple #[v, .bool true] else v) W := by
  have hkey : MapKept.IsKey (.int .u8) (.int .u8 a) := rfl
  simp [Instr.lookup, run_underlying ht, MapKept.run_getObj_map hb, MapKept.run_checkKey hk hkey, MapKept.run_findKey hk hf, Result.andThen]

theorem run_ask_none {P : Program} (W : World) (t kt et : TypeId) (b : Nat) (es : Array MapEntry) (clock : Nat) (a : Int) (z : Value) (ht : P.underlying t = some (.map kt et)) (hk : P.underlying kt = some (.int .u8))
    (hz : ∀ w, (zeroValue et).run P w = .ok z w)
    (hb : W.heap[b]? = some (.map es clock)) (hf : Instr.findNow (.int .u8) (.int .u8 a) es.toList 0 = some none) :
    (Instr.lookup t (.map (some b)) (.int .u8 a) true).run P W = .ok (.tuple #[z, .bool false]) W := by
  have hkey : MapKept.IsKey (.int .u8) (.int .u8 a) := rfl
  simp [Instr.lookup, run_underlying ht, MapKept.run_getObj_map hb, MapKept.run_checkKey hk hkey, MapKept.run_findKey hk hf, Result.andThen, hz]
end Go.Proofs.Ytkbkkhfmejpbeaa
