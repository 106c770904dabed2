/- The sum of a frame. -/
import Derived.Test.YtagjipkoheimjaaGreatDoorTurned
namespace Go.Proofs.YtagjipkoheimjaaGreatDoor
open Go.RowKit

theorem oct_toNat (k : Int) (hk : 0 ≤ k ∧ k ≤ 255) : ((octI k).toNat : Int) = k := by
  unfold octI
  rw [UInt8.toNat_ofNat']
  omega
theorem slG_oct (w : World) (A : Obj) (k : Int) (hk : 0 ≤ k ∧ k ≤ 255) : SlG ((w.alloc A).alloc (.cells #[.int .u8 k] 5)).drew.heap.size ((w.alloc A).alloc (.cells #[.int .u8 k] 5)).drew (some ⟨w.heap.size + 1, 0, none⟩) (bcells [octI k]) := by
  have h := slG_made (w.alloc A) #[.int .u8 k] [octI k] (by simp [Lib.byteCells, oct_toNat k hk])
  have hs : (w.alloc A).heap.size = w.heap.size + 1 := by simp
  rw [hs] at h
  exact h

set_option maxRecDepth 100000 in
set_option maxHeartbeats 1000000 in
theorem sumOf_any (f : FR) (hk : 0 ≤ f.1 ∧ f.1 ≤ 255) (ao : Option Addr) (c : Nat) (hm : f.2.length ≤ 9223372036854775807) (w : World) (h : SlG w.heap.size w ao (bcells f.2)) :
    Calls Tryz.prog 44 #[.agg #[.int .i64 f.1, .slice ao f.2.length c]] w fun e w' => e = .returned (.int .u32 ((sumF f : Nat) : Int)) ∧ Gr w w' := by
  obtain ⟨k, d⟩ := f
  simp only at hk hm h ⊢
  have HB : Hid (Below w.heap.size w ((w.alloc (.cells #[.int .i64 k, .slice ao d.length c] 44)).alloc (.cells #[.int .u8 k] 5)).drew) := (below_new (below_own _) _).drew
  have HG : Hid (Gr w ((w.alloc (.cells #[.int .i64 k, .slice ao d.length c] 44)).alloc (.cells #[.int .u8 k] 5)).drew) := (((Gr.refl w).alloc _).alloc _).drew
  have hy := wordS_lt [octI k] 4294967295 (by decide)
  have KT := Lib.hid (turned_any (wordS 4294967295 [octI k]) hy ao d c hm _ (h.up HB.out HB.out.size))
  have KO := Lib.hid (turned_any 4294967295 (by decide) (some ⟨w.heap.size + 1, 0, none⟩) [octI k] 1 (by simp) _ (slG_oct w (.cells #[.int .i64 k, .slice ao d.length c] 44) k hk))
  have KO' : Hid (Calls Tryz.prog 40 #[.int .u32 4294967295, .slice (some ⟨w.heap.size + 1, 0, none⟩) 1 1] ((w.alloc (.cells #[.int .i64 k, .slice ao d.length c] 44)).alloc (.cells #[.int .u8 k] 5)).drew fun e w' => e = .returned (.int .u32 ((wordS 4294967295 [octI k] : Nat) : Int)) ∧ ((w.alloc (.cells #[.int .i64 k, .slice ao d.length c] 44)).alloc (.cells #[.int .u8 k] 5)).drew = w') := KO.out
  have HS : Hid (((sumF (k, d) : Nat) : Int) = 4294967295 - ((wordS (wordS 4294967295 [octI k]) d : Nat) : Int)) := sumN_int (octI k :: d)
  have hz := wordS_lt d _ hy
  generalize wordS (wordS 4294967295 [octI k]) d = z at KT HS hz
  generalize wordS 4294967295 [octI k] = y at KT KO'
  have hu : IntKind.u8.wrap k = k := by rw [IntKind.wrap_u8']; omega
  clear h hm KO hy hk
  go_enter Tryz.func44, Tryz.ntmps44
  go_wp2_with fail
  go_region_with (first
    | (go_at_call 40; (with_reducible refine (KO'.out).mono ?_); rintro e w1 ⟨rfl, rfl⟩)
    | (go_at_call 40; (with_reducible refine (KT.out).mono ?_); rintro e w1 ⟨rfl, rfl⟩))
  all_goals
    go_wp2
    go_ret
    exact ⟨by rw [HS.out, ← not_u32 z hz]; rfl, HG.out⟩
end Go.Proofs.YtagjipkoheimjaaGreatDoor
