/- A number's bytes. -/
import Derived.Test.YtagjipkoheimjaaGreatDoorTurned
import Derived.Laws.CopyRow
import Derived.Laws.CopyOwn
import Derived.Lib.SlBuf
namespace Go.Proofs.YtagjipkoheimjaaGreatDoor
open Go.RowKit

theorem Gr.new {a b : World} (h : Below a.heap.size a b) (hd : a.drawn ≤ b.drawn) : Gr a b := by
  obtain ⟨h1, h2, h3, h4, h5⟩ := h
  refine ⟨b.drawn - a.drawn, b.heap.extract a.heap.size b.heap.size, ?_⟩
  unfold Sort.grow World.drewN
  have hh : a.heap ++ b.heap.extract a.heap.size b.heap.size = b.heap := by
    apply Array.ext_getElem?
    intro i
    by_cases hi : i < a.heap.size
    · rw [Array.getElem?_append_left hi]
      exact (h5 i hi).symm
    · rw [Array.getElem?_append_right (by omega)]
      by_cases hi2 : i < b.heap.size
      · rw [Array.getElem?_extract, if_pos (by omega)]
        congr 1
        omega
      · rw [Array.getElem?_eq_none (xs := b.heap) (by omega), Array.getElem?_eq_none (by rw [Array.size_extract]; omega)]
  obtain ⟨bh, bt, bd, bo, bw⟩ := b
  simp only at *
  subst h1 h2 h3
  rw [hh]
  congr 1
  omega

theorem num4_int (a b c d : UInt8) (t : List UInt8) : ((num4 (a :: b :: c :: d :: t) : Nat) : Int) = (((a.toNat : Int) * 256 + b.toNat) * 256 + c.toNat) * 256 + d.toNat := by
  simp only [num4]
  omega

theorem or_four (x y z u : Nat) (hx : x < 2 ^ 8) (hy : y < 2 ^ 8) (hz : z < 2 ^ 8) (hu : u < 2 ^ 8) : bits .or .u32 (bits .or .u32 (bits .or .u32 ((x : Int) * 16777216) ((y : Int) * 65536)) ((z : Int) * 256)) (u : Int) = (((x : Int) * 256 + y) * 256 + z) * 256 + u := by
  have e1 : bits .or .u32 ((x : Int) * 16777216) ((y : Int) * 65536) = ((x * 16777216 + y * 65536 : Nat) : Int) := by
    have := u32_or_nat (x * 16777216) (y * 65536) (by omega) (by omega)
    rw [nat_join 24 _ _ (by omega) (by omega)] at this
    exact this
  have e2 : bits .or .u32 ((x * 16777216 + y * 65536 : Nat) : Int) ((z : Int) * 256) = ((x * 16777216 + y * 65536 + z * 256 : Nat) : Int) := by
    have := u32_or_nat (x * 16777216 + y * 65536) (z * 256) (by omega) (by omega)
    rw [nat_join 16 _ _ (by omega) (by omega)] at this
    exact this
  have e3 : bits .or .u32 ((x * 16777216 + y * 65536 + z * 256 : Nat) : Int) (u : Int) = ((x * 16777216 + y * 65536 + z * 256 + u : Nat) : Int) := by
    have := u32_or_nat (x * 16777216 + y * 65536 + z * 256) u (by omega) (by omega)
    rw [nat_join 8 _ _ (by omega) (by omega)] at this
    exact this
  rw [e1, e2, e3]
  omega

/-- A row that was just made, filled. -/
theorem setRow_made (w : World) (cs cs' : Array Value) (t : TypeId) : (w.alloc (.cells cs t)).setRow w.heap.size cs' = w.alloc (.cells cs' t) := by
  have hh : ((w.heap.push (Obj.cells cs t)).modify w.heap.size fun o => match o with
      | .cells _ e fz => .cells cs' e fz
      | o => o) = w.heap.push (Obj.cells cs' t) := by
    apply Array.ext_getElem?
    intro i
    rw [Array.getElem?_modify, Array.getElem?_push, Array.getElem?_push]
    by_cases hi : w.heap.size = i
    · subst hi
      simp
    · rw [if_neg hi, if_neg (fun e => hi e.symm), if_neg (fun e => hi e.symm)]
  unfold World.setRow World.alloc
  simp only
  rw [← hh]
  first
  | rfl
  | (congr 2; funext o; cases o <;> rfl)

set_option maxRecDepth 100000 in
set_option maxHeartbeats 1000000 in
theorem numberIn_any (ao : Option Addr) (l : List UInt8) (c : Nat) (h4 : 4 ≤ l.length) (hm : l.length ≤ 9223372036854775807) (w : World) (h : SlG w.heap.size w ao (bcells l)) :
    Calls Tryz.prog 75 #[.slice ao l.length c] w fun e w' => e = .returned (.int .u32 ((num4 l : Nat) : Int)) ∧ Gr w w' := by
  obtain ⟨sb, off, rfl, lt, hc⟩ := h.cellB (by omega)
  match l, h4 with
  | x :: y :: z :: u :: t, _ =>
    rw [num4_int]
    have hx := x.toNat_lt
    have hy := y.toNat_lt
    have hz := z.toNat_lt
    have hu := u.toNat_lt
    have c0 := hc 0 (by simp)
    have c1 := hc 1 (by simp)
    have c2 := hc 2 (by simp)
    have c3 := hc 3 (by simp)
    simp only [List.getElem_cons_zero, List.getElem_cons_succ] at c0 c1 c2 c3
    have hr : ∀ L : Nat, 4 ≤ L → (Builtin.copy_ #[26, 26] 3 #[.slice (some ⟨w.heap.size, 0, none⟩) 4 4, .slice (some ⟨sb, off, none⟩) L c]).run Tryz.prog (w.alloc (.cells #[.int .u8 0, .int .u8 0, .int .u8 0, .int .u8 0] 135)) = .ok (goInt 4) (w.alloc (.cells #[.int .u8 x.toNat, .int .u8 y.toNat, .int .u8 z.toNat, .int .u8 u.toNat] 135)) := fun L hL => by
      have k := run_copy_row (P := Tryz.prog) (w.alloc (.cells #[.int .u8 0, .int .u8 0, .int .u8 0, .int .u8 0] 135)) 26 26 3 5 w.heap.size 0 4 4 ⟨sb, off, none⟩ L c #[.int .u8 0, .int .u8 0, .int .u8 0, .int .u8 0] 135 [.int .u8 x.toNat, .int .u8 y.toNat, .int .u8 z.toNat, .int .u8 u.toNat] Tryz.underlying26 (by kernel_rfl) (heap_alloc_new w _) (by simp [Nat.min_def]; omega) ?_ (by simp) ?_
      · rw [setRow_made] at k
        exact k
      · intro j v hj
        rw [Addr.add_lit, World.cell?_alloc_lt _ _ _ lt]
        match j, hj with
        | 0, hj => obtain rfl := Option.some.inj hj; exact c0
        | 1, hj => obtain rfl := Option.some.inj hj; exact c1
        | 2, hj => obtain rfl := Option.some.inj hj; exact c2
        | 3, hj => obtain rfl := Option.some.inj hj; exact c3
      · intro v hv
        simp at hv
        rcases hv with rfl | rfl | rfl | rfl <;> rfl
    have hr' := hr (x :: y :: z :: u :: t).length (by simp)
    have HG := Lib.hid ((Gr.refl w).alloc (.cells #[.int .u8 x.toNat, .int .u8 y.toNat, .int .u8 z.toNat, .int .u8 u.toNat] 135))
    clear c0 c1 c2 c3 hc h hr
    generalize (x :: y :: z :: u :: t).length = L at hr' hm
    generalize x.toNat = x at *
    generalize y.toNat = y at *
    generalize z.toNat = z at *
    generalize u.toNat = u at *
    go_enter Tryz.func75, Tryz.ntmps75
    go_wp2_with fail
    go_ret
    exact ⟨by rw [← or_four x y z u hx hy hz hu]; rfl, HG.out⟩
end Go.Proofs.YtagjipkoheimjaaGreatDoor
