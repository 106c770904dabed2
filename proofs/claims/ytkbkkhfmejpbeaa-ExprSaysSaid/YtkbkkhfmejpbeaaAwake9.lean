/- awake is true. -/
import Derived.Test.YtkbkkhfmejpbeaaAwakeC9
import Derived.Deep.DeepCutAuto
namespace Go.Proofs.Ytkbkkhfmejpbeaa
open Go.RowKit

abbrev boxZ (w : World) : World := w.alloc (.cells #[.int .u8 0, .int .i64 0, .string ⟨#[]⟩] 25)
/-- A world, or it with a box more. -/
def Next (w W : World) : Prop := W = w ∨ W = boxZ w
theorem Next.below {b w W : World} (h : Below b.heap.size b w) (n : Next w W) : Below b.heap.size b W := by
  rcases n with rfl | rfl
  · exact h
  · exact h.alloc h.size _
theorem Next.kids {w W : World} {t : X} {v : Value} (h : Kids9 w.heap.size w t v) (n : Next w W) : Kids9 W.heap.size W t v := by
  rcases n with rfl | rfl
  · exact h
  · exact h.up (below_own _) (below_own _).size
/-- The box of the value, if it was made. -/
def BoxIs (w : World) (g : Nat) : Prop := w.heap[g]? = some (.cells #[.int .u8 0, .int .i64 0, .string ⟨#[]⟩] 25 (0, 0))

set_option maxRecDepth 100000 in
set_option maxHeartbeats 40000000 in
theorem awake_any (w : World) : Calls Try.prog 6 #[] w fun e w' => e = .returned (.bool true) ∧ Below w.heap.size w w' := by
  have hwb : Below w.heap.size w ((w.alloc (.cells #[.int .u8 1, .int .i64 20, .string ⟨#[]⟩] 25)).alloc (.cells #[.int .u8 2, .int .u8 0, .int .i64 0, .string ⟨#[]⟩, .int .i64 0, .int .u8 0, .slice none 0 0] 29)) := (below_own _).alloc (by simp) _
  have hgv := alloc_keep (alloc_at (w := w) rfl (.cells #[.int .u8 1, .int .i64 20, .string ⟨#[]⟩] 25)) (.cells #[.int .u8 2, .int .u8 0, .int .i64 0, .string ⟨#[]⟩, .int .i64 0, .int .u8 0, .slice none 0 0] 29)
  have hgx := alloc_at (w := w.alloc (.cells #[.int .u8 1, .int .i64 20, .string ⟨#[]⟩] 25)) (n := w.heap.size + 1) (by simp) (.cells #[.int .u8 2, .int .u8 0, .int .i64 0, .string ⟨#[]⟩, .int .i64 0, .int .u8 0, .slice none 0 0] 29)
  have HW := Lib.hid hwb
  have HGV := Lib.hid hgv
  have HGX := Lib.hid hgx
  clear hwb hgv hgx
  have mixed : Try.prog.follows .mixedOrders = true := by kernel_rfl
  go_enter Try.func6, Try.ntmps6
  go_upto_region 3 with fail
  generalize ((w.alloc (.cells #[.int .u8 1, .int .i64 20, .string ⟨#[]⟩] 25)).alloc (.cells #[.int .u8 2, .int .u8 0, .int .i64 0, .string ⟨#[]⟩, .int .i64 0, .int .u8 0, .slice none 0 0] 29)) = wb at HW HGV HGX ⊢
  have x0 := Lib.cell_of_heap HGX.out 0
  have x1 := Lib.cell_of_heap HGX.out 1
  have x2 := Lib.cell_of_heap HGX.out 2
  have x3 := Lib.cell_of_heap HGX.out 3
  have x4 := Lib.cell_of_heap HGX.out 4
  have x5 := Lib.cell_of_heap HGX.out 5
  have x6 := Lib.cell_of_heap HGX.out 6
  have hxl := lt_of_heap HGX.out
  go_cut [3, 4] (fun s3 s4 wx => ∃ g, s3 = .pointer (some ⟨g, 0, none⟩) ∧ s4 = .int .i64 0 ∧ Hid (wx.heap[g]? = some (.cells #[.int .u8 1, .int .i64 41, .string ⟨#[]⟩] 25 (0, 0))) ∧ Hid (Below wb.heap.size wb wx))
  case first =>
    have HB := Lib.hid (RowKit_drewN (Below.refl wb.heap.size wb) 1)
    go_region_with (first
      | (go_at_call 21; go_must ((with_reducible refine (numberX_any _ _).mono ?_); rintro e w1 ⟨rfl, hb⟩; (try (replace K1 := Lib.hid ((Next.kids K1.out (by first | exact Or.inl rfl | exact Or.inr rfl)).up hb hb.size))); (first | replace HQ := Lib.hid ((hb.block _ (lt_of_heap HQ.out)).trans HQ.out) | (have HQ := Lib.hid ((hb.block _ (by simp)).trans (alloc_at rfl (.cells #[.int .u8 0, .int .i64 0, .string ⟨#[]⟩] 25))); have HQG := Lib.hid HB.out.size) | skip); replace HB := Lib.hid ((Next.below HB.out (by first | exact Or.inl rfl | exact Or.inr rfl)).trans (hb.mono (Next.below HB.out (by first | exact Or.inl rfl | exact Or.inr rfl)).size)); (try (have y0 := ((bone HB.out hxl).1 0).trans x0; have y1 := ((bone HB.out hxl).1 1).trans x1; have y2 := ((bone HB.out hxl).1 2).trans x2; have y3 := ((bone HB.out hxl).1 3).trans x3; have y4 := ((bone HB.out hxl).1 4).trans x4; have y5 := ((bone HB.out hxl).1 5).trans x5; have y6 := ((bone HB.out hxl).1 6).trans x6; have yl := Nat.lt_of_lt_of_le hxl HB.out.size; clear x0 x1 x2 x3 x4 x5 x6)); clear hb))
      | (go_at_call 20; go_must (first
          | ((with_reducible refine (op_mul _).mono ?_); rintro e w1 ⟨g1, rfl, hk, hb⟩; (try clear x0 x1 x2 x3 x4 x5 x6); (try clear y0 y1 y2 y3 y4 y5 y6 yl); have K1 := Lib.hid hk; (first | replace HQ := Lib.hid ((hb.block _ (lt_of_heap HQ.out)).trans HQ.out) | (have HQ := Lib.hid ((hb.block _ (by simp)).trans (alloc_at rfl (.cells #[.int .u8 0, .int .i64 0, .string ⟨#[]⟩] 25))); have HQG := Lib.hid HB.out.size) | skip); replace HB := Lib.hid ((Next.below HB.out (by first | exact Or.inl rfl | exact Or.inr rfl)).trans (hb.mono (Next.below HB.out (by first | exact Or.inl rfl | exact Or.inr rfl)).size)); clear hb hk)
          | ((with_reducible refine (op_add _ _ ?_).mono ?_); (exact Next.kids K1.out (by first | exact Or.inl rfl | exact Or.inr rfl)); rintro e w1 ⟨g2, rfl, hk, hb⟩; have K2 := Lib.hid hk; clear K1; (first | replace HQ := Lib.hid ((hb.block _ (lt_of_heap HQ.out)).trans HQ.out) | (have HQ := Lib.hid ((hb.block _ (by simp)).trans (alloc_at rfl (.cells #[.int .u8 0, .int .i64 0, .string ⟨#[]⟩] 25))); have HQG := Lib.hid HB.out.size) | skip); replace HB := Lib.hid ((Next.below HB.out (by first | exact Or.inl rfl | exact Or.inr rfl)).trans (hb.mono (Next.below HB.out (by first | exact Or.inl rfl | exact Or.inr rfl)).size)); clear hb hk)))
      | (go_at_call 10; go_must ((with_reducible refine (eval_first _ _ _ ?_ ?_).mono ?_); (exact Next.kids K2.out (by first | exact Or.inl rfl | exact Or.inr rfl)); (exact (((Next.below HB.out (by first | exact Or.inl rfl | exact Or.inr rfl)).block _ (lt_of_heap HGV.out)).trans HGV.out)); rintro e w1 ⟨rfl, hb⟩; clear K2; (first | replace HQ := Lib.hid ((hb.block _ (lt_of_heap HQ.out)).trans HQ.out) | (have HQ := Lib.hid ((hb.block _ (by simp)).trans (alloc_at rfl (.cells #[.int .u8 0, .int .i64 0, .string ⟨#[]⟩] 25))); have HQG := Lib.hid HB.out.size) | skip); (try (have q0 := Lib.cell_of_heap HQ.out 0; have q1 := Lib.cell_of_heap HQ.out 1; have q2 := Lib.cell_of_heap HQ.out 2; have qf := fun j => Lib.frozen_of_heap HQ.out j)); replace HB := Lib.hid ((Next.below HB.out (by first | exact Or.inl rfl | exact Or.inr rfl)).trans (hb.mono (Next.below HB.out (by first | exact Or.inl rfl | exact Or.inr rfl)).size)); clear hb)))
    all_goals (go_wp2_with fail; go_meet)
    all_goals first
      | exact ⟨_, rfl, rfl, alloc_at rfl _, HB.out.alloc HB.out.size _⟩
      | exact ⟨_, rfl, rfl, (three_set _ _ _ HQ.out rfl).1, HB.out.grown (three_set _ _ _ HQ.out rfl).2 HB.out.size (fun k hk => by obtain rfl := Option.some.inj hk; exact HQG.out)⟩
  case rest =>
    obtain ⟨g, rfl, rfl, HC, HB⟩ := hcut
    clear x0 x1 x2 x3 x4 x5 x6 hxl HGX
    go_wp2_with (first
      | (go_at_call 21; go_must ((with_reducible refine (numberX_any _ _).mono ?_); rintro e w1 ⟨rfl, hb⟩; (try (replace K1 := Lib.hid ((Next.kids K1.out (by first | exact Or.inl rfl | exact Or.inr rfl)).up hb hb.size))); replace HB := Lib.hid ((Next.below HB.out (by first | exact Or.inl rfl | exact Or.inr rfl)).trans (hb.mono (Next.below HB.out (by first | exact Or.inl rfl | exact Or.inr rfl)).size)); replace HC := Lib.hid (by first | exact (hb.block g (lt_of_heap HC.out)).trans HC.out | exact (hb.block g (lt_of_heap (alloc_keep HC.out _))).trans (alloc_keep HC.out _)); have z0 := Lib.cell_of_heap HC.out 0; have z1 := Lib.cell_of_heap HC.out 1; have zl := lt_of_heap HC.out; clear hb))
      | (go_at_call 20; go_must (first
          | ((with_reducible refine (op_over _).mono ?_); rintro e w1 ⟨g1, rfl, hk, hb⟩; have K1 := Lib.hid hk; replace HB := Lib.hid ((Next.below HB.out (by first | exact Or.inl rfl | exact Or.inr rfl)).trans (hb.mono (Next.below HB.out (by first | exact Or.inl rfl | exact Or.inr rfl)).size)); replace HC := Lib.hid (by first | exact (hb.block g (lt_of_heap HC.out)).trans HC.out | exact (hb.block g (lt_of_heap (alloc_keep HC.out _))).trans (alloc_keep HC.out _)); have z0 := Lib.cell_of_heap HC.out 0; have z1 := Lib.cell_of_heap HC.out 1; have zl := lt_of_heap HC.out; clear hb; clear hk)
          | ((with_reducible refine (op_less _ _ ?_).mono ?_); (exact Next.kids K1.out (by first | exact Or.inl rfl | exact Or.inr rfl)); rintro e w1 ⟨g2, rfl, hk, hb⟩; have K2 := Lib.hid hk; replace HB := Lib.hid ((Next.below HB.out (by first | exact Or.inl rfl | exact Or.inr rfl)).trans (hb.mono (Next.below HB.out (by first | exact Or.inl rfl | exact Or.inr rfl)).size)); replace HC := Lib.hid (by first | exact (hb.block g (lt_of_heap HC.out)).trans HC.out | exact (hb.block g (lt_of_heap (alloc_keep HC.out _))).trans (alloc_keep HC.out _)); have z0 := Lib.cell_of_heap HC.out 0; have z1 := Lib.cell_of_heap HC.out 1; have zl := lt_of_heap HC.out; clear hb; clear hk)))
      | (go_at_call 10; go_must (first
          | ((with_reducible refine (eval_third _ _ _ ?_ ?_).mono ?_); (exact Next.kids K2.out (by first | exact Or.inl rfl | exact Or.inr rfl)); (exact (((Next.below HB.out (by first | exact Or.inl rfl | exact Or.inr rfl)).block _ (lt_of_heap HGV.out)).trans HGV.out)); rintro e w1 ⟨rfl, hb⟩; replace HB := Lib.hid ((Next.below HB.out (by first | exact Or.inl rfl | exact Or.inr rfl)).trans (hb.mono (Next.below HB.out (by first | exact Or.inl rfl | exact Or.inr rfl)).size)); replace HC := Lib.hid (by first | exact (hb.block g (lt_of_heap HC.out)).trans HC.out | exact (hb.block g (lt_of_heap (alloc_keep HC.out _))).trans (alloc_keep HC.out _)); have z0 := Lib.cell_of_heap HC.out 0; have z1 := Lib.cell_of_heap HC.out 1; have zl := lt_of_heap HC.out; clear hb)
          | ((with_reducible refine (eval_second _ _ ?_).mono ?_); (exact (((Next.below HB.out (by first | exact Or.inl rfl | exact Or.inr rfl)).block _ (lt_of_heap HGV.out)).trans HGV.out)); rintro e w1 ⟨rfl, hb⟩; replace HB := Lib.hid ((Next.below HB.out (by first | exact Or.inl rfl | exact Or.inr rfl)).trans (hb.mono (Next.below HB.out (by first | exact Or.inl rfl | exact Or.inr rfl)).size)); replace HC := Lib.hid (by first | exact (hb.block g (lt_of_heap HC.out)).trans HC.out | exact (hb.block g (lt_of_heap (alloc_keep HC.out _))).trans (alloc_keep HC.out _)); have z0 := Lib.cell_of_heap HC.out 0; have z1 := Lib.cell_of_heap HC.out 1; have zl := lt_of_heap HC.out; clear hb))))
    go_ret
    exact ⟨rfl, (HW.out.trans (HB.out.mono HW.out.size)).alloc (Nat.le_trans HW.out.size HB.out.size) _⟩
end Go.Proofs.Ytkbkkhfmejpbeaa
