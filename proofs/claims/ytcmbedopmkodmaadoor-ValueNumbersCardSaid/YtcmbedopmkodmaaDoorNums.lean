/- ValueNumbers is true: numbers at the limits, two by two, under every operator. -/
import Derived.Test.YtcmbedopmkodmaaDoorRefDoAny
import Derived.Test.YtcmbedopmkodmaaDoorLawsP
namespace Go.Proofs.YtcmbedopmkodmaaDoor
open Go.RowKit

theorem do_at (op : Int) (b off c : Nat) (zs : List V3) (w : World) (rk rn : Int) (rs : ByteArray) (re : Int) (h : doV op zs = ((rk, rn, rs), re)) (n : Nat) (hn : zs.length = n) (hz : n ≤ 9223372036854775807) (hb : b < w.heap.size) (hc : RowAt w b off zs) (hm : Fine zs) :
    Calls Tryd.prog 11 #[.int .u8 op, .slice (some ⟨b, off, none⟩) n c] w fun e w' => e = .returned (.tuple #[.agg #[.int .u8 rk, .int .i64 rn, .string rs], .int .i64 re]) ∧ Below w.heap.size w w' := by
  subst hn
  have hd := do_any op b off c zs w hz hb hc hm
  rw [h] at hd
  exact hd

theorem refDo_at (op : Int) (b off c : Nat) (zs : List V3) (w : World) (rk rn : Int) (rs : ByteArray) (re : Int) (h : doV op zs = ((rk, rn, rs), re)) (n : Nat) (hn : zs.length = n) (hz : n ≤ 9223372036854775807) (hb : b < w.heap.size) (hc : RowAt w b off zs) (hm : Fine zs) :
    Calls Tryd.prog 12 #[.int .u8 op, .slice (some ⟨b, off, none⟩) n c] w fun e w' => e = .returned (.tuple #[.agg #[.int .u8 rk, .int .i64 rn, .string rs], .int .i64 re]) ∧ Below w.heap.size w w' := by
  subst hn
  have hd := refDo_any op b off c zs w hz hb hc hm
  rw [h] at hd
  exact hd

/-- The list of numbers lies in a block of its own, each of 64 bits. -/
structure NumsAt (w wr : World) (bl : Nat) : Prop where
  keep : Below w.heap.size w wr
  lies : bl < wr.heap.size
  nums : ∀ k, k < 15 → ∃ x : Int, In64 x ∧ wr.cell? ⟨bl, k, none⟩ = some (.int .i64 x)

theorem NumsAt.later {w wr w' : World} {bl : Nat} (h : NumsAt w wr bl) (hb : Below wr.heap.size wr w') : NumsAt w w' bl :=
  ⟨below_step h.keep hb, Nat.lt_of_lt_of_le h.lies hb.size, fun k hk => by
    obtain ⟨x, hx, hc⟩ := h.nums k hk
    exact ⟨x, hx, (hb.cell (p := ⟨bl, k, none⟩) h.lies).trans hc⟩⟩

def numsCells : Array Value := #[.int .i64 0, .int .i64 1, .int .i64 (-1), .int .i64 2, .int .i64 (-2), .int .i64 2147483647, .int .i64 2147483648, .int .i64 (-2147483648), .int .i64 4294967297, .int .i64 4611686018427387903, .int .i64 4611686018427387904, .int .i64 (-4611686018427387904), .int .i64 9223372036854775807, .int .i64 (-9223372036854775807), .int .i64 (-9223372036854775808)]

theorem nums_cells (k : Nat) (hk : k < 15) : ∃ x : Int, In64 x ∧ numsCells[k]? = some (.int .i64 x) := by
  match k, hk with
  | 0, _ => exact ⟨0, ⟨by decide, by decide⟩, rfl⟩
  | 1, _ => exact ⟨1, ⟨by decide, by decide⟩, rfl⟩
  | 2, _ => exact ⟨-1, ⟨by decide, by decide⟩, rfl⟩
  | 3, _ => exact ⟨2, ⟨by decide, by decide⟩, rfl⟩
  | 4, _ => exact ⟨-2, ⟨by decide, by decide⟩, rfl⟩
  | 5, _ => exact ⟨2147483647, ⟨by decide, by decide⟩, rfl⟩
  | 6, _ => exact ⟨2147483648, ⟨by decide, by decide⟩, rfl⟩
  | 7, _ => exact ⟨-2147483648, ⟨by decide, by decide⟩, rfl⟩
  | 8, _ => exact ⟨4294967297, ⟨by decide, by decide⟩, rfl⟩
  | 9, _ => exact ⟨4611686018427387903, ⟨by decide, by decide⟩, rfl⟩
  | 10, _ => exact ⟨4611686018427387904, ⟨by decide, by decide⟩, rfl⟩
  | 11, _ => exact ⟨-4611686018427387904, ⟨by decide, by decide⟩, rfl⟩
  | 12, _ => exact ⟨9223372036854775807, ⟨by decide, by decide⟩, rfl⟩
  | 13, _ => exact ⟨-9223372036854775807, ⟨by decide, by decide⟩, rfl⟩
  | 14, _ => exact ⟨-9223372036854775808, ⟨by decide, by decide⟩, rfl⟩

theorem nums_made (w w1 : World) (h : Below w.heap.size w w1) (t : TypeId) : NumsAt w (w1.alloc (.cells numsCells t)) w1.heap.size :=
  ⟨below_new h _, by simp, fun k hk => by
    obtain ⟨x, hx, hc⟩ := nums_cells k hk
    exact ⟨x, hx, (cell_alloc w1 _ t k).trans hc⟩⟩

set_option maxRecDepth 100000 in
set_option maxHeartbeats 4000000 in
theorem numbers_any (w : World) :
    Calls Tryd.prog 5 #[] w fun e w' => e = .returned (.bool true) ∧ Below w.heap.size w w' := by
  have HA := Lib.hid awake_any
  go_enter Tryd.func5, Tryd.ntmps5
  go_wp2_with fail
  refine (HA.out _).mono ?_
  rintro e w1 ⟨rfl, hb1⟩
  have HN := Lib.hid (nums_made w w1 hb1 2)
  clear hb1 HA
  go_wp2_with fail
  obtain ⟨bl, hbl⟩ : ∃ b, b = w1.heap.size := ⟨_, rfl⟩
  rw [← hbl] at HN ⊢
  go_loopw [2] (fun i wr => ∃ k : Nat, k ≤ 15 ∧ i = .int .i64 k ∧ Hid (NumsAt w wr bl)) (fun i _ => 15 - (intOf i).toNat)
  case atStart => exact ⟨0, by omega, rfl, HN⟩
  case round =>
    obtain ⟨k1, hk1, rfl, H1⟩ := hrel
    clear HN hbl
    by_cases hl1 : k1 < 15
    · have hd1 : decide ((k1 : Int) < 15) = true := by simp; omega
      obtain ⟨wo, rfl⟩ : ∃ wo : World, wo = wr := ⟨_, rfl⟩
      go_wp2_with fail
      go_loopw [3] (fun i wr => ∃ k : Nat, k ≤ 15 ∧ i = .int .i64 k ∧ Hid (NumsAt w wr bl)) (fun i _ => 15 - (intOf i).toNat)
      case atStart => exact ⟨0, by omega, rfl, H1⟩
      case round =>
        obtain ⟨k2, hk2, rfl, H2⟩ := hrel
        clear H1
        by_cases hl2 : k2 < 15
        · have hd2 : decide ((k2 : Int) < 15) = true := by simp; omega
          obtain ⟨wp, rfl⟩ : ∃ wp : World, wp = wr := ⟨_, rfl⟩
          go_wp2_with fail
          go_loopw [4] (fun i wr => ∃ k : Nat, k ≤ 13 ∧ i = .int .u8 k ∧ Hid (NumsAt w wr bl)) (fun i _ => 13 - (intOf i).toNat)
          case atStart => exact ⟨0, by omega, rfl, H2⟩
          case round =>
            obtain ⟨o, ho, rfl, H3⟩ := hrel
            clear H2
            by_cases hl3 : o ≤ 12
            · obtain ⟨x, hx, hcx⟩ := H3.out.nums k1 hl1
              obtain ⟨y, hy, hcy⟩ := H3.out.nums k2 hl2
              have HX := Lib.hid hx
              have HY := Lib.hid hy
              clear hx hy
              have hlb := H3.out.lies
              have hn0 : bl ≠ wr.heap.size := by omega
              have hn1 : bl ≠ wr.heap.size + 1 := by omega
              obtain ⟨⟨⟨rk, rn, rs⟩, re⟩, hr⟩ : ∃ r : V3 × Int, doV o [numT x, numT y] = r := ⟨_, rfl⟩
              obtain ⟨⟨⟨sk, sn, ss⟩, se⟩, hs⟩ : ∃ r : V3 × Int, doV o [numT x] = r := ⟨_, rfl⟩
              have D1 := Lib.hid (fun b c w => do_at o b 0 c [numT x, numT y] w rk rn rs re hr 2 rfl (by decide))
              have D2 := Lib.hid (fun b c w => refDo_at o b 0 c [numT x, numT y] w rk rn rs re hr 2 rfl (by decide))
              have D3 := Lib.hid (fun b c w => do_at o b 0 c [numT x] w sk sn ss se hs 1 rfl (by decide))
              have D4 := Lib.hid (fun b c w => refDo_at o b 0 c [numT x] w sk sn ss se hs 1 rfl (by decide))
              have HF2 := Lib.hid (fine_num x y HX.out HY.out)
              have HF1 := Lib.hid (fine_num1 x HX.out)
              have hq1 := fun w => ne_self rk rn rs w
              have hq2 := fun w => ne_self sk sn ss w
              have hq3 : (re != re) = false := by simp
              have hq4 : (se != se) = false := by simp
              have hg := eqGuardV
              clear hr hs HX HY
              go_wp2_with fail
              go_region_with (first | (go_at_call 22; refine (refNumber_any _ _).mono ?_; rintro e w' ⟨rfl, rfl⟩))
              all_goals
                clear hcx hcy hn0 hn1
                go_wp2_with fail
                refine (D1.out _ _ _ ?_ ?_ HF2.out).mono ?_
                · simp
                · refine RowAt.two ?_ ?_ <;> constructor <;> go_simp <;> rfl
                rintro e w2 ⟨rfl, hb2⟩
                have hk2' : Below wr.heap.size wr w2 := below_step ((below_new (below_new (below_own _) _) _).drew) hb2
                have HN2 : Hid (NumsAt w w2 bl) := H3.out.later hk2'
                have HR2 : Hid (RowAt w2 (wr.heap.size + 1 + 1) 0 [numT x, numT y]) := by
                  refine RowAt.later ?_ hb2 (by simp)
                  refine RowAt.two ?_ ?_ <;> constructor <;> go_simp <;> rfl
                have hz2 : wr.heap.size + 1 + 1 < w2.heap.size := by have := hb2.size; simp at this; omega
                clear hb2 hk2' D1
                obtain ⟨br, hbr⟩ : ∃ b, b = wr.heap.size + 1 + 1 := ⟨_, rfl⟩
                rw [← hbr] at HR2 hz2 ⊢
                clear hbr
                go_wp2_with fail
                refine (D2.out _ _ _ ?_ ?_ HF2.out).mono ?_
                · simp; omega
                · exact HR2.out.later (below_own _) hz2
                rintro e w3 ⟨rfl, hb3⟩
                have hk3 : Below w2.heap.size w2 w3 := below_step (below_own _) hb3
                have HN3 : Hid (NumsAt w w3 bl) := HN2.out.later hk3
                have HR3 : Hid (RowAt w3 br 0 [numT x, numT y]) := HR2.out.later hk3 hz2
                have HA3 : Hid (At w3 w2.heap.size 0 (rk, rn, rs)) := (at_made _ _ _ _ _).later hb3 (by simp)
                have hz3 : w2.heap.size < w3.heap.size := by have := hb3.size; simp at this; omega
                clear hb3 hk3 D2 HR2 HN2
                obtain ⟨ba, hba⟩ : ∃ b, b = w2.heap.size := ⟨_, rfl⟩
                rw [← hba] at HA3 hz3 hz2 ⊢
                clear hba
                obtain ⟨c1, c2, c3⟩ : At w3 br 0 (numT x) := by have := HR3.out 0 (by simp); simpa using this
                have nb : br ≠ w3.heap.size := by omega
                have hzb : br < w3.heap.size := by omega
                go_wp2_with fail
                clear c1 c2 c3 nb
                refine (D3.out _ _ _ ?_ ?_ HF1.out).mono ?_
                · simp
                · refine RowAt.one ?_; constructor <;> go_simp <;> rfl
                rintro e w4 ⟨rfl, hb4⟩
                have hk4 : Below w3.heap.size w3 w4 := below_step (below_new (below_own _) _) hb4
                have HN4 : Hid (NumsAt w w4 bl) := HN3.out.later hk4
                have HR4 : Hid (RowAt w4 br 0 [numT x, numT y]) := HR3.out.later hk4 hzb
                have HA4 : Hid (At w4 ba 0 (rk, rn, rs)) := HA3.out.later hk4 (by omega)
                have HB4 : Hid (At w4 w3.heap.size 0 (rk, rn, rs)) := ((at_made _ _ _ _ _).later (below_own _) (by simp)).later hb4 (by simp; omega)
                have hz4 : w3.heap.size < w4.heap.size := by have := hb4.size; simp at this; omega
                clear hb4 hk4 D3 HR3 HN3 HA3
                obtain ⟨bb, hbb⟩ : ∃ b, b = w3.heap.size := ⟨_, rfl⟩
                rw [← hbb] at HB4 hz4 hz3 hzb ⊢
                clear hbb
                go_wp2_with fail
                refine (D4.out _ _ _ ?_ ?_ HF1.out).mono ?_
                · simp; omega
                · refine RowAt.later (w := w4) ?_ (below_own _) (by omega)
                  exact RowAt.one (by have := HR4.out 0 (by simp); simpa using this)
                rintro e w5 ⟨rfl, hb5⟩
                have hk5 : Below w4.heap.size w4 w5 := below_step (below_own _) hb5
                have HN5 : Hid (NumsAt w w5 bl) := HN4.out.later hk5
                have HA5 : Hid (At w5 ba 0 (rk, rn, rs)) := HA4.out.later hk5 (by omega)
                have HB5 : Hid (At w5 bb 0 (rk, rn, rs)) := HB4.out.later hk5 (by omega)
                have HC5 : Hid (At w5 w4.heap.size 0 (sk, sn, ss)) := (at_made _ _ _ _ _).later hb5 (by simp)
                have hz5 : w4.heap.size < w5.heap.size := by have := hb5.size; simp at this; omega
                clear hb5 hk5 D4 HR4 HN4 HA4 HB4
                obtain ⟨a1, a2, a3⟩ := HA5.out
                obtain ⟨b1, b2, b3⟩ := HB5.out
                obtain ⟨c1, c2, c3⟩ := HC5.out
                have na : ba ≠ w5.heap.size := by omega
                have nb : bb ≠ w5.heap.size := by omega
                have nc : w4.heap.size ≠ w5.heap.size := by omega
                have la : ba < w5.heap.size := by omega
                have lb : bb < w5.heap.size := by omega
                have HNZ : Hid (∀ o, NumsAt w (w5.alloc o) bl) := fun o => HN5.out.later (below_own o)
                clear HN5 HA5 HB5 HC5
                go_wp2
                go_roundw
                case rel => exact ⟨o + 1, by omega, by go_num, HNZ.out _⟩
                case measure => simp [intOf]; omega
            · have ho' : o = 13 := by omega
              subst ho'
              go_wp2
              go_roundw
              case rel => exact ⟨k2 + 1, by omega, by go_num, H3⟩
              case measure => simp [intOf]; omega
        · have hk2' : k2 = 15 := by omega
          subst hk2'
          go_wp2
          go_roundw
          case rel => exact ⟨k1 + 1, by omega, by go_num, H2⟩
          case measure => simp [intOf]; omega
    · have hk1' : k1 = 15 := by omega
      subst hk1'
      go_wp2
      go_ret
      exact ⟨rfl, H1.out.keep⟩
end Go.Proofs.YtcmbedopmkodmaaDoor
