/- The document's Eval, of an operation; of whatever expression. -/
import Derived.Test.YtkbkkhfmejpbeaaRefX9
import Derived.Test.YtkbkkhfmejpbeaaLent9
namespace Go.Proofs.Ytkbkkhfmejpbeaa
open Go.RowKit

theorem Lies.len64 {B : Nat} {w : World} {t : X} {ao : Option Addr} {c : Nat} {ps : List (X × Value)} (h : KidsAt B w t ao c ps) : t.kids.length ≤ 9223372036854775807 := by
  have := h.cap
  have := h.top
  unfold maxLen at this
  omega

set_option maxRecDepth 100000 in
set_option maxHeartbeats 4000000 in
theorem refX_op (vs : List V3) (t : X) (h3 : t.kind = 3) (hsm : t.kids.length ≤ 1000000) (ih : ∀ k, k ∈ t.kids → RefXOK vs k) : RefXOK vs t := by
  intro w v vo vc hl hv hh
  obtain ⟨a0, c, ps, rfl, hk⟩ := hl.out
  have hlen := Lies.len64 hk
  obtain ⟨hB3, e0, e1, e2⟩ := three_boxes (w := w) (E := #[.int .u8 t.kind, .int .u8 t.vk, .int .i64 t.vn, .string t.vs, .int .i64 t.var, .int .u8 t.op, .slice a0 t.kids.length c]) (V := zeroArr)
  obtain ⟨i0, hi, hz0, hz1, hz2⟩ := info_parts infoV
  have hE : evalX vs t = if (evalL vs t.kids).2 = 0 then doV t.op (evalL vs t.kids).1 else (zeroT, (evalL vs t.kids).2) := by
    rw [evalX_eq, if_neg (by rw [h3]; decide), if_neg (by rw [h3]; decide), if_pos h3]
  rw [h3] at hB3 e0 e1 e2
  unfold zeroArr at *
  have HK := Lib.hid hk
  have HV := Lib.hid hv
  have HH := Lib.hid hh
  have HI := Lib.hid ih
  have HE := Lib.hid hE
  have HB3 := Lib.hid hB3
  have E0 := Lib.hid e0
  have E1 := Lib.hid e1
  clear hl hk hv hh ih hE hB3 e0 e1 e2
  unfold agg
  rw [h3]
  go_enter Try.func11, Try.ntmps11
  go_wp2_with fail
  have HL0 : Hid (Below (w.heap.size + 1 + 1 + 1) (((w.alloc (.cells #[.int .u8 3, .int .u8 t.vk, .int .i64 t.vn, .string t.vs, .int .i64 t.var, .int .u8 t.op, .slice a0 t.kids.length c] 29)).alloc (.cells #[.int .u8 0, .int .i64 0, .string ⟨#[]⟩] 25)).alloc (.cells #[.int .u8 0, .int .i64 0, .string ⟨#[]⟩] 25)) (((w.alloc (.cells #[.int .u8 3, .int .u8 t.vk, .int .i64 t.vn, .string t.vs, .int .i64 t.var, .int .u8 t.op, .slice a0 t.kids.length c] 29)).alloc (.cells #[.int .u8 0, .int .i64 0, .string ⟨#[]⟩] 25)).alloc (.cells #[.int .u8 0, .int .i64 0, .string ⟨#[]⟩] 25))) := Below.refl _ _
  have hsz : (((w.alloc (.cells #[.int .u8 3, .int .u8 t.vk, .int .i64 t.vn, .string t.vs, .int .i64 t.var, .int .u8 t.op, .slice a0 t.kids.length c] 29)).alloc (.cells #[.int .u8 0, .int .i64 0, .string ⟨#[]⟩] 25)).alloc (.cells #[.int .u8 0, .int .i64 0, .string ⟨#[]⟩] 25)).heap.size = w.heap.size + 1 + 1 + 1 := by simp
  generalize (((w.alloc (.cells #[.int .u8 3, .int .u8 t.vk, .int .i64 t.vn, .string t.vs, .int .i64 t.var, .int .u8 t.op, .slice a0 t.kids.length c] 29)).alloc (.cells #[.int .u8 0, .int .i64 0, .string ⟨#[]⟩] 25)).alloc (.cells #[.int .u8 0, .int .i64 0, .string ⟨#[]⟩] 25)) = W0 at HB3 E0 E1 HL0 hsz ⊢
  go_loopw [7, 8] (fun l i wr => ∃ (k : Nat) (q : List V3), k ≤ t.kids.length ∧ i = .int .i64 k ∧ Hid (wr.ownsRow (w.heap.size + 1 + 1 + 1) 25 3 l k (cellsV q)) ∧ Hid (evalL vs (t.kids.take k) = (q, 0)) ∧ Hid (Below (w.heap.size + 1 + 1 + 1) W0 wr)) (fun _ i _ => t.kids.length - (intOf i).toNat)
  case atStart => exact ⟨0, [], by omega, rfl, World.ownsRow_nil _ _ _ _, by rw [List.take_zero]; exact evalL_nil vs, HL0⟩
  case round =>
    obtain ⟨k, q, hk, rfl, HO, HQ, HB⟩ := hrel
    clear HL0
    have hbw : Below w.heap.size w wr := HB3.out.trans (HB.out.mono (by omega))
    have HBW := Lib.hid hbw
    have hws := Nat.le_trans (Nat.le_of_eq hsz.symm) HB.out.size
    have y0 : wr.heap[w.heap.size]? = _ := (HB.out.block w.heap.size (by omega)).trans E0.out
    have x5 := Lib.cell_of_heap y0 5
    have x6 := Lib.cell_of_heap y0 6
    have y1 : wr.heap[w.heap.size + 1]? = _ := (HB.out.block (w.heap.size + 1) (by omega)).trans E1.out
    have HY1 := Lib.hid y1
    have HQL := Lib.hid (show q.length = k by have := evalL_length vs _ q HQ.out; rw [List.length_take] at this; omega)
    obtain ⟨ao, c', rfl⟩ := owns_slice HO.out
    clear y0 y1 hbw
    by_cases hlt : k < t.kids.length
    · obtain ⟨sb, off, rfl, hsb, hc⟩ := (HK.out.up HBW.out HBW.out.size).at (by omega)
      obtain ⟨u1, d0, d1, d2, d3, d4, d5, d6, hL1⟩ := hc k hlt
      have hmem : t.kids[k] ∈ t.kids := List.getElem_mem hlt
      have KL := Lib.hid (HI.out _ hmem wr u1 vo vc hL1 (HV.out.up HBW.out HBW.out.size) (HH.out.kid hmem))
      have HG := Lib.hid (show t.kids = t.kids.take k ++ t.kids[k] :: t.kids.drop (k + 1) by rw [← List.drop_eq_getElem_cons hlt, List.take_append_drop])
      have HG2 := Lib.hid (show t.kids.take (k + 1) = t.kids.take k ++ [t.kids[k]] by rw [List.take_add_one, List.getElem?_eq_getElem hlt]; rfl)
      have hkn : (k : Int) < (t.kids.length : Int) := by omega
      have hbx : sb ≠ w.heap.size := by
        have := HK.out.sl
        intro e
        obtain ⟨sb2, off2, e2, h2, _⟩ := HK.out.at (by omega)
        simp only [Option.some.injEq, Addr.mk.injEq, and_true] at e2
        omega
      have hwhat := eval_what vs HV.out.fine _ (HH.out.kid hmem)
      unfold agg DoPost at KL
      clear hc hL1 HI HK
      obtain ⟨kd, hkd⟩ : ∃ kd, kd = t.kids[k] := ⟨_, rfl⟩
      rw [← hkd] at d0 d1 d2 d3 d4 d5 KL HG HG2 hwhat
      clear hkd hmem
      by_cases h0 : (evalX vs kd).2 = 0
      · have HQ2 := Lib.hid (show evalL vs (t.kids.take (k + 1)) = (q ++ [(evalX vs kd).1], 0) by
          rw [HG2.out]
          have := evalL_snoc vs kd _ q HQ.out
          rwa [if_pos h0] at this)
        rw [h0] at KL
        clear h0 HG HG2 hwhat HE
        generalize (evalX vs kd).1 = r at KL HQ2
        obtain ⟨r1, r2, r3⟩ := r
        have hbl : w.heap.size + 1 + 1 + 1 ≤ wr.heap.size := hws
        go_wp2_with (first
          | (go_at_call 11; go_must (refine (KL.out).mono ?_; rintro e w1 ⟨rfl, hb⟩; have HBk := Lib.hid hb; have hsz1 := hb.size; have x5' := ((bone hb (show w.heap.size < wr.heap.size by omega)).1 5).trans x5; have x6' := ((bone hb (show w.heap.size < wr.heap.size by omega)).1 6).trans x6; clear hb))
          | (at_builtin; go_must (refine wpList_append_apart _ rfl (.tmp 58) (.tmp 60) 30 rfl (w.heap.size + 1 + 1 + 1) 25 i0 (.agg #[.int .u8 0, .int .i64 0, .string ⟨#[]⟩]) 3 32 Try.underlying30 hi hz0 hz1 hz2 rfl (by decide) (.slice ao k c') k (cellsV q) rfl (World.ownsRow.alloc (World.ownsRow.alloc (owns_below HO.out HBk.out) _) _) (some ⟨w1.heap.size + 1, 0, none⟩) 1 1 (cellsV [(r1, r2, r3)]) rfl rfl (by simp) (fun ad had j u hu => by obtain rfl := Option.some.inj had; rw [Addr.add_lit, Nat.zero_add]; exact cells_made2 w1 (.cells #[.int .u8 r1, .int .i64 r2, .string r3] 25) #[.int .u8 r1, .int .i64 r2, .string r3] 25 _ rfl j u (by simpa [cellsV] using hu)) (cellsV_one _) (by unfold maxLen; omega) (by omega) (by simp; omega) ?_; intro v' w4 h2 h3 h4; obtain ⟨ao4, c4, rfl⟩ := owns_slice h2; have HX := Lib.hid (And.intro h2 h3); clear h2 h3 h4)))
        have HO4 : Hid (w4.ownsRow (w.heap.size + 1 + 1 + 1) 25 3 (.slice ao4 (k + 1) c4) (k + 1) (cellsV (q ++ [(r1, r2, r3)]))) := by
          rw [cellsV_append]
          exact HX.out.1
        have HB4 : Hid (Below (w.heap.size + 1 + 1 + 1) W0 w4) := (((HB.out.trans (HBk.out.mono hws)).alloc (by omega) _).alloc (by simp; omega) _).grown HX.out.2 (by simp; omega) (fun j hj => (HO.out.lt j hj).1)
        clear HX HO HQ HB HBk HQL KL d0 d1 d2 d3 d4 d5 d6 x5 x6 x5' x6' HBW HY1
        go_roundw
        case rel => exact ⟨k + 1, q ++ [(r1, r2, r3)], by omega, by go_num, HO4, HQ2, HB4⟩
        case measure => simp [intOf]; omega
      · have hd : ((evalX vs kd).2 != 0) = true := by simp [h0]
        have HZ := Lib.hid (show evalX vs t = (zeroT, (evalX vs kd).2) by
          have := evalL_fault vs kd h0 (t.kids.drop (k + 1)) _ q HQ.out
          rw [← HG.out] at this
          rw [HE.out, this, if_neg h0])
        clear h0 HG HG2 hwhat HE
        generalize (evalX vs kd).2 = r at KL hd HZ
        generalize (evalX vs kd).1 = p at KL
        obtain ⟨p1, p2, p3⟩ := p

        go_wp2_with (go_at_call 11; go_must (refine (KL.out).mono ?_; rintro e w1 ⟨rfl, hb⟩; have HN := Lib.hid (alloc_keep ((hb.block (w.heap.size + 1) (by omega)).trans HY1.out) (.cells #[.int .u8 p1, .int .i64 p2, .string p3] 25)); have n0 := Lib.cell_of_heap HN.out 0; have n1 := Lib.cell_of_heap HN.out 1; have n2 := Lib.cell_of_heap HN.out 2; have nf := fun j => Lib.frozen_of_heap HN.out j; have HBk := Lib.hid hb; clear hb))
        refine val_end Try.results11 rfl rfl rfl HN.out rfl fun W3 _ w3 => ⟨by have hz := HZ.out; rw [hz]; first | done | rfl, ?_⟩
        have hb := (HBW.out.trans (HBk.out.mono HBW.out.size)).alloc (Nat.le_trans HBW.out.size HBk.out.size) (.cells #[.int .u8 p1, .int .i64 p2, .string p3] 25)
        exact hb.grown w3 hb.size (fun j hj => by obtain rfl := Option.some.inj hj; omega)
    · obtain rfl : k = t.kids.length := by omega
      have hQ := HQ.out
      rw [List.take_length] at hQ
      have hfq := evalL_fine vs HV.out.fine t.kids q (fun x hx => HH.out.kid hx) hQ
      have HZ := Lib.hid (show evalX vs t = doV t.op q by rw [HE.out, hQ, if_pos rfl])
      have hrow : 0 < q.length → ∃ b off, ao = some ⟨b, off, none⟩ ∧ b < wr.heap.size ∧ RowAt wr b off q := fun hp => by
        have ho := HO.out
        rw [← HQL.out] at ho
        rcases ho.2 with ⟨_, h0⟩ | ⟨g, cap, cur, h', _⟩
        · omega
        · simp only [Value.slice.injEq] at h'
          obtain ⟨rfl, _, rfl⟩ := h'
          exact ⟨g, 0, rfl, (ho.lt g rfl).2, RowAt.ofCells q fun j hj => by rw [Nat.zero_add]; exact ho.cellAt j hj⟩
      have HD := Lib.hid (refDo_row t.op ao c' q wr (by rw [HQL.out]; omega) hrow hfq)
      have hkk : ¬ (t.kids.length : Int) < (t.kids.length : Int) := by omega
      rw [HQL.out] at HD
      unfold DoPost at HD
      clear hQ hfq hrow HO HQ HE HK HI HV HH
      generalize doV t.op q = r at HD HZ
      go_wp2_with (go_at_call 25; go_must (refine (HD.out).mono ?_; rintro e w1 ⟨rfl, hb⟩; have HN := Lib.hid ((hb.block (w.heap.size + 1) (by omega)).trans HY1.out); have n0 := Lib.cell_of_heap HN.out 0; have n1 := Lib.cell_of_heap HN.out 1; have n2 := Lib.cell_of_heap HN.out 2; have nf := fun j => Lib.frozen_of_heap HN.out j; have HBk := Lib.hid hb; clear hb))
      refine val_end Try.results11 rfl rfl rfl HN.out rfl fun W3 _ w3 => ⟨by have hz := HZ.out; rw [hz]; first | done | rfl, ?_⟩
      have hb := HBW.out.trans (HBk.out.mono HBW.out.size)
      exact hb.grown w3 hb.size (fun j hj => by obtain rfl := Option.some.inj hj; omega)

/-- No operation has too many kids: then the document's Eval tells what the plain function says. -/
theorem refX_any (vs : List V3) (t : X) (hf : Fits t) : RefXOK vs t := by
  induction t using X.ind with
  | h t ih =>
    by_cases h1 : t.kind = 1
    · exact refX_const vs t h1
    · by_cases h2 : t.kind = 2
      · by_cases hr : 0 ≤ t.var ∧ t.var < (vs.length : Int)
        · exact refX_varin vs t h2 hr
        · exact refX_varout vs t h2 hr
      · by_cases h3 : t.kind = 3
        · exact refX_op vs t h3 (by have := hf.len; omega) fun k hk => ih k hk (hf.kid hk)
        · exact refX_other vs t h1 h2 h3
end Go.Proofs.Ytkbkkhfmejpbeaa
