/- The document's Eval, of any expression wherever it lies. -/
import Derived.Test.YtkbkkhfmejpbeaaMoves9
namespace Go.Proofs.Ytkbkkhfmejpbeaa
open Go.RowKit

theorem refRightB (k n : Int) (s : ByteArray) (w : World) (hs : s.size ≤ maxLen) :
    Calls Try.prog 26 #[.agg #[.int .u8 k, .int .i64 n, .string s]] w fun e w' => e = .returned (.bool (rightB k n s)) ∧ Gr w w' :=
  (refRight_any k n s w hs).mono fun _ _ ⟨h, h'⟩ => ⟨h, h' ▸ (Gr.refl w).alloc _⟩

theorem refDo_row (op : Int) (ro : Option Addr) (rc : Nat) (zs : List V3) (w : World) (hz : zs.length ≤ 9223372036854775807) (hr : 0 < zs.length → ∃ b off, ro = some ⟨b, off, none⟩ ∧ b < w.heap.size ∧ RowAt w b off zs) (hf : Fine zs) :
    Calls Try.prog 25 #[.int .u8 op, .slice ro zs.length rc] w (DoPost (doV op zs) w) := by
  by_cases hl : 0 < zs.length
  · obtain ⟨b, off, rfl, hbl, hrow⟩ := hr hl
    exact refDo_any op b off rc zs w hz hbl hrow hf
  · obtain rfl : zs = [] := List.eq_nil_of_length_eq_zero (by omega)
    unfold doV
    cases h : knownB op with
    | false => rw [if_pos rfl]; exact refDo_arg op ro 0 rc w (Or.inl h)
    | true =>
      have h2 : (((([] : List V3).length : Nat) : Int) != placesN op) = true := by
        unfold placesN
        split <;> rfl
      rw [if_neg (by simp), if_pos h2]
      exact refDo_arg op ro 0 rc w (Or.inr h2)

def RefXOK (vs : List V3) (t : X) : Prop := ∀ (w : World) (v : Value) (vo : Option Addr) (vc : Nat), Lies w.heap.size w t v → Vars w.heap.size w vo vc vs → Held t → Calls Try.prog 11 #[agg t v, .slice vo vs.length vc] w (DoPost (evalX vs t) w)


abbrev zeroArr : Array Value := #[.int .u8 0, .int .i64 0, .string ⟨#[]⟩]
theorem three_boxes {w : World} {E V : Array Value} :
    Below w.heap.size w (((w.alloc (.cells E 29)).alloc (.cells zeroArr 25)).alloc (.cells V 25)) ∧
    (((w.alloc (.cells E 29)).alloc (.cells zeroArr 25)).alloc (.cells V 25)).heap[w.heap.size]? = some (.cells E 29 (0, 0)) ∧
    (((w.alloc (.cells E 29)).alloc (.cells zeroArr 25)).alloc (.cells V 25)).heap[w.heap.size + 1]? = some (.cells zeroArr 25 (0, 0)) ∧
    (((w.alloc (.cells E 29)).alloc (.cells zeroArr 25)).alloc (.cells V 25)).heap[w.heap.size + 1 + 1]? = some (.cells V 25 (0, 0)) :=
  ⟨((below_own _).alloc (by simp) _).alloc (by simp; omega) _, alloc_keep (alloc_keep (alloc_at rfl _) _) _, alloc_keep (alloc_at (by simp) _) _, alloc_at (by simp) _⟩

set_option maxRecDepth 100000 in
set_option maxHeartbeats 4000000 in
theorem refX_const (vs : List V3) (t : X) (h1 : t.kind = 1) : RefXOK vs t := by
  intro w v vo vc hl hv hh
  have hE : evalX vs t = ifR (t.vk, t.vn, t.vs) := by
    rw [evalX_eq, if_pos h1]
    rfl
  obtain ⟨hB3, e0, e1, e2⟩ := three_boxes (w := w) (E := #[.int .u8 t.kind, .int .u8 t.vk, .int .i64 t.vn, .string t.vs, .int .i64 t.var, .int .u8 t.op, v]) (V := #[.int .u8 t.vk, .int .i64 t.vn, .string t.vs])
  rw [hE]
  have HR := Lib.hid (fun W => refRightB t.vk t.vn t.vs W hh.val.2)
  rw [h1] at hB3 e0 e1 e2
  unfold zeroArr at *
  have HB3 := Lib.hid hB3
  have E1 := Lib.hid e1
  have S3 := Lib.hid e2
  have k0 := Lib.cell_of_heap e2 0
  have k1 := Lib.cell_of_heap e2 1
  have k2 := Lib.cell_of_heap e2 2
  unfold ifR DoPost
  simp only
  clear hl hv hh hE hB3 e0 e1 e2
  unfold agg
  rw [h1]
  cases hr : rightB t.vk t.vn t.vs with
  | true =>
    rw [if_pos rfl]
    rw [hr] at HR
    go_enter Try.func11, Try.ntmps11
    go_wp2_with (go_at_call 26; go_must (refine (HR.out _).mono ?_; rintro e w1 ⟨rfl, hg⟩; have hk2 := (hg.below.block (w.heap.size + 1 + 1) (lt_of_heap S3.out)).trans S3.out; have k0 := Lib.cell_of_heap hk2 0; have k1 := Lib.cell_of_heap hk2 1; have k2 := Lib.cell_of_heap hk2 2; have HN := Lib.hid ((hg.below.block (w.heap.size + 1) (lt_of_heap E1.out)).trans E1.out); have n0 := Lib.cell_of_heap HN.out 0; have n1 := Lib.cell_of_heap HN.out 1; have n2 := Lib.cell_of_heap HN.out 2; have nf := fun j => Lib.frozen_of_heap HN.out j; have HG := Lib.hid hg.below; clear hg hk2))
    refine val_end Try.results11 rfl rfl rfl HN.out rfl fun W3 _ w3 => ⟨rfl, ?_⟩
    exact (HB3.out.trans (HG.out.mono HB3.out.size)).grown w3 (Nat.le_trans HB3.out.size HG.out.size) (fun q hq => by obtain rfl := Option.some.inj hq; omega)
  | false =>
    rw [if_neg (by simp)]
    rw [hr] at HR
    go_enter Try.func11, Try.ntmps11
    go_wp2_with (go_at_call 26; go_must (refine (HR.out _).mono ?_; rintro e w1 ⟨rfl, hg⟩; have hk2 := (hg.below.block (w.heap.size + 1 + 1) (lt_of_heap S3.out)).trans S3.out; have k0 := Lib.cell_of_heap hk2 0; have k1 := Lib.cell_of_heap hk2 1; have k2 := Lib.cell_of_heap hk2 2; have HN := Lib.hid ((hg.below.block (w.heap.size + 1) (lt_of_heap E1.out)).trans E1.out); have n0 := Lib.cell_of_heap HN.out 0; have n1 := Lib.cell_of_heap HN.out 1; have n2 := Lib.cell_of_heap HN.out 2; have nf := fun j => Lib.frozen_of_heap HN.out j; have HG := Lib.hid hg.below; clear hg hk2))
    refine val_end Try.results11 rfl rfl rfl HN.out rfl fun W3 _ w3 => ⟨rfl, ?_⟩
    exact (HB3.out.trans (HG.out.mono HB3.out.size)).grown w3 (Nat.le_trans HB3.out.size HG.out.size) (fun q hq => by obtain rfl := Option.some.inj hq; omega)

set_option maxRecDepth 100000 in
set_option maxHeartbeats 4000000 in
theorem refX_varin (vs : List V3) (t : X) (h1 : t.kind = 2) (hr : 0 ≤ t.var ∧ t.var < (vs.length : Int)) : RefXOK vs t := by
  intro w v vo vc hl hv hh
  obtain ⟨rb, off, rfl, hrb, hrow⟩ := hv.row (by omega)
  obtain ⟨k, hk⟩ : ∃ k : Nat, t.var = (k : Int) := ⟨t.var.toNat, by omega⟩
  have hkl : k < vs.length := by omega
  have hgd : vs.getD t.var.toNat zeroT = vs[k] := by
    rw [hk, List.getD_eq_getElem?_getD, Int.toNat_natCast, List.getElem?_eq_getElem hkl]
    rfl
  have hE : evalX vs t = ifR vs[k] := by
    rw [evalX_eq, if_neg (by rw [h1]; decide), if_pos h1, if_pos hr]
    rw [hgd]
  have hfx := hv.fine _ (List.getElem_mem hkl)
  have hat := hrow k hkl
  have hfew := hv.few
  rw [hk] at hr
  generalize vs[k] = x at hE hfx hat
  obtain ⟨xk, xn, xs⟩ := x
  obtain ⟨a1, a2, a3⟩ := hat
  obtain ⟨hB3, e0, e1, e2⟩ := three_boxes (w := w) (E := #[.int .u8 t.kind, .int .u8 t.vk, .int .i64 t.vn, .string t.vs, .int .i64 (k : Int), .int .u8 t.op, v]) (V := #[.int .u8 xk, .int .i64 xn, .string xs])
  have hZ := (three_boxes (w := w) (E := #[.int .u8 t.kind, .int .u8 t.vk, .int .i64 t.vn, .string t.vs, .int .i64 (k : Int), .int .u8 t.op, v]) (V := zeroArr)).1
  have y1 := (hZ.cell (p := ⟨rb, _, none⟩) hrb).trans a1
  have y2 := (hZ.cell (p := ⟨rb, _, none⟩) hrb).trans a2
  have y3 := (hZ.cell (p := ⟨rb, _, none⟩) hrb).trans a3
  rw [hE]
  have HR := Lib.hid (fun W => refRightB xk xn xs W hfx.2)
  rw [h1] at hB3 e0 e1 e2 y1 y2 y3
  unfold zeroArr at *
  have HB3 := Lib.hid hB3
  have E1 := Lib.hid e1
  have S3 := Lib.hid e2
  have k0 := Lib.cell_of_heap e2 0
  have k1 := Lib.cell_of_heap e2 1
  have k2 := Lib.cell_of_heap e2 2
  have hr1 : rb ≠ w.heap.size := by omega
  have hr2 : rb ≠ w.heap.size + 1 := by omega
  have hr3 : rb ≠ w.heap.size + 1 + 1 := by omega
  have hr0 := hr.1
  have hr4 := hr.2
  unfold ifR DoPost
  simp only
  clear hl hv hh hE hB3 e0 e1 e2 hgd hrow hr hfx hZ a1 a2 a3
  unfold agg
  rw [h1, hk]
  cases hr : rightB xk xn xs with
  | true =>
    rw [if_pos rfl]
    rw [hr] at HR
    go_enter Try.func11, Try.ntmps11
    go_wp2_with (go_at_call 26; go_must (refine (HR.out _).mono ?_; rintro e w1 ⟨rfl, hg⟩; have hk2 := (hg.below.block (w.heap.size + 1 + 1) (lt_of_heap S3.out)).trans S3.out; have k0 := Lib.cell_of_heap hk2 0; have k1 := Lib.cell_of_heap hk2 1; have k2 := Lib.cell_of_heap hk2 2; have HN := Lib.hid ((hg.below.block (w.heap.size + 1) (lt_of_heap E1.out)).trans E1.out); have n0 := Lib.cell_of_heap HN.out 0; have n1 := Lib.cell_of_heap HN.out 1; have n2 := Lib.cell_of_heap HN.out 2; have nf := fun j => Lib.frozen_of_heap HN.out j; have HG := Lib.hid hg.below; clear hg hk2))
    refine val_end Try.results11 rfl rfl rfl HN.out rfl fun W3 _ w3 => ⟨rfl, ?_⟩
    exact (HB3.out.trans (HG.out.mono HB3.out.size)).grown w3 (Nat.le_trans HB3.out.size HG.out.size) (fun q hq => by obtain rfl := Option.some.inj hq; omega)
  | false =>
    rw [if_neg (by simp)]
    rw [hr] at HR
    go_enter Try.func11, Try.ntmps11
    go_wp2_with (go_at_call 26; go_must (refine (HR.out _).mono ?_; rintro e w1 ⟨rfl, hg⟩; have hk2 := (hg.below.block (w.heap.size + 1 + 1) (lt_of_heap S3.out)).trans S3.out; have k0 := Lib.cell_of_heap hk2 0; have k1 := Lib.cell_of_heap hk2 1; have k2 := Lib.cell_of_heap hk2 2; have HN := Lib.hid ((hg.below.block (w.heap.size + 1) (lt_of_heap E1.out)).trans E1.out); have n0 := Lib.cell_of_heap HN.out 0; have n1 := Lib.cell_of_heap HN.out 1; have n2 := Lib.cell_of_heap HN.out 2; have nf := fun j => Lib.frozen_of_heap HN.out j; have HG := Lib.hid hg.below; clear hg hk2))
    refine val_end Try.results11 rfl rfl rfl HN.out rfl fun W3 _ w3 => ⟨rfl, ?_⟩
    exact (HB3.out.trans (HG.out.mono HB3.out.size)).grown w3 (Nat.le_trans HB3.out.size HG.out.size) (fun q hq => by obtain rfl := Option.some.inj hq; omega)

set_option maxRecDepth 100000 in
set_option maxHeartbeats 4000000 in
theorem refX_varout (vs : List V3) (t : X) (h1 : t.kind = 2) (hr : ¬ (0 ≤ t.var ∧ t.var < (vs.length : Int))) : RefXOK vs t := by
  intro w v vo vc hl hv hh
  have hE : evalX vs t = (zeroT, 2) := by rw [evalX_eq, if_neg (by rw [h1]; decide), if_pos h1, if_neg hr]
  obtain ⟨hB3, e0, e1, e2⟩ := three_boxes (w := w) (E := #[.int .u8 t.kind, .int .u8 t.vk, .int .i64 t.vn, .string t.vs, .int .i64 t.var, .int .u8 t.op, v]) (V := #[.int .u8 0, .int .i64 0, .string ⟨#[]⟩])
  rw [hE]
  have HR := Lib.hid (fun W => refRightB 0 0 ⟨#[]⟩ W (Nat.zero_le _))
  rw [h1] at hB3 e0 e1 e2
  unfold zeroArr at *
  have HB3 := Lib.hid hB3
  have E1 := Lib.hid e1
  have S3 := Lib.hid e2
  have k0 := Lib.cell_of_heap e2 0
  have k1 := Lib.cell_of_heap e2 1
  have k2 := Lib.cell_of_heap e2 2
  have hfalse : rightB 0 0 ⟨#[]⟩ = false := rfl
  rw [hfalse] at HR
  unfold DoPost zeroT
  simp only
  clear hl hv hh hE hB3 e0 e1 e2
  unfold agg
  rw [h1]
  by_cases h0 : 0 ≤ t.var
  · have hd : (vs.length : Int) ≤ t.var := by omega
    clear hr
    go_enter Try.func11, Try.ntmps11
    go_wp2_with (go_at_call 26; go_must (refine (HR.out _).mono ?_; rintro e w1 ⟨rfl, hg⟩; have hk2 := (hg.below.block (w.heap.size + 1 + 1) (lt_of_heap S3.out)).trans S3.out; have k0 := Lib.cell_of_heap hk2 0; have k1 := Lib.cell_of_heap hk2 1; have k2 := Lib.cell_of_heap hk2 2; have HN := Lib.hid ((hg.below.block (w.heap.size + 1) (lt_of_heap E1.out)).trans E1.out); have n0 := Lib.cell_of_heap HN.out 0; have n1 := Lib.cell_of_heap HN.out 1; have n2 := Lib.cell_of_heap HN.out 2; have nf := fun j => Lib.frozen_of_heap HN.out j; have HG := Lib.hid hg.below; clear hg hk2))
    refine val_end Try.results11 rfl rfl rfl HN.out rfl fun W3 _ w3 => ⟨rfl, ?_⟩
    exact (HB3.out.trans (HG.out.mono HB3.out.size)).grown w3 (Nat.le_trans HB3.out.size HG.out.size) (fun q hq => by obtain rfl := Option.some.inj hq; omega)
  · clear hr
    go_enter Try.func11, Try.ntmps11
    go_wp2_with (go_at_call 26; go_must (refine (HR.out _).mono ?_; rintro e w1 ⟨rfl, hg⟩; have hk2 := (hg.below.block (w.heap.size + 1 + 1) (lt_of_heap S3.out)).trans S3.out; have k0 := Lib.cell_of_heap hk2 0; have k1 := Lib.cell_of_heap hk2 1; have k2 := Lib.cell_of_heap hk2 2; have HN := Lib.hid ((hg.below.block (w.heap.size + 1) (lt_of_heap E1.out)).trans E1.out); have n0 := Lib.cell_of_heap HN.out 0; have n1 := Lib.cell_of_heap HN.out 1; have n2 := Lib.cell_of_heap HN.out 2; have nf := fun j => Lib.frozen_of_heap HN.out j; have HG := Lib.hid hg.below; clear hg hk2))
    refine val_end Try.results11 rfl rfl rfl HN.out rfl fun W3 _ w3 => ⟨rfl, ?_⟩
    exact (HB3.out.trans (HG.out.mono HB3.out.size)).grown w3 (Nat.le_trans HB3.out.size HG.out.size) (fun q hq => by obtain rfl := Option.some.inj hq; omega)

set_option maxRecDepth 100000 in
set_option maxHeartbeats 4000000 in
theorem refX_other (vs : List V3) (t : X) (h1 : t.kind ≠ 1) (h2 : t.kind ≠ 2) (h3 : t.kind ≠ 3) : RefXOK vs t := by
  intro w v vo vc hl hv hh
  have hE : evalX vs t = (zeroT, 2) := by rw [evalX_eq, if_neg h1, if_neg h2, if_neg h3]
  obtain ⟨hB3, e0, e1, e2⟩ := three_boxes (w := w) (E := #[.int .u8 t.kind, .int .u8 t.vk, .int .i64 t.vn, .string t.vs, .int .i64 t.var, .int .u8 t.op, v]) (V := #[.int .u8 0, .int .i64 0, .string ⟨#[]⟩])
  rw [hE]
  have HR := Lib.hid (fun W => refRightB 0 0 ⟨#[]⟩ W (Nat.zero_le _))
  unfold zeroArr at *
  have HB3 := Lib.hid hB3
  have E1 := Lib.hid e1
  have S3 := Lib.hid e2
  have k0 := Lib.cell_of_heap e2 0
  have k1 := Lib.cell_of_heap e2 1
  have k2 := Lib.cell_of_heap e2 2
  have z1 : (t.kind == 1) = false := beq_eq_false_iff_ne.2 h1
  have z2 : (t.kind == 2) = false := beq_eq_false_iff_ne.2 h2
  have z3 : (t.kind == 3) = false := beq_eq_false_iff_ne.2 h3
  have hfalse : rightB 0 0 ⟨#[]⟩ = false := rfl
  rw [hfalse] at HR
  unfold DoPost zeroT
  simp only
  clear hl hv hh hE hB3 e0 e1 e2 h1 h2 h3
  unfold agg
  go_enter Try.func11, Try.ntmps11
  go_wp2_with (go_at_call 26; go_must (refine (HR.out _).mono ?_; rintro e w1 ⟨rfl, hg⟩; have hk2 := (hg.below.block (w.heap.size + 1 + 1) (lt_of_heap S3.out)).trans S3.out; have k0 := Lib.cell_of_heap hk2 0; have k1 := Lib.cell_of_heap hk2 1; have k2 := Lib.cell_of_heap hk2 2; have HN := Lib.hid ((hg.below.block (w.heap.size + 1) (lt_of_heap E1.out)).trans E1.out); have n0 := Lib.cell_of_heap HN.out 0; have n1 := Lib.cell_of_heap HN.out 1; have n2 := Lib.cell_of_heap HN.out 2; have nf := fun j => Lib.frozen_of_heap HN.out j; have HG := Lib.hid hg.below; clear hg hk2))
  refine val_end Try.results11 rfl rfl rfl HN.out rfl fun W3 _ w3 => ⟨rfl, ?_⟩
  exact (HB3.out.trans (HG.out.mono HB3.out.size)).grown w3 (Nat.le_trans HB3.out.size HG.out.size) (fun q hq => by obtain rfl := Option.some.inj hq; omega)
end Go.Proofs.Ytkbkkhfmejpbeaa
