/- Trees that are lent: each row of kids a row of its own, with marks behind it. -/
import Derived.Test.YtnnhgbncghpecaaGreatSame10
namespace Go.Proofs.YtnnhgbncghpecaaGreat
open Go.RowKit

theorem cells_madeE2 (w : World) (A : Obj) (cs : Array Value) (t : TypeId) (j : Nat) (u : Value) (h : cs[j]? = some u) : ((w.alloc A).alloc (.cells cs t)).cell? ⟨w.heap.size + 1, j, none⟩ = some u := by
  have := cells_made (w.alloc A) cs t j u h
  rwa [show (w.alloc A).heap.size = w.heap.size + 1 by simp] at this
theorem two_boxes {w w1 : World} {c1 c2 : Array Value} {t1 t2 : TypeId} (h : Below ((w.alloc (.cells c1 t1)).alloc (.cells c2 t2)).heap.size ((w.alloc (.cells c1 t1)).alloc (.cells c2 t2)) w1) :
    (∀ j, w1.cell? ⟨w.heap.size, j, none⟩ = c1[j]?) ∧ (∀ j, w1.cell? ⟨w.heap.size + 1, j, none⟩ = c2[j]?) := by
  have e1 : ((w.alloc (.cells c1 t1)).alloc (.cells c2 t2)).heap[w.heap.size]? = some (.cells c1 t1 (0, 0)) := by
    rw [Below.heap_alloc _ _ _ (by simp)]
    exact heap_alloc_new w _
  have e2 : ((w.alloc (.cells c1 t1)).alloc (.cells c2 t2)).heap[w.heap.size + 1]? = some (.cells c2 t2 (0, 0)) := by
    have := heap_alloc_new (w.alloc (.cells c1 t1)) (.cells c2 t2)
    simpa using this
  exact ⟨fun j => Lib.cell_of_heap ((h.block _ (by simp; omega)).trans e1) j, fun j => Lib.cell_of_heap ((h.block _ (by simp)).trans e2) j⟩
theorem two_frozen {w w1 : World} {c1 c2 : Array Value} {t1 t2 : TypeId} (h : Below ((w.alloc (.cells c1 t1)).alloc (.cells c2 t2)).heap.size ((w.alloc (.cells c1 t1)).alloc (.cells c2 t2)) w1) :
    (∀ j, w1.frozen? ⟨w.heap.size, j, none⟩ = false) ∧ (∀ j, w1.frozen? ⟨w.heap.size + 1, j, none⟩ = false) := by
  have e1 : ((w.alloc (.cells c1 t1)).alloc (.cells c2 t2)).heap[w.heap.size]? = some (.cells c1 t1 (0, 0)) := by
    rw [Below.heap_alloc _ _ _ (by simp)]
    exact heap_alloc_new w _
  have e2 : ((w.alloc (.cells c1 t1)).alloc (.cells c2 t2)).heap[w.heap.size + 1]? = some (.cells c2 t2 (0, 0)) := by
    have := heap_alloc_new (w.alloc (.cells c1 t1)) (.cells c2 t2)
    simpa using this
  exact ⟨fun j => Lib.frozen_of_heap ((h.block _ (by simp; omega)).trans e1) j, fun j => Lib.frozen_of_heap ((h.block _ (by simp)).trans e2) j⟩
theorem below_two (w : World) (o1 o2 : Obj) : Below w.heap.size w ((w.alloc o1).alloc o2) := below_new (below_own o1) o2

theorem markE_any (k i : Int) (hk : 0 ≤ k) (hk2 : k ≤ 10) (hi : 0 ≤ i) (hi2 : i ≤ 100000) (w : World) :
    Calls Tryz.prog 41 #[.int .i64 k, .int .i64 i] w fun e w' => e = .returned (.int .i64 (1000003 * (k + 7) + i)) ∧ w = w' := by
  go_enter Tryz.func41, Tryz.ntmps41
  go_wp2
  go_ret
  exact ⟨rfl, rfl⟩
theorem markExpr_any (k i : Int) (hk : 0 ≤ k) (hk2 : k ≤ 10) (hi : 0 ≤ i) (hi2 : i ≤ 100000) (w : World) :
    Calls Tryz.prog 54 #[.int .i64 k, .int .i64 i] w fun e w' => e = .returned (.agg #[.int .u8 0, .int .u8 0, .int .i64 0, .string ⟨#[]⟩, .int .i64 (1000003 * (k + 7) + i), .int .u8 0, .slice none 0 0]) ∧ Gr w w' := by
  have HM := Lib.hid (fun W => markE_any k i hk hk2 hi hi2 W)
  have HG := Lib.hid (fun c1 c2 => (Gr.refl w).alloc (.cells c1 c2))
  generalize 1000003 * (k + 7) + i = x at HM ⊢
  clear hk hk2 hi hi2
  go_enter Tryz.func54, Tryz.ntmps54
  go_wp2_with (go_at_call 41; refine (HM.out _).mono ?_; rintro e w' ⟨rfl, rfl⟩)
  exact bodyPost_ret (v := .agg #[.int .u8 0, .int .u8 0, .int .i64 0, .string ⟨#[]⟩, .int .i64 x, .int .u8 0, .slice none 0 0]) (by simp [results, Tryz.results54, go_sem]) rfl ⟨rfl, HG.out _ _⟩

/-- The marks behind a row. -/
def mkE (n : Nat) : List (X × Value) := (List.range n).map fun (i : Nat) => (X.mk 0 0 0 ⟨#[]⟩ (1000003 * (1 + 7) + (i : Int)) 0 [], .slice none 0 0)
theorem mkE_succ (n : Nat) : mkE (n + 1) = mkE n ++ [(X.mk 0 0 0 ⟨#[]⟩ (1000003 * (1 + 7) + (n : Int)) 0 [], .slice none 0 0)] := by
  unfold mkE
  rw [List.range_succ, List.map_append]
  rfl
theorem mkE_length (n : Nat) : (mkE n).length = n := by simp [mkE]

/-- No node has too many kids. -/
inductive Fits : X → Prop
  | mk (t : X) (hl : t.kids.length ≤ 100000) (hp : ∀ k, k ∈ t.kids → Fits k) : Fits t
theorem Fits.len {t : X} (h : Fits t) : t.kids.length ≤ 100000 := by cases h; assumption
theorem Fits.kid {t k : X} (h : Fits t) (hk : k ∈ t.kids) : Fits k := by cases h with | mk _ _ hp => exact hp k hk

/-- v is the slice of a tree's kids, lent, in memory from base on. -/
inductive LentX (base : Nat) (w : World) : X → Value → Prop
  | mk (t : X) (g : Nat) (cur : Array Value) (ps : List (X × Value)) (hk : ps.map Prod.fst = t.kids) (hl : t.kids.length ≤ 100000) (hb : base ≤ g) (hg : w.heap[g]? = some (.cells cur 31 (0, 0))) (hc : cur.toList = cellsE (ps ++ mkE 12)) (hp : ∀ p, p ∈ ps → LentX base w p.1 p.2) : LentX base w t (.slice (some ⟨g, 0, none⟩) t.kids.length (t.kids.length + 12))
theorem LentX.addr {base : Nat} {w : World} {t : X} {v : Value} (h : LentX base w t v) : ∃ g, v = .slice (some ⟨g, 0, none⟩) t.kids.length (t.kids.length + 12) ∧ base ≤ g ∧ g < w.heap.size := by
  cases h with
  | mk _ g cur ps hk hl hb hg hc hp => exact ⟨g, rfl, hb, lt_of_heap hg⟩
theorem LentX.old {base : Nat} {w w' : World} {t : X} {v : Value} (h : LentX base w t v) (b : Below w.heap.size w w') : LentX base w' t v := by
  induction h with
  | mk t g cur ps hk hl hb hg hc _ ih => exact .mk t g cur ps hk hl hb ((b.block g (lt_of_heap hg)).trans hg) hc ih
theorem LentX.apart {base g : Nat} {w w' : World} {t : X} {v : Value} (h : LentX base w t v) (b : w.grownBy w' (some g)) (hlt : g < base) : LentX base w' t v := by
  induction h with
  | mk t q cur ps hk hl hb hg hc _ ih => exact .mk t q cur ps hk hl hb ((b.block q (lt_of_heap hg) (fun e => by have := Option.some.inj e; omega)).trans hg) hc ih
theorem LentX.mono {base base' : Nat} {w : World} {t : X} {v : Value} (h : LentX base w t v) (b : base' ≤ base) : LentX base' w t v := by
  induction h with
  | mk t g cur ps hk hl hb hg hc _ ih => exact .mk t g cur ps hk hl (Nat.le_trans b hb) hg hc ih
theorem LentX.lies {base : Nat} {w : World} {t : X} {v : Value} (h : LentX base w t v) : Lies w.heap.size w t v := by
  induction h with
  | mk t g cur ps hk hl hb hg hc _ ih =>
    refine .mk t _ _ ps hk (fun _ => ⟨g, 0, rfl, lt_of_heap hg, fun j u hj => ?_⟩) (fun h => by cases h) (by omega) (by unfold maxLen; omega) ih
    rw [Nat.zero_add, Lib.cell_of_heap hg, ← Array.getElem?_toList, hc, cellsE_append, List.getElem?_append_left (List.getElem?_eq_some_iff.1 hj).1]
    exact hj

def LentOK (t : X) : Prop := ∀ (w : World) (v : Value), Lies w.heap.size w t v → Fits t → Calls Tryz.prog 24 #[agg t v] w (fun e w' => ∃ v', e = .returned (agg t v') ∧ LentX w.heap.size w' t v' ∧ Below w.heap.size w w')
def LentsOK (t : X) : Prop := ∀ (w : World) (v : Value), Lies w.heap.size w t v → Fits t → Calls Tryz.prog 40 #[v] w (fun e w' => ∃ v', e = .returned v' ∧ LentX w.heap.size w' t v' ∧ Below w.heap.size w w')

set_option maxRecDepth 100000 in
set_option maxHeartbeats 2000000 in
theorem lent_step (t : X) (h : LentsOK t) : LentOK t := by
  intro w v h1 hf
  have HB := Lib.hid (below_two w (.cells #[.int .u8 t.kind, .int .u8 t.vk, .int .i64 t.vn, .string t.vs, .int .i64 t.var, .int .u8 t.op, v] 31) (.cells #[.int .u8 0, .int .u8 0, .int .i64 0, .string ⟨#[]⟩, .int .i64 0, .int .u8 0, .slice none 0 0] 31))
  have HV := Lib.hid (h _ v (h1.up HB.out HB.out.size) hf)
  obtain ⟨a1, c1, ps1, rfl, -⟩ := h1.out
  clear h1 h hf
  unfold agg
  go_enter Tryz.func24, Tryz.ntmps24
  go_wp2_with (go_at_call 40; go_must (refine (HV.out).mono ?_; rintro e w1 ⟨v', rfl, hL, hb⟩; obtain ⟨g, rfl, hgb, hgl⟩ := hL.addr; obtain ⟨b1, b2⟩ := two_boxes hb; obtain ⟨b3, b4⟩ := two_frozen hb; have HG := Lib.hid hL; have HBb := Lib.hid hb; clear hL hb))
  have hz : ((w.alloc (.cells #[.int .u8 t.kind, .int .u8 t.vk, .int .i64 t.vn, .string t.vs, .int .i64 t.var, .int .u8 t.op, .slice a1 t.kids.length c1] 31)).alloc (.cells #[.int .u8 0, .int .u8 0, .int .i64 0, .string ⟨#[]⟩, .int .i64 0, .int .u8 0, .slice none 0 0] 31)).heap.size = w.heap.size + 1 + 1 := by simp
  have hG := HG.out
  rw [hz] at hG hgb
  have hB1 : Below w.heap.size w w1 := HB.out.trans (HBb.out.mono HB.out.size)
  refine bodyPost_ret (v := .agg #[.int .u8 t.kind, .int .u8 t.vk, .int .i64 t.vn, .string t.vs, .int .i64 t.var, .int .u8 t.op, .slice (some ⟨g, 0, none⟩) t.kids.length (t.kids.length + 12)]) (by simp [results, Tryz.results24, go_sem, b2]) rfl ⟨_, rfl, ?_, ?_⟩
  · have step : ∀ (W : World) (q i : Nat) (x : Value) (u : Value), LentX (w.heap.size + 1 + 1) W t u → q < w.heap.size + 1 + 1 → LentX (w.heap.size + 1 + 1) (W.setCell ⟨q, i, none⟩ x) t u := fun W q i x u h hq => h.apart (Lib.grownBy_setCell W q i x) hq
    exact ((step _ _ _ _ _ (step _ _ _ _ _ (step _ _ _ _ _ (step _ _ _ _ _ (step _ _ _ _ _ (step _ _ _ _ _ (step _ _ _ _ _ (step _ _ _ _ _ hG (by omega)) (by omega)) (by omega)) (by omega)) (by omega)) (by omega)) (by omega)) (by omega))).mono (by omega)
  · exact (((((((hB1.setCell (p := ⟨w.heap.size, 6, none⟩) (Nat.le_refl _) _).setCell (p := ⟨w.heap.size + 1, 0, none⟩) (Nat.le_succ _) _).setCell (p := ⟨w.heap.size + 1, 1, none⟩) (Nat.le_succ _) _).setCell (p := ⟨w.heap.size + 1, 2, none⟩) (Nat.le_succ _) _).setCell (p := ⟨w.heap.size + 1, 3, none⟩) (Nat.le_succ _) _).setCell (p := ⟨w.heap.size + 1, 4, none⟩) (Nat.le_succ _) _).setCell (p := ⟨w.heap.size + 1, 5, none⟩) (Nat.le_succ _) _).setCell (p := ⟨w.heap.size + 1, 6, none⟩) (Nat.le_succ _) _

theorem mem_take_kid {t : X} {k : Nat} {ps : List (X × Value)} (hp : ps.map Prod.fst = t.kids.take k) : ∀ p, p ∈ ps → p.1 ∈ t.kids := fun p h => by
  have : p.1 ∈ ps.map Prod.fst := List.mem_map_of_mem h
  rw [hp] at this
  exact List.mem_of_mem_take this

set_option maxRecDepth 100000 in
set_option maxHeartbeats 4000000 in
theorem lents_step (t : X) (ih : ∀ k, k ∈ t.kids → LentOK k) : LentsOK t := by
  intro w v h1 hf
  obtain ⟨a1, c1, ps1, rfl, k1⟩ := h1.out
  obtain ⟨i0, hi, hz0, hz1, hz2⟩ := info_parts infoE
  have HS := Lib.hid k1
  have HI := Lib.hid ih
  have HF := Lib.hid hf
  have hl := hf.len
  clear h1 ih hf k1
  go_enter Tryz.func40, Tryz.ntmps40
  go_wp2_with (at_make; go_must (refine wpList_make_own _ rfl _ _ 29 rfl w.heap.size 31 i0 (.agg #[.int .u8 0, .int .u8 0, .int .i64 0, .string ⟨#[]⟩, .int .i64 0, .int .u8 0, .slice none 0 0]) 7 Tryz.underlying29 hi hz0 hz1 .i64 .i64 _ (t.kids.length + 12) rfl rfl (by omega) (by rw [hz2]; omega) (by unfold maxLen; omega) (Nat.le_refl _) ?_; intro w0 hown0 hgrow0))
  have HB0 : Hid (Below w.heap.size w w0) := (Below.refl _ _).grown hgrow0 (Nat.le_refl _) (fun k h => by cases h)
  have HO0 : Hid (w0.ownsRow w.heap.size 31 7 (.slice (some ⟨w.heap.size, 0, none⟩) 0 (t.kids.length + 12)) 0 (cellsE [])) := hown0
  clear hown0 hgrow0
  go_loopw [3, 4] (fun v i wr => ∃ (k : Nat) (ps : List (X × Value)), k ≤ t.kids.length ∧ i = .int .i64 k ∧ v = .slice (some ⟨w.heap.size, 0, none⟩) k (t.kids.length + 12) ∧ Hid (wr.ownsRow w.heap.size 31 7 (.slice (some ⟨w.heap.size, 0, none⟩) k (t.kids.length + 12)) k (cellsE ps)) ∧ Hid (ps.map Prod.fst = t.kids.take k) ∧ Hid (∀ p, p ∈ ps → LentX (w.heap.size + 1) wr p.1 p.2) ∧ Hid (Below w.heap.size w wr)) (fun _ i _ => t.kids.length - (intOf i).toNat)
  case atStart => exact ⟨0, [], by omega, rfl, rfl, HO0, rfl, (fun p hp => by cases hp), HB0⟩
  case round =>
    obtain ⟨k, ps, hk, rfl, rfl, HO, HP, HD, HB⟩ := hrel
    clear HO0 HB0
    by_cases hlt : k < t.kids.length
    · obtain ⟨sb, off, rfl, hsb, hc⟩ := (HS.out.below HB.out).at (by omega)
      obtain ⟨u1, d0, d1, d2, d3, d4, d5, d6, hL1⟩ := hc k hlt
      have HT := Lib.hid (show t.kids.take (k + 1) = t.kids.take k ++ [t.kids[k]] by rw [List.take_add_one, List.getElem?_eq_getElem hlt]; rfl)
      have hbl := (HO.out.lt w.heap.size rfl).2
      have hkl : (k : Int) < (t.kids.length : Int) := by omega
      have hlt2 : k + 1 ≤ t.kids.length + 12 := by omega
      have HHl := Lib.hid hbl
      have KL := Lib.hid (HI.out _ (List.getElem_mem hlt) wr u1 (hL1.up (Below.refl _ _) HB.out.size) (HF.out.kid (List.getElem_mem hlt)))
      obtain ⟨q, hq⟩ : ∃ q, q = t.kids[k] := ⟨_, rfl⟩
      rw [← hq] at d0 d1 d2 d3 d4 d5 HT KL
      unfold agg at KL
      clear hc hL1 hbl hq
      go_wp2_with (first
        | (go_at_call 24; go_must (refine (KL.out).mono ?_; rintro e w1 ⟨v1, rfl, hL, hb⟩; obtain ⟨g, rfl, hgb, hgl⟩ := hL.addr; have HG := Lib.hid hL; have HBb := Lib.hid hb; clear hL hb hgb hgl))
        | (at_builtin; go_must (refine wpList_append_fits _ rfl _ _ 29 rfl w.heap.size 31 i0 7 Tryz.underlying29 hi hz1 w.heap.size k (t.kids.length + 12) _ rfl (World.ownsRow.alloc (World.ownsRow.alloc (owns_below HO.out HBb.out) _) _) ⟨w1.heap.size + 1, 0, none⟩ 1 1 [.int .u8 q.kind, .int .u8 q.vk, .int .i64 q.vn, .string q.vs, .int .i64 q.var, .int .u8 q.op, .slice (some ⟨g, 0, none⟩) q.kids.length (q.kids.length + 12)] rfl rfl (fun j u hu => by rw [Addr.add_lit, Nat.zero_add]; exact cells_madeE2 w1 _ _ _ j u (by simpa using hu)) (fun u hu => by simp at hu; rcases hu with rfl | rfl | rfl | rfl | rfl | rfl | rfl <;> rfl) hlt2 ?_; intro w4 hown4 hgrow4; refine Hid.out ?_)))
      have hB2 := below_two w1 (.cells #[.int .u8 q.kind, .int .u8 q.vk, .int .i64 q.vn, .string q.vs, .int .i64 q.var, .int .u8 q.op, .slice (some ⟨g, 0, none⟩) q.kids.length (q.kids.length + 12)] 31) (.cells #[.int .u8 q.kind, .int .u8 q.vk, .int .i64 q.vn, .string q.vs, .int .i64 q.var, .int .u8 q.op, .slice (some ⟨g, 0, none⟩) q.kids.length (q.kids.length + 12)] 31)
      have hbb := HBb.out.size
      have hbs := HB.out.size
      have hHl := HHl.out
      have HO4 : Hid (w4.ownsRow w.heap.size 31 7 (.slice (some ⟨w.heap.size, 0, none⟩) (k + 1) (t.kids.length + 12)) (k + 1) (cellsE (ps ++ [(q, .slice (some ⟨g, 0, none⟩) q.kids.length (q.kids.length + 12))]))) := by
        rw [cellsE_append]
        exact hown4
      have HP4 : Hid ((ps ++ [(q, Value.slice (some ⟨g, 0, none⟩) q.kids.length (q.kids.length + 12))]).map Prod.fst = t.kids.take (k + 1)) := by
        rw [HT.out, List.map_append, HP.out]
        rfl
      have HD4 : Hid (∀ p, p ∈ ps ++ [(q, Value.slice (some ⟨g, 0, none⟩) q.kids.length (q.kids.length + 12))] → LentX (w.heap.size + 1) w4 p.1 p.2) := fun p hp => by
        have h1 : LentX (w.heap.size + 1) w1 p.1 p.2 := by
          rcases List.mem_append.1 hp with hp | hp
          · exact (HD.out p hp).old HBb.out
          · obtain rfl := List.mem_singleton.1 hp
            exact HG.out.mono (by omega)
        exact (h1.old hB2).apart hgrow4 (by omega)
      have HB4 : Hid (Below w.heap.size w w4) := ((HB.out.trans (HBb.out.mono hbs)).trans (hB2.mono (by omega))).grown hgrow4 (Nat.le_trans (by omega) hB2.size) (fun q hq => by
        obtain rfl := Option.some.inj hq
        exact Nat.le_refl _)
      clear hown4 hgrow4 hB2 hbb hbs hHl HHl d0 d1 d2 d3 d4 d5 d6 HT KL HG HBb
      refine Lib.hid ?_
      go_wp2_with fail
      go_roundw
      case rel => exact ⟨k + 1, _, by omega, by go_num, rfl, HO4, HP4, HD4, HB4⟩
      case measure => simp [intOf]; omega
    · obtain rfl : k = t.kids.length := by omega
      have hP := HP.out
      rw [List.take_length] at hP
      have HP1 := Lib.hid hP
      clear hP HP HI
      have HO0 : Hid (wr.ownsRow w.heap.size 31 7 (.slice (some ⟨w.heap.size, 0, none⟩) (t.kids.length + 0) (t.kids.length + 12)) (t.kids.length + 0) (cellsE (ps ++ mkE 0))) := by
        rw [show mkE 0 = [] from rfl, List.append_nil]
        exact HO.out
      clear HO HS
      go_wp2_with fail
      go_loopw [3, 6] (fun v i wr => ∃ m : Nat, m ≤ 12 ∧ i = .int .i64 m ∧ v = .slice (some ⟨w.heap.size, 0, none⟩) (t.kids.length + m) (t.kids.length + 12) ∧ Hid (wr.ownsRow w.heap.size 31 7 (.slice (some ⟨w.heap.size, 0, none⟩) (t.kids.length + m) (t.kids.length + 12)) (t.kids.length + m) (cellsE (ps ++ mkE m))) ∧ Hid (∀ p, p ∈ ps → LentX (w.heap.size + 1) wr p.1 p.2) ∧ Hid (Below w.heap.size w wr)) (fun _ i _ => 12 - (intOf i).toNat)
      case atStart => exact ⟨0, by omega, rfl, rfl, HO0, HD, HB⟩
      case round =>
        clear HO0 HD HB
        obtain ⟨m, hm, rfl, rfl, HO, HD, HB⟩ := hrel
        by_cases hm2 : m < 12
        · have hmk : cellsE (ps ++ mkE (m + 1)) = cellsE (ps ++ mkE m) ++ [.int .u8 0, .int .u8 0, .int .i64 0, .string ⟨#[]⟩, .int .i64 (1000003 * (1 + 7) + (m : Int)), .int .u8 0, .slice none 0 0] := by
            rw [mkE_succ, ← List.append_assoc, cellsE_append]
            rfl
          have HMk := Lib.hid hmk
          have KM := Lib.hid (fun W => markExpr_any 1 (m : Int) (by omega) (by omega) (by omega) (by omega) W)
          clear hmk
          generalize (1000003 * (1 + 7) + (m : Int)) = x at HMk KM
          go_wp2_with (first
            | (go_at_call 54; go_must (refine (KM.out _).mono ?_; rintro e w1 ⟨rfl, hg⟩; have HBb := Lib.hid hg.below; clear hg))
            | (at_builtin; go_must (refine wpList_append_fits _ rfl _ _ 29 rfl w.heap.size 31 i0 7 Tryz.underlying29 hi hz1 w.heap.size (t.kids.length + m) (t.kids.length + 12) _ rfl (World.ownsRow.alloc (owns_below HO.out HBb.out) _) ⟨w1.heap.size, 0, none⟩ 1 1 [.int .u8 0, .int .u8 0, .int .i64 0, .string ⟨#[]⟩, .int .i64 x, .int .u8 0, .slice none 0 0] rfl rfl (fun j u hu => by rw [Addr.add_lit, Nat.zero_add]; exact cells_made w1 _ _ j u (by simpa using hu)) (fun u hu => by simp at hu; rcases hu with rfl | rfl | rfl | rfl | rfl | rfl | rfl <;> rfl) (by omega) ?_; intro w4 hown4 hgrow4; refine Hid.out ?_)))
          have hB2 := below_own (w := w1) (.cells #[.int .u8 0, .int .u8 0, .int .i64 0, .string ⟨#[]⟩, .int .i64 x, .int .u8 0, .slice none 0 0] 31)
          have hbb := HBb.out.size
          have hbs := HB.out.size
          have HO4 : Hid (w4.ownsRow w.heap.size 31 7 (.slice (some ⟨w.heap.size, 0, none⟩) (t.kids.length + (m + 1)) (t.kids.length + 12)) (t.kids.length + (m + 1)) (cellsE (ps ++ mkE (m + 1)))) := by
            rw [HMk.out]
            exact hown4
          have HD4 : Hid (∀ p, p ∈ ps → LentX (w.heap.size + 1) w4 p.1 p.2) := fun p hp => (((HD.out p hp).old HBb.out).old hB2).apart hgrow4 (by omega)
          have HB4 : Hid (Below w.heap.size w w4) := ((HB.out.trans (HBb.out.mono hbs)).trans (hB2.mono (by omega))).grown hgrow4 (Nat.le_trans (by omega) hB2.size) (fun q hq => by
            obtain rfl := Option.some.inj hq
            exact Nat.le_refl _)
          clear hown4 hgrow4 hB2 hbb hbs KM HMk HBb
          refine Lib.hid ?_
          go_wp2_with fail
          go_roundw
          case rel => exact ⟨m + 1, by omega, by go_num, rfl, HO4, HD4, HB4⟩
          case measure => simp [intOf]; omega
        · have hm12 : m = 12 := by omega
          subst hm12
          have HR : Hid (LentX w.heap.size wr t (.slice (some ⟨w.heap.size, 0, none⟩) t.kids.length (t.kids.length + 12))) := by
            have hown := HO.out
            rcases hown.2 with ⟨h', _⟩ | ⟨g', cap', cur, h', _, hg, _, _, hs, ht⟩
            · simp at h'
            · simp only [Value.slice.injEq, Option.some.injEq, Addr.mk.injEq, and_true, true_and] at h'
              obtain ⟨rfl, rfl⟩ := h'
              refine .mk t _ cur ps HP1.out hl (Nat.le_refl _) hg ?_ (fun p hp => (HD.out p hp).mono (Nat.le_succ _))
              rw [← ht, List.take_of_length_le (by rw [Array.length_toList]; omega)]
          clear HO HD
          go_wp2
          go_ret
          exact ⟨_, rfl, HR.out, HB.out⟩

theorem lentE_any (t : X) : LentOK t := X.ind (fun t ih => lent_step t (lents_step t ih)) t
end Go.Proofs.YtnnhgbncghpecaaGreat
