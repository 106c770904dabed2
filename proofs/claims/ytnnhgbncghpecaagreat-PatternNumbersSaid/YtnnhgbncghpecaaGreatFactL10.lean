/- A fact lent whose row may be long; a fact looked at again; rows written over. -/
import Derived.Test.YtnnhgbncghpecaaGreatCond10
import Derived.Test.YtnnhgbncghpecaaGreatFlatV10
import Derived.Test.YtnnhgbncghpecaaGreatKept10
namespace Go.Proofs.YtnnhgbncghpecaaGreat
open Go.RowKit

theorem LentR.apart {base g q : Nat} {w w' : World} {zs : List V3} (h : LentR base w g zs) (b : w.grownBy w' (some q)) (hne : g ≠ q) : LentR base w' g zs :=
  ⟨owns_apart h.own b (by simp [Value.ownBlock]; exact hne), Nat.lt_of_lt_of_le h.lt b.size⟩
theorem LentR.mono {base base' g : Nat} {w : World} {zs : List V3} (h : LentR base w g zs) (hb : base' ≤ base) : LentR base' w g zs := ⟨owns_mono h.own hb, h.lt⟩
set_option maxRecDepth 100000 in
set_option maxHeartbeats 2000000 in
theorem lentFactR_any (f : F10) (ao : Option Addr) (c : Nat) (w : World) (h : Sl10 w.heap.size w f.args.length ao c (cellsV f.args)) (hs : f.args.length ≤ 2000) :
    Calls Tryz.prog 8 #[aggF f ao c] w fun e w' => ∃ g, e = .returned (aggF f (some ⟨g, 0, none⟩) (f.args.length + 12)) ∧ w.heap.size ≤ g ∧ LentR w.heap.size w' g f.args ∧ Below w.heap.size w w' := by
  have HB := Lib.hid (below_two w (.cells #[.int .i64 f.id, .int .i64 f.type, .slice ao f.args.length c] 36) (.cells #[.int .i64 0, .int .i64 0, .slice none 0 0] 36))
  have h' := h.up HB.out HB.out.size
  have HV := Lib.hid (lentY_any ao f.args.length c f.args _ rfl hs (h'.rowAt rfl).1 (h'.rowAt rfl).2)
  obtain ⟨fi, ft, fl⟩ := f
  unfold aggF
  simp only at HB HV ⊢
  clear h h' hs
  generalize hn : fl.length = n at *
  go_enter Tryz.func8, Tryz.ntmps8
  go_wp2_with (go_at_call 9; go_must (refine (HV.out).mono ?_; rintro e w1 ⟨rfl, hr, hb⟩; obtain ⟨b1, b2⟩ := two_boxes hb; obtain ⟨b3, b4⟩ := two_frozen hb; have HG := Lib.hid hr; have HBb := Lib.hid hb; clear hb hr))
  have hz : ((w.alloc (.cells #[.int .i64 fi, .int .i64 ft, .slice ao n c] 36)).alloc (.cells #[.int .i64 0, .int .i64 0, .slice none 0 0] 36)).heap.size = w.heap.size + 1 + 1 := by simp
  have hG : LentR (w.heap.size + 1 + 1) w1 (w.heap.size + 1 + 1) fl := by have := HG.out; rw [hz] at this; exact this
  have hB1 : Below w.heap.size w w1 := HB.out.trans (HBb.out.mono HB.out.size)
  refine bodyPost_ret (v := .agg #[.int .i64 fi, .int .i64 ft, .slice (some ⟨w.heap.size + 1 + 1, 0, none⟩) n (n + 12)]) (by simp [results, Tryz.results8, go_sem, b2]) rfl ⟨w.heap.size + 1 + 1, rfl, by omega, ?_, ?_⟩
  · have step : ∀ (W : World) (q i : Nat) (x : Value), LentR (w.heap.size + 1 + 1) W (w.heap.size + 1 + 1) fl → q < w.heap.size + 1 + 1 → LentR (w.heap.size + 1 + 1) (W.setCell ⟨q, i, none⟩ x) (w.heap.size + 1 + 1) fl := fun W q i x h hq => h.apart (Lib.grownBy_setCell W q i x) (by omega)
    exact ((step _ _ _ _ (step _ _ _ _ (step _ _ _ _ (step _ _ _ _ hG (by omega)) (by omega)) (by omega)) (by omega))).mono (by omega)
  · exact (((hB1.setCell (p := ⟨w.heap.size, 2, none⟩) (Nat.le_refl _) _).setCell (p := ⟨w.heap.size + 1, 0, none⟩) (Nat.le_succ _) _).setCell (p := ⟨w.heap.size + 1, 1, none⟩) (Nat.le_succ _) _).setCell (p := ⟨w.heap.size + 1, 2, none⟩) (Nat.le_succ _) _

set_option maxRecDepth 100000 in
set_option maxHeartbeats 4000000 in
theorem keptFactR_yes (f : F10) (base g : Nat) (a2 : Option Addr) (c2 : Nat) (w : World) (hs : f.args.length ≤ 2000) (h1 : LentR base w g f.args) (h2 : Sl10 w.heap.size w f.args.length a2 c2 (cellsV f.args)) :
    Calls Tryz.prog 14 #[aggF f (some ⟨g, 0, none⟩) (f.args.length + 12), aggF f a2 c2] w fun e w' => e = .returned (.bool true) ∧ Gr w w' := by
  have HK2 : Hid (∀ W, Gr w W → Calls Tryz.prog 15 #[.slice (some ⟨g, 0, none⟩) f.args.length (f.args.length + 12), .slice a2 f.args.length c2] W fun e w' => e = .returned (.bool true) ∧ Gr W w') := fun W hW => by
    have h2' := (h2.up hW.below hW.below.size)
    have h1' := h1.old hW.below
    exact keptY_any a2 g f.args.length c2 f.args W rfl hs h1'.lt (h2'.rowAt rfl).1 (h2'.rowAt rfl).2 h1'.row
  have HS2 : Hid (∀ W, Gr w W → Calls Tryz.prog 33 #[aggF f (some ⟨g, 0, none⟩) (f.args.length + 12), aggF f a2 c2] W fun e w' => e = .returned (.bool true) ∧ Gr W w') := fun W hW =>
    sameFact_yes f (some ⟨g, 0, none⟩) (f.args.length + 12) a2 c2 W ((h1.old hW.below).sl hs) (h2.up hW.below hW.below.size)
  have HB : Hid (∀ o1 o2, Gr w ((w.alloc o1).alloc o2)) := fun o1 o2 => ((Gr.refl w).alloc o1).alloc o2
  have two : Hid (∀ o1 o2 w1, Gr ((w.alloc o1).alloc o2) w1 → w1.heap[w.heap.size]? = some o1 ∧ w1.heap[w.heap.size + 1]? = some o2) := fun o1 o2 w1 h => by
    obtain ⟨t1, t2⟩ := heap_two (w := w) o1 o2
    exact ⟨(h.below.block _ (by simp; omega)).trans t1, (h.below.block _ (by simp)).trans t2⟩
  obtain ⟨fi, ft, fl⟩ := f
  unfold aggF at HS2 ⊢
  simp only at HK2 HS2 ⊢
  clear h1 h2 hs
  generalize fl.length = n at *
  have mixed : Tryz.prog.follows .mixedOrders = true := by kernel_rfl
  go_enter Tryz.func14, Tryz.ntmps14
  go_wp2_with (first
    | (go_at_call 33; go_must (refine (HS2.out _ (HB.out _ _)).mono ?_; rintro e w1 ⟨rfl, hg⟩; obtain ⟨t1, t2⟩ := two.out _ _ _ hg; have y1 := (fun j => Lib.cell_of_heap t1 j); have y2 := (fun j => Lib.cell_of_heap t2 j); have HG := Lib.hid ((HB.out _ _).trans hg); clear hg t1 t2))
    | (go_at_call 15; go_must (refine (HK2.out _ HG.out).mono ?_; rintro e w2 ⟨rfl, hg⟩; have HG2 := Lib.hid (HG.out.trans hg); clear hg)))
  go_ret
  exact ⟨rfl, HG2.out⟩

set_option maxRecDepth 100000 in
set_option maxHeartbeats 2000000 in
theorem overV_any (base g : Nat) (zs : List V3) (w : World) (hl : zs.length ≤ 2000) (hg : LentR base w g zs) :
    Calls Tryz.prog 17 #[.slice (some ⟨g, 0, none⟩) zs.length (zs.length + 12)] w fun e w' => e = .returned (.tuple #[]) ∧ w.grownBy w' (some g) := by
  have H0 : Hid (OwnH w base 27 3 (some ⟨g, 0, none⟩, zs.length + 12, zs.length + 12) (cellsV (zs ++ marksV 12))) := hg.own
  clear hg
  generalize cellsV (zs ++ marksV 12) = M0 at H0
  generalize zs.length = n at *
  go_enter Tryz.func17, Tryz.ntmps17
  go_wp2
  go_loopw [3] (fun i wr => ∃ (k : Nat) (M : List Value), k ≤ n + 12 ∧ i = .int .i64 k ∧ Hid (OwnH wr base 27 3 (some ⟨g, 0, none⟩, n + 12, n + 12) M) ∧ Hid (w.grownBy wr (some g))) (fun i _ => n + 12 - (intOf i).toNat)
  case atStart => exact ⟨0, M0, by omega, rfl, H0, World.grownBy.refl _ _⟩
  case round =>
    clear H0
    obtain ⟨k, M, hk, rfl, HM, HBr⟩ := hrel
    by_cases hlt : k < n + 12
    · have hzl := HM.out.1
      have hlti : (k : Int) < (n : Int) + 12 := by omega
      have hca0 := HM.out.cellAt (k * 3) (show k * 3 < (n + 12) * 3 by omega)
      have hca1 := HM.out.cellAt (k * 3 + 1) (show k * 3 + 1 < (n + 12) * 3 by omega)
      have hca2 := HM.out.cellAt (k * 3 + 2) (show k * 3 + 2 < (n + 12) * 3 by omega)
      simp only at hzl
      obtain ⟨o0, e0⟩ : ∃ o, M[k * 3]? = some o := ⟨_, List.getElem?_eq_getElem (by omega)⟩
      obtain ⟨o1, e1⟩ : ∃ o, M[k * 3 + 1]? = some o := ⟨_, List.getElem?_eq_getElem (by omega)⟩
      obtain ⟨o2, e2⟩ : ∃ o, M[k * 3 + 2]? = some o := ⟨_, List.getElem?_eq_getElem (by omega)⟩
      rw [e0] at hca0
      rw [e1] at hca1
      rw [e2] at hca2
      have hfz0 := HM.out.frozenAt (k * 3)
      have hfz1 := HM.out.frozenAt (k * 3 + 1)
      have hfz2 := HM.out.frozenAt (k * 3 + 2)
      have hbl := (HM.out.lt g rfl).2
      have HFacts : Hid (∀ w1, Below wr.heap.size wr w1 → w1.cell? ⟨g, k * 3, none⟩ = some o0 ∧ w1.cell? ⟨g, k * 3 + 1, none⟩ = some o1 ∧ w1.cell? ⟨g, k * 3 + 2, none⟩ = some o2 ∧ w1.frozen? ⟨g, k * 3, none⟩ = false ∧ w1.frozen? ⟨g, k * 3 + 1, none⟩ = false ∧ w1.frozen? ⟨g, k * 3 + 2, none⟩ = false) := fun w1 h => by
        obtain ⟨x1, x2⟩ := bcell h
        exact ⟨(x1 g _ hbl).trans hca0, (x1 g _ hbl).trans hca1, (x1 g _ hbl).trans hca2, (x2 g _ hbl).trans hfz0, (x2 g _ hbl).trans hfz1, (x2 g _ hbl).trans hfz2⟩
      have KM := Lib.hid (fun W => markValue_big 2 k (by omega) (by omega) (by omega) (by omega) W)
      clear hca0 hca1 hca2 hfz0 hfz1 hfz2 e0 e1 e2 hzl hbl
      generalize mkI 2 (k : Int) = mb at KM
      go_wp2_with (go_at_call 25; go_must (refine (KM.out _).mono ?_; rintro e w1 ⟨rfl, hg⟩; have HG1 := Lib.hid hg.below; obtain ⟨q0, q1, q2, q3, q4, q5⟩ := HFacts.out w1 HG1.out; clear hg))
      have ho1 : OwnH w1 base 27 3 (some ⟨g, 0, none⟩, n + 12, n + 12) M := owns_below HM.out HG1.out
      obtain ⟨st1, st2⟩ := ho1.n3 (k * 3) (k * 3 + 1) (k * 3 + 2) (.int .u8 0) (.int .i64 mb) (.string ⟨#[]⟩)
      have R1 := Lib.hid st1
      have R2 : Hid (w.grownBy (((w1.setCell ⟨g, k * 3, none⟩ (.int .u8 0)).setCell ⟨g, k * 3 + 1, none⟩ (.int .i64 mb)).setCell ⟨g, k * 3 + 2, none⟩ (.string ⟨#[]⟩)) (some g)) := Lib.grownBy_trans (Lib.grownBy_trans HBr.out (Fr.of_below HG1.out)) st2
      clear ho1 st1 st2 q0 q1 q2 q3 q4 q5 HFacts HG1 KM hlti
      go_roundw
      case rel => exact ⟨k + 1, _, by omega, by go_num, R1, R2⟩
      case measure => simp [intOf]; omega
    · have hltz : ¬ (k : Int) < (n : Int) + 12 := by omega
      go_wp2
      first | go_end0 | go_ret
      exact ⟨rfl, HBr.out⟩

set_option maxRecDepth 100000 in
theorem overFact_any (f : F10) (base g : Nat) (w : World) (hl : f.args.length ≤ 2000) (hg : LentR base w g f.args) :
    Calls Tryz.prog 16 #[aggF f (some ⟨g, 0, none⟩) (f.args.length + 12)] w fun e w' => e = .returned (.tuple #[]) ∧ w.grownBy w' (some g) := by
  obtain ⟨w0, hw0⟩ : ∃ w0, w0 = w.alloc (.cells #[.int .i64 f.id, .int .i64 f.type, .slice (some ⟨g, 0, none⟩) f.args.length (f.args.length + 12)] 36) := ⟨_, rfl⟩
  have hb : Below w.heap.size w w0 := by rw [hw0]; exact below_own _
  have HO := Lib.hid (overV_any base g f.args w0 hl (hg.old hb))
  have HB := Lib.hid hb
  clear hg hl hb
  obtain ⟨fi, ft, fl⟩ := f
  unfold aggF
  simp only at hw0 HO ⊢
  generalize fl.length = n at *
  rw [hw0] at HO
  have HW := Lib.hid hw0
  clear hw0
  go_enter Tryz.func16, Tryz.ntmps16
  go_wp2_with (go_at_call 17; go_must (refine (HO.out).mono ?_; rintro e w1 ⟨rfl, hg⟩; have HG := Lib.hid hg; clear hg))
  first | go_end0 | go_ret
  refine ⟨rfl, Lib.grownBy_trans (Fr.of_below (pb := g) HB.out) ?_⟩
  rw [HW.out]
  exact HG.out
end Go.Proofs.YtnnhgbncghpecaaGreat
