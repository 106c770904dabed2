/- The document's node, whatever its kind; the document's Right. -/
import Derived.Test.YtfmjhbaenpbfoaaGreatDoorRefNode
namespace Go.Proofs.YtfmjhbaenpbfoaaGreatDoor
open Go.RowKit

set_option maxRecDepth 100000 in
set_option maxHeartbeats 2000000 in
theorem node_other (t : T) (w : World) (a : Option Addr) (c : Nat) (hp : 0 ≤ t.pos) (hn : t.num = 0) (hk : ∀ k : Int, 2 ≤ k → k ≤ 16 → t.kind ≠ k) : NodeAt t w a c := by
  have e2 : (t.kind == 2) = false := beq_eq_false_iff_ne.2 (fun e => hk 2 (by omega) (by omega) e)
  have e3 : (t.kind == 3) = false := beq_eq_false_iff_ne.2 (fun e => hk 3 (by omega) (by omega) e)
  have e4 : (t.kind == 4) = false := beq_eq_false_iff_ne.2 (fun e => hk 4 (by omega) (by omega) e)
  have e5 : (t.kind == 5) = false := beq_eq_false_iff_ne.2 (fun e => hk 5 (by omega) (by omega) e)
  have e6 : (t.kind == 6) = false := beq_eq_false_iff_ne.2 (fun e => hk 6 (by omega) (by omega) e)
  have e7 : (t.kind == 7) = false := beq_eq_false_iff_ne.2 (fun e => hk 7 (by omega) (by omega) e)
  have e8 : (t.kind == 8) = false := beq_eq_false_iff_ne.2 (fun e => hk 8 (by omega) (by omega) e)
  have e9 : (t.kind == 9) = false := beq_eq_false_iff_ne.2 (fun e => hk 9 (by omega) (by omega) e)
  have e10 : (t.kind == 10) = false := beq_eq_false_iff_ne.2 (fun e => hk 10 (by omega) (by omega) e)
  have e11 : (t.kind == 11) = false := beq_eq_false_iff_ne.2 (fun e => hk 11 (by omega) (by omega) e)
  have e12 : (t.kind == 12) = false := beq_eq_false_iff_ne.2 (fun e => hk 12 (by omega) (by omega) e)
  have e13 : (t.kind == 13) = false := beq_eq_false_iff_ne.2 (fun e => hk 13 (by omega) (by omega) e)
  have e14 : (t.kind == 14) = false := beq_eq_false_iff_ne.2 (fun e => hk 14 (by omega) (by omega) e)
  have e15 : (t.kind == 15) = false := beq_eq_false_iff_ne.2 (fun e => hk 15 (by omega) (by omega) e)
  have e16 : (t.kind == 16) = false := beq_eq_false_iff_ne.2 (fun e => hk 16 (by omega) (by omega) e)
  have HR : Hid (t.right = false) := by
    unfold Hid
    rw [T.right_eq]
    unfold bodyT
    rw [e2, e3, e4, e5, e6, e7, e8, e9, e10, e11, e12, e13, e14, e15, e16]
    simp
  have HG : Hid (Gr w (w.alloc (.cells #[.int .u8 t.kind, .string t.text, .int .i64 t.num, .int .i64 t.pos, .slice a t.kids.length c] 25))) := box_gr _ _
  have hd : decide (t.pos < 0) = false := decide_eq_false (by omega)
  clear hk
  unfold NodeAt
  rw [hn] at HG ⊢
  clear hn
  go_enter Tryz.func71, Tryz.ntmps71
  go_wp2_with fail
  go_ret
  rw [HR.out]
  exact ⟨rfl, HG.out⟩

theorem node_any (t : T) : NodeOK t := by
  refine T.ind (fun t ih => ?_) t
  intro w v h1 hS
  obtain ⟨a1, c1, ps1, rfl, k1⟩ := h1.out
  have ht := told_of t ih hS w a1 c1 ps1 k1
  show NodeAt t w a1 c1
  by_cases hp : 0 ≤ t.pos
  · by_cases h4 : t.kind = 4
    · exact node_4 t w a1 c1 ht hp h4
    · by_cases h9 : t.kind = 9
      · exact node_9 t w a1 c1 ht hp h9
      · by_cases hn : t.num = 0
        · by_cases hd : t.kind = 2 ∨ t.kind = 3 ∨ t.kind = 5 ∨ t.kind = 6 ∨ t.kind = 7 ∨ t.kind = 8 ∨ t.kind = 10 ∨ t.kind = 11 ∨ t.kind = 12 ∨ t.kind = 13 ∨ t.kind = 14 ∨ t.kind = 15 ∨ t.kind = 16
          · rcases hd with hk | hk | hk | hk | hk | hk | hk | hk | hk | hk | hk | hk | hk
            · exact node_2 t w a1 c1 ht hp hn hk
            · exact node_3 t w a1 c1 ht hp hn hk
            · exact node_5 t w a1 c1 ht hp hn hk
            · exact node_6 t w a1 c1 ht hp hn hk
            · exact node_7 t w a1 c1 ht hp hn hk
            · exact node_8 t w a1 c1 ht hp hn hk
            · exact node_10 t w a1 c1 ht hp hn hk
            · exact node_11 t w a1 c1 ht hp hn hk
            · exact node_12 t w a1 c1 ht hp hn hk
            · exact node_13 t w a1 c1 ht hp hn hk
            · exact node_14 t w a1 c1 ht hp hn hk
            · exact node_15 t w a1 c1 ht hp hn hk
            · exact node_16 t w a1 c1 ht hp hn hk
          · exact node_other t w a1 c1 hp hn (fun k h1 h2 e => by omega)
        · exact node_num t w a1 c1 hp hn h4 h9
  · exact node_at t w a1 c1 (by omega)

def RightP (b : Bool) (w : World) (e : Ending) (w' : World) : Prop := e = .returned (.bool b) ∧ Gr w w'
set_option maxRecDepth 100000 in
set_option maxHeartbeats 2000000 in
theorem refRight_any (t : T) (w : World) (v : Value) (h : Lies w.heap.size w t v) (hS : Small 9000 t) (hm : t.many ≤ 1000000) :
    Calls Tryz.prog 24 #[agg t v] w (RightP (rightT t) w) := by
  obtain ⟨a, c, ps, rfl, k1⟩ := h.out
  have KA := Lib.hid (fun W (hW : Gr w W) => allWhole t (fun k _ => node_any k) hS w a c ps k1 [2, 4] #[.int .u8 2, .int .u8 4] rfl 2 rfl (by omega) W hW)
  have KD := Lib.hid (fun W (hW : Gr w W) => refDeep_any t W _ (h.up hW.below hW.below.size) hm)
  have KM := Lib.hid (fun W (hW : Gr w W) => refMany_any t W _ (h.up hW.below hW.below.size) hm)
  have HG : Hid (Gr w (w.alloc (.cells #[.int .u8 t.kind, .string t.text, .int .i64 t.num, .int .i64 t.pos, .slice a t.kids.length c] 25))) := box_gr _ _
  have HE : Hid (rightT t = (t.kind == 1 && t.text.toList.isEmpty && t.num == 0 && decide (0 ≤ t.pos) && allK [2, 4] t.kids && decide (t.deep ≤ 30) && decide (t.many ≤ 4096))) := rfl
  clear h hS hm k1
  unfold agg at KD KM ⊢
  by_cases hk : t.kind = 1
  · by_cases hs : 0 < t.text.size
    · obtain ⟨hem, -⟩ := size_pos hs
      have HR : Hid (rightT t = false) := by
        unfold Hid
        rw [HE.out, hk, hem]
        rfl
      rw [hk] at HG ⊢
      clear HE hk hs KD KM KA
      go_enter Tryz.func24, Tryz.ntmps24
      go_wp2_with fail
      go_ret
      rw [HR.out]
      exact ⟨rfl, HG.out⟩
    · obtain ⟨hem, -⟩ := size_zero hs
      by_cases hn : t.num = 0
      · by_cases hp : 0 ≤ t.pos
        · have HR : Hid (rightT t = (allK [2, 4] t.kids && decide (t.deep ≤ 30) && decide (t.many ≤ 4096))) := by
            unfold Hid
            rw [HE.out, hk, hn, hem, decide_eq_true hp]
            rfl
          have hd : decide (t.pos < 0) = false := decide_eq_false (by omega)
          rw [hk, hn] at HG KD KM ⊢
          clear HE hk hn hs hp
          have K1 := Lib.hid (KA.out _ HG.out)
          have es : (w.alloc (.cells #[.int .u8 1, .string t.text, .int .i64 0, .int .i64 t.pos, .slice a t.kids.length c] 25)).heap.size = w.heap.size + 1 := by simp
          rw [es] at K1
          clear es KA
          cases h1 : allK [2, 4] t.kids with
          | false =>
            rw [h1] at K1 HR
            go_enter Tryz.func24, Tryz.ntmps24
            go_wp2_with (go_at_call 40; go_must (refine (K1.out).mono ?_; rintro e w1 ⟨rfl, hg⟩; have HG1 := Lib.hid (HG.out.trans hg); have HGb := Lib.hid hg; clear hg; refine Hid.out ?_))
            refine Lib.hid ?_
            go_wp2_with fail
            go_ret
            rw [HR.out]
            exact ⟨rfl, HG1.out⟩
          | true =>
            rw [h1] at K1 HR
            rw [Bool.true_and] at HR
            go_enter Tryz.func24, Tryz.ntmps24
            go_wp2_with (go_at_call 40; go_must (refine (K1.out).mono ?_; rintro e w1 ⟨rfl, hg⟩; have HG1 := Lib.hid (HG.out.trans hg); have HGb := Lib.hid hg; clear hg; refine Hid.out ?_))
            have x0 := box_cell (cs := #[.int .u8 1, .string t.text, .int .i64 0, .int .i64 t.pos, .slice a t.kids.length c]) (show Gr _ w1 from HGb.out)
            have y0 := x0 0
            have y1 := x0 1
            have y2 := x0 2
            have y3 := x0 3
            have y4 := x0 4
            simp only [List.getElem?_toArray, List.getElem?_cons_zero, List.getElem?_cons_succ] at y0 y1 y2 y3 y4
            have KD1 := Lib.hid (KD.out w1 HG1.out)
            clear x0 KD K1
            by_cases hd30 : t.deep ≤ 30
            · rw [decide_eq_true hd30, Bool.true_and] at HR
              have d30 : ((t.deep : Nat) : Int) ≤ 30 := by omega
              clear hd30
              refine Lib.hid ?_
              go_wp2_with (go_at_call 41; go_must (refine (KD1.out).mono ?_; rintro e w2 ⟨rfl, hg⟩; have HG2 := Lib.hid (HG1.out.trans hg); have HGc := Lib.hid (HGb.out.trans hg); clear hg; refine Hid.out ?_))
              have x0 := box_cell (cs := #[.int .u8 1, .string t.text, .int .i64 0, .int .i64 t.pos, .slice a t.kids.length c]) (show Gr _ w2 from HGc.out)
              have z0 := x0 0
              have z1 := x0 1
              have z2 := x0 2
              have z3 := x0 3
              have z4 := x0 4
              simp only [List.getElem?_toArray, List.getElem?_cons_zero, List.getElem?_cons_succ] at z0 z1 z2 z3 z4
              have KM1 := Lib.hid (KM.out w2 HG2.out)
              clear x0 KM KD1 y0 y1 y2 y3 y4
              refine Lib.hid ?_
              by_cases hm4 : t.many ≤ 4096
              · rw [decide_eq_true hm4] at HR
                have m4 : ((t.many : Nat) : Int) ≤ 4096 := by omega
                clear hm4
                go_wp2_with (go_at_call 42; go_must (refine (KM1.out).mono ?_; rintro e w3 ⟨rfl, hg⟩))
                go_ret
                rw [HR.out]
                exact ⟨rfl, HG2.out.trans hg⟩
              · rw [decide_eq_false hm4] at HR
                have m4 : ¬ ((t.many : Nat) : Int) ≤ 4096 := by omega
                have m4d : decide (((t.many : Nat) : Int) ≤ 4096) = false := decide_eq_false m4
                have HM4 := Lib.hid m4d
                clear hm4 m4d
                go_wp2_with (go_at_call 42; go_must (refine (KM1.out).mono ?_; rintro e w3 ⟨rfl, hg⟩))
                go_ret
                rw [HR.out]
                exact ⟨congrArg (fun b => Ending.returned (Value.bool b)) HM4.out, HG2.out.trans hg⟩
            · rw [decide_eq_false hd30, Bool.false_and] at HR
              have d30 : ¬ ((t.deep : Nat) : Int) ≤ 30 := by omega
              clear hd30
              refine Lib.hid ?_
              go_wp2_with (go_at_call 41; go_must (refine (KD1.out).mono ?_; rintro e w2 ⟨rfl, hg⟩; have HG2 := Lib.hid (HG1.out.trans hg); clear hg))
              go_ret
              rw [HR.out]
              exact ⟨rfl, HG2.out⟩
        · have HR : Hid (rightT t = false) := by
            unfold Hid
            rw [HE.out, hk, hn, hem, decide_eq_false hp]
            rfl
          have hd : decide (t.pos < 0) = true := decide_eq_true (by omega)
          rw [hk, hn] at HG ⊢
          clear HE hk hn hs hp KD KM KA
          go_enter Tryz.func24, Tryz.ntmps24
          go_wp2_with fail
          go_ret
          rw [HR.out]
          exact ⟨rfl, HG.out⟩
      · have HR : Hid (rightT t = false) := by
          unfold Hid
          rw [HE.out, beq_eq_false_iff_ne.2 hn]
          simp
        have hn' : (t.num != 0) = true := bne_iff_ne.2 hn
        rw [hk] at HG ⊢
        clear HE hk hn hs KD KM KA
        go_enter Tryz.func24, Tryz.ntmps24
        go_wp2_with fail
        go_ret
        rw [HR.out]
        exact ⟨rfl, HG.out⟩
  · have HR : Hid (rightT t = false) := by
      unfold Hid
      rw [HE.out, beq_eq_false_iff_ne.2 hk]
      rfl
    have hk' : (t.kind != 1) = true := bne_iff_ne.2 hk
    clear HE hk KD KM KA
    go_enter Tryz.func24, Tryz.ntmps24
    go_wp2_with fail
    go_ret
    rw [HR.out]
    exact ⟨rfl, HG.out⟩
end Go.Proofs.YtfmjhbaenpbfoaaGreatDoor
