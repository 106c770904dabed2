/- The document's exprs, cond, rule. -/
import Derived.Test.YtfmjhbaenpbfoaaGreatDoorRefAll
namespace Go.Proofs.YtfmjhbaenpbfoaaGreatDoor
open Go.RowKit

theorem cond_any (k : Int) (w : World) : Calls Tryz.prog 128 #[.int .u8 k] w fun e w' => e = .returned (.bool (condK k)) ∧ w = w' := by
  unfold condK
  cases h1 : (k == 5) <;> cases h2 : (k == 6) <;> cases h3 : (k == 7) <;>
    (go_enter Tryz.func128, Tryz.ntmps128
     go_wp2
     go_ret
     exact ⟨rfl, rfl⟩)

theorem dash_false1 (t : T) (h : (t.kind == 14) = false) : dashT t = false := by unfold dashT; rw [h, Bool.false_and]
theorem size_pos {s : ByteArray} (h : 0 < s.size) : s.toList.isEmpty = false ∧ s.data.toList.head? = some s[0] := by
  refine ⟨?_, first_of s h⟩
  have hne : s.toList ≠ [] := by
    rw [ByteArray.toList_eq]
    intro e
    have h1 : s.data.toList.length = 0 := by rw [e]; rfl
    have h2 : s.data.toList.length = s.size := by rw [Array.length_toList]; rfl
    omega
  simpa using hne
theorem size_zero {s : ByteArray} (h : ¬ 0 < s.size) : s.toList = [] ∧ s.data.toList = [] := by
  have hnil : s.data.toList = [] := List.eq_nil_of_length_eq_zero (by
    have : s.data.toList.length = s.size := by rw [Array.length_toList]; rfl
    omega)
  exact ⟨by rw [ByteArray.toList_eq, hnil], hnil⟩
theorem exprs_step (l : List T) (j : Nat) (h : j < l.length) : ((l.drop j).all fun k => !dashT k) = (!dashT l[j] && (l.drop (j + 1)).all fun k => !dashT k) := by
  rw [List.drop_eq_getElem_cons h, List.all_cons]

set_option maxRecDepth 100000 in
set_option maxHeartbeats 4000000 in
theorem refExprs_of (t : T) (ih : ∀ k, k ∈ t.kids → NodeOK k) (hS : Small 9000 t) (w : World) (a : Option Addr) (c : Nat) (ps : List (T × Value)) (hk : KidsAt w.heap.size w t a c ps) :
    Calls Tryz.prog 100 #[.slice a t.kids.length c] w (fun e w' => e = .returned (.bool (exprsK t.kids)) ∧ Gr w w') := by
  have HA := Lib.hid hk
  have HI := Lib.hid ih
  have HSm := Lib.hid hS
  have hlm := hk.len64
  have HE := Lib.hid (exprsK_eq t.kids)
  clear hk ih hS
  go_enter Tryz.func100, Tryz.ntmps100
  go_wp2_with fail
  go_loopw [3] (fun i wr => ∃ j : Nat, j ≤ t.kids.length ∧ i = .int .i64 j ∧ Hid ((t.kids.all fun k => !dashT k) = ((t.kids.drop j).all fun k => !dashT k)) ∧ Hid (Gr w wr)) (fun i _ => t.kids.length - (intOf i).toNat)
  case atStart => exact ⟨0, by omega, rfl, rfl, Gr.refl _⟩
  case round =>
    obtain ⟨j, hj, rfl, HN, HFr⟩ := hrel
    by_cases hlt : j < t.kids.length
    · have hjn : (j : Int) < (t.kids.length : Int) := by omega
      obtain ⟨sb, off, rfl, hsb, hc⟩ := (HA.out.up HFr.out.below HFr.out.below.size).at (by omega)
      obtain ⟨u1, d0, d1, d2, d3, d4, hL1⟩ := hc j hlt
      have HN1 := Lib.hid (HN.out.trans (exprs_step t.kids j hlt))
      have HD : Hid (dashT t.kids[j] = ((t.kids[j]).kind == 14 && (t.kids[j]).text.data.toList.head? == some 45)) := rfl
      clear hc hL1 HN d2 d3 d4
      generalize dashT (t.kids[j]'hlt) = y at HN1 HD
      generalize (t.kids[j]'hlt).kind = tk at d0 HD
      generalize (t.kids[j]'hlt).text = tt at d1 HD
      cases hk : (tk == 14) with
      | false =>
        have HN2 : Hid ((t.kids.all fun k => !dashT k) = ((t.kids.drop (j + 1)).all fun k => !dashT k)) := by
          unfold Hid
          rw [HN1.out, HD.out, hk, Bool.false_and, Bool.not_false, Bool.true_and]
        clear HN1 HD
        go_wp2_with fail
        go_roundw
        case rel => exact ⟨j + 1, by omega, by go_num, HN2, HFr⟩
        case measure => simp [intOf]; omega
      | true =>
        obtain rfl : tk = 14 := by simpa using hk
        by_cases h0 : 0 < tt.size
        · obtain ⟨hem, hf⟩ := size_pos h0
          by_cases hc : tt[0] = 45
          · have hc' : (((tt[0]).toNat : Int) == 45) = true := by rw [hc]; rfl
            have HR : Hid (exprsK t.kids = false) := by
              unfold Hid
              rw [HE.out, HN1.out, HD.out, hf, hc]
              rfl
            clear HN1 HD HE hf hc hk
            go_wp2_with fail
            go_ret
            rw [HR.out]
            exact ⟨rfl, HFr.out⟩
          · have hc' : (((tt[0]).toNat : Int) == 45) = false := by
              rw [beq_eq_false_iff_ne]
              intro e
              exact hc (UInt8.toNat_inj.1 (by show (tt[0]).toNat = 45; omega))
            have HN2 : Hid ((t.kids.all fun k => !dashT k) = ((t.kids.drop (j + 1)).all fun k => !dashT k)) := by
              unfold Hid
              have hs : (some tt[0] == some (45 : UInt8)) = false := by simpa using hc
              rw [HN1.out, HD.out, hf, hs]
              rfl
            clear HN1 HD hf hc hk
            go_wp2_with fail
            go_roundw
            case rel => exact ⟨j + 1, by omega, by go_num, HN2, HFr⟩
            case measure => simp [intOf]; omega
        · obtain ⟨hem, hnil⟩ := size_zero h0
          have HN2 : Hid ((t.kids.all fun k => !dashT k) = ((t.kids.drop (j + 1)).all fun k => !dashT k)) := by
            unfold Hid
            rw [HN1.out, HD.out, hnil]
            rfl
          clear HN1 HD hnil hk
          go_wp2_with fail
          go_roundw
          case rel => exact ⟨j + 1, by omega, by go_num, HN2, HFr⟩
          case measure => simp [intOf]; omega
    · obtain rfl : j = t.kids.length := by omega
      have HR : Hid (exprsK t.kids = allK [13, 14, 15, 16] t.kids) := by
        unfold Hid
        rw [HE.out, HN.out, List.drop_length]
        rfl
      have KA : Hid (Calls Tryz.prog 40 #[.slice a t.kids.length c, .int .i64 0, .int .i64 t.kids.length, .slice (some ⟨wr.heap.size, 0, none⟩) 4 4] (wr.alloc (.cells #[.int .u8 13, .int .u8 14, .int .u8 15, .int .u8 16] 22)) (fun e w' => e = .returned (.bool (allK [13, 14, 15, 16] t.kids)) ∧ Gr (wr.alloc (.cells #[.int .u8 13, .int .u8 14, .int .u8 15, .int .u8 16] 22)) w')) := by
        have hb := HFr.out.below.trans ((below_own (w := wr) (.cells #[.int .u8 13, .int .u8 14, .int .u8 15, .int .u8 16] 22)).mono HFr.out.below.size)
        have h := refAll_of t HI.out HSm.out (wr.alloc (.cells #[.int .u8 13, .int .u8 14, .int .u8 15, .int .u8 16] 22)) a c ps (HA.out.up hb hb.size) 0 t.kids.length (Nat.zero_le _) (Nat.le_refl _) [13, 14, 15, 16] wr.heap.size 4 4 rfl (by omega) (by simp) (fun j u hu => cells_made wr _ _ j u (by rw [← Array.getElem?_toList]; exact hu))
        rw [List.take_length, List.drop_zero] at h
        exact h
      clear HE HN HA HI HSm
      go_wp2_with (go_at_call 40; go_must (refine (KA.out).mono ?_; rintro e w1 ⟨rfl, hg⟩))
      go_ret
      rw [HR.out]
      exact ⟨rfl, HFr.out.trans ((box_gr _ _).trans hg)⟩

theorem condsN_le : ∀ l : List T, condsN l ≤ l.length
  | [] => Nat.le_refl _
  | k :: l => by
    rw [condsN]
    have := condsN_le l
    split
    · rw [List.length_cons]; omega
    · omega
theorem condsN_step (l : List T) (j : Nat) (h : j < l.length) : condsN (l.drop j) = if condK (l[j]).kind then condsN (l.drop (j + 1)) + 1 else 0 := by
  rw [List.drop_eq_getElem_cons h, condsN]
abbrev condC : Array Value := #[.int .u8 5, .int .u8 6, .int .u8 7]
abbrev actC : Array Value := #[.int .u8 8, .int .u8 9, .int .u8 10, .int .u8 11]

set_option maxRecDepth 100000 in
set_option maxHeartbeats 4000000 in
theorem refRule_of (t : T) (ih : ∀ k, k ∈ t.kids → NodeOK k) (hS : Small 9000 t) (w : World) (a : Option Addr) (c : Nat) (ps : List (T × Value)) (hk : KidsAt w.heap.size w t a c ps) :
    Calls Tryz.prog 99 #[.slice a t.kids.length c] w (fun e w' => e = .returned (.bool (ruleK t.kids)) ∧ Gr w w') := by
  have HA := Lib.hid hk
  have hlm := hk.len64
  have HE := Lib.hid (ruleK_eq t.kids)
  have K1 : Hid (∀ W n, Gr w W → n ≤ t.kids.length → Calls Tryz.prog 40 #[.slice a t.kids.length c, .int .i64 0, .int .i64 n, .slice (some ⟨W.heap.size, 0, none⟩) 3 3] (W.alloc (.cells condC 22)) (fun e w' => e = .returned (.bool (allK [5, 6, 7] (t.kids.take n))) ∧ Gr (W.alloc (.cells condC 22)) w')) := fun W n hW hn => by
    have hb := hW.below.trans ((below_own (w := W) (.cells condC 22)).mono hW.below.size)
    have h := refAll_of t ih hS (W.alloc (.cells condC 22)) a c ps (hk.up hb hb.size) 0 n (Nat.zero_le _) hn [5, 6, 7] W.heap.size 3 3 rfl (by omega) (by simp) (fun j u hu => cells_made W _ _ j u (by rw [← Array.getElem?_toList]; exact hu))
    rw [List.drop_zero] at h
    exact h
  have K2 : Hid (∀ (W : World) (n : Nat), Gr w W → n ≤ t.kids.length → Calls Tryz.prog 40 #[.slice a t.kids.length c, .int .i64 n, .int .i64 t.kids.length, .slice (some ⟨W.heap.size, 0, none⟩) 4 4] (W.alloc (.cells actC 22)) (fun e w' => e = .returned (.bool (allK [8, 9, 10, 11] (t.kids.drop n))) ∧ Gr (W.alloc (.cells actC 22)) w')) := fun W n hW hn => by
    have hb := hW.below.trans ((below_own (w := W) (.cells actC 22)).mono hW.below.size)
    have h := refAll_of t ih hS (W.alloc (.cells actC 22)) a c ps (hk.up hb hb.size) n t.kids.length hn (Nat.le_refl _) [8, 9, 10, 11] W.heap.size 4 4 rfl (by omega) (by simp) (fun j u hu => cells_made W _ _ j u (by rw [← Array.getElem?_toList]; exact hu))
    rw [List.take_length] at h
    exact h
  clear hk ih hS
  go_enter Tryz.func99, Tryz.ntmps99
  go_wp2_with fail
  go_loopw [3] (fun i wr => ∃ j : Nat, j ≤ t.kids.length ∧ i = .int .i64 j ∧ Hid (condsN t.kids = j + condsN (t.kids.drop j)) ∧ Hid (Gr w wr)) (fun i _ => t.kids.length - (intOf i).toNat)
  case atStart => exact ⟨0, by omega, rfl, by unfold Hid; simp, Gr.refl _⟩
  case round =>
    obtain ⟨j, hj, rfl, HN, HFr⟩ := hrel
    by_cases hlt : j < t.kids.length
    · have hjn : (j : Int) < (t.kids.length : Int) := by omega
      obtain ⟨sb, off, rfl, hsb, hc⟩ := (HA.out.up HFr.out.below HFr.out.below.size).at (by omega)
      obtain ⟨u1, d0, d1, d2, d3, d4, hL1⟩ := hc j hlt
      have HS1 := Lib.hid (condsN_step t.kids j hlt)
      clear hc hL1 d1 d2 d3 d4
      generalize (t.kids[j]'hlt).kind = tk at d0 HS1
      have KC := Lib.hid (fun W => cond_any tk W)
      cases hck : condK tk with
      | true =>
        rw [hck] at HS1 KC
        have HN2 : Hid (condsN t.kids = (j + 1) + condsN (t.kids.drop (j + 1))) := by
          unfold Hid
          rw [HN.out, HS1.out, if_pos rfl]
          omega
        go_wp2_with (go_at_call 128; go_must (refine (KC.out _).mono ?_; rintro e w1 ⟨rfl, rfl⟩))
        clear KC d0 HN HS1
        go_roundw
        case rel => exact ⟨j + 1, by omega, by go_num, HN2, HFr⟩
        case measure => simp [intOf]; omega
      | false =>
        rw [hck] at HS1 KC
        have HJ : Hid (condsN t.kids = j) := by
          unfold Hid
          rw [HN.out, HS1.out, if_neg (by simp)]
          rfl
        have HR : Hid (ruleK t.kids = (allK [5, 6, 7] (t.kids.take j) && allK [8, 9, 10, 11] (t.kids.drop j))) := by
          unfold Hid
          rw [HE.out, HJ.out]
        have KA := Lib.hid (K1.out wr j HFr.out hj)
        have HK2 := Lib.hid (fun W (hW : Gr w W) => K2.out W j hW hj)
        clear HS1 hck
        clear HE HN K1 K2 HA HJ
        generalize allK [8, 9, 10, 11] (t.kids.drop j) = y2 at HR HK2
        cases hy1 : allK [5, 6, 7] (t.kids.take j) with
        | false =>
          rw [hy1] at KA HR
          go_wp2_with (first
            | (go_at_call 128; go_must (refine (KC.out _).mono ?_; rintro e w1 ⟨rfl, rfl⟩))
            | (go_at_call 40; go_must (refine (KA.out).mono ?_; rintro e w1 ⟨rfl, hg⟩)))
          go_ret
          rw [HR.out]
          exact ⟨rfl, HFr.out.trans ((box_gr _ _).trans hg)⟩
        | true =>
          rw [hy1, Bool.true_and] at HR
          rw [hy1] at KA
          go_wp2_with (first
            | (go_at_call 128; go_must (refine (KC.out _).mono ?_; rintro e w1 ⟨rfl, rfl⟩))
            | (go_at_call 40; go_must (refine (KA.out).mono ?_; rintro e w1 ⟨rfl, hg⟩; have HG1 := Lib.hid (HFr.out.trans ((box_gr _ _).trans hg)); clear hg KA; refine Hid.out ?_)))
          have KB := Lib.hid (HK2.out w1 HG1.out)
          refine Lib.hid ?_
          go_wp2_with (go_at_call 40; go_must (refine (KB.out).mono ?_; rintro e w2 ⟨rfl, hg⟩))
          go_ret
          rw [HR.out]
          exact ⟨rfl, HG1.out.trans ((box_gr _ _).trans hg)⟩
    · obtain rfl : j = t.kids.length := by omega
      have HJ : Hid (condsN t.kids = t.kids.length) := by
        unfold Hid
        rw [HN.out, List.drop_length]
        rfl
      have hji : ¬ (t.kids.length : Int) < (t.kids.length : Int) := by omega
      have HR : Hid (ruleK t.kids = (allK [5, 6, 7] (t.kids.take t.kids.length) && allK [8, 9, 10, 11] (t.kids.drop t.kids.length))) := by
        unfold Hid
        rw [HE.out, HJ.out]
      have KA := Lib.hid (K1.out wr t.kids.length HFr.out (Nat.le_refl _))
      have HK2 := Lib.hid (fun W (hW : Gr w W) => K2.out W t.kids.length hW (Nat.le_refl _))
      clear HE HN K1 K2 HA HJ
      generalize allK [8, 9, 10, 11] (t.kids.drop t.kids.length) = y2 at HR HK2
      cases hy1 : allK [5, 6, 7] (t.kids.take t.kids.length) with
      | false =>
        rw [hy1] at KA HR
        go_wp2_with (first
          | (go_at_call 40; go_must (refine (KA.out).mono ?_; rintro e w1 ⟨rfl, hg⟩)))
        go_ret
        rw [HR.out]
        exact ⟨rfl, HFr.out.trans ((box_gr _ _).trans hg)⟩
      | true =>
        rw [hy1, Bool.true_and] at HR
        rw [hy1] at KA
        go_wp2_with (first
          | (go_at_call 40; go_must (refine (KA.out).mono ?_; rintro e w1 ⟨rfl, hg⟩; have HG1 := Lib.hid (HFr.out.trans ((box_gr _ _).trans hg)); clear hg KA; refine Hid.out ?_)))
        have KB := Lib.hid (HK2.out w1 HG1.out)
        refine Lib.hid ?_
        go_wp2_with (go_at_call 40; go_must (refine (KB.out).mono ?_; rintro e w2 ⟨rfl, hg⟩))
        go_ret
        rw [HR.out]
        exact ⟨rfl, HG1.out.trans ((box_gr _ _).trans hg)⟩
end Go.Proofs.YtfmjhbaenpbfoaaGreatDoor
