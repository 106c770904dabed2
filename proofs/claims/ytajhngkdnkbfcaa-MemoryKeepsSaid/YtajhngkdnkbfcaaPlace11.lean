/- place: where a fact of a number stands. -/
import Derived.Test.YtajhngkdnkbfcaaRow11
namespace Go.Proofs.Ytajhngkdnkbfcaa
open Go.RowKit

/-- A load of many cells, under a guard that holds. -/
theorem wpList_load_when {P : Program} {ops : Array Oper} {rest : List Oper} {op : Oper} {a : Act} {w : World} {Q : Exit → Act → World → Prop} (hw : Region.wanted op (yielded ops a.tmps) = true) (ty : TypeId) (x : Operand) (ho : op.op = .load ty x)
    (b o : Nat) (hx : a.eval x = .pointer (some ⟨b, o, none⟩)) (cs : List Value) (d : TypeDesc) (hc : w.rangeAt b o cs) (hu : P.underlying ty = some d) (hd : d.isRow = true) (hi : (P.info? ty).map (·.size) = some cs.length)
    (h : wpList P ops Q rest (a.put op.dst (.agg cs.toArray)) w) : wpList P ops Q (op :: rest) a w :=
  wpList_step fun K hK => by
    rw [if_pos hw]
    exact wp_load_mid ty x ho b o hx cs d hc hu hd hi (hK _ _ h)
def cmpI (x y : Int) : Int := if x < y then -1 else if y < x then 1 else 0
theorem isNaN_any (x : Int) (w : World) : Calls Try.prog 43 #[.int .i64 x] w fun e w' => e = .returned (.bool false) ∧ w = w' := by
  have hx : (x != x) = false := by simp
  go_enter Try.func43, Try.ntmps43
  go_wp2
  go_ret
  exact ⟨rfl, rfl⟩
set_option maxHeartbeats 1000000 in
theorem compare_any (x y : Int) (w : World) : Calls Try.prog 38 #[.int .i64 x, .int .i64 y] w fun e w' => e = .returned (.int .i64 (cmpI x y)) ∧ w = w' := by
  by_cases h1 : x < y
  · rw [show cmpI x y = -1 from if_pos h1]
    go_enter Try.func38, Try.ntmps38
    go_wp2_with (go_at_call 43; refine (isNaN_any _ _).mono ?_; rintro e w' ⟨rfl, rfl⟩)
    go_ret
    exact ⟨rfl, rfl⟩
  · by_cases h2 : y < x
    · rw [show cmpI x y = 1 from by unfold cmpI; rw [if_neg h1, if_pos h2]]
      go_enter Try.func38, Try.ntmps38
      go_wp2_with (go_at_call 43; refine (isNaN_any _ _).mono ?_; rintro e w' ⟨rfl, rfl⟩)
      go_ret
      exact ⟨rfl, rfl⟩
    · rw [show cmpI x y = 0 from by unfold cmpI; rw [if_neg h1, if_neg h2]]
      go_enter Try.func38, Try.ntmps38
      go_wp2_with (go_at_call 43; refine (isNaN_any _ _).mono ?_; rintro e w' ⟨rfl, rfl⟩)
      go_ret
      exact ⟨rfl, rfl⟩
theorem byId_any (f : F11) (t : Int) (w : World) : Calls Try.prog 37 #[.agg (factL f).toArray, .int .i64 t] w fun e w' => e = .returned (.int .i64 (cmpI f.id t)) ∧ Below w.heap.size w w' := by
  have hb := Box.new w 71 (factL f)
  have x0 : (w.alloc (.cells (factL f).toArray 71)).cell? ⟨w.heap.size, 0, none⟩ = some (.int .i64 f.id) := by rw [hb.cell]; rfl
  have HB : Hid (Below w.heap.size w (w.alloc (.cells (factL f).toArray 71))) := below_own _
  clear hb
  generalize factL f = L at *
  go_enter Try.func37, Try.ntmps37
  go_wp2_with (go_at_call 38; refine (compare_any _ _ _).mono ?_; rintro e w' ⟨rfl, rfl⟩)
  go_ret
  exact ⟨rfl, HB.out⟩
theorem fact_infoL {cs : List Value} (h : cs.length = 21) : (Try.prog.info? 71).map (·.size) = some cs.length := by
  rw [h]; kernel_rfl
/-- Numbers rise. -/
def Rise (l : List F11) : Prop := ∀ i j, i < j → j < l.length → (l.getD i default).id < (l.getD j default).id
/-- Where a number stands, or would stand. -/
structure Stands (l : List F11) (t : Int) (k : Nat) : Prop where
  le : k ≤ l.length
  lo : ∀ m, m < k → (l.getD m default).id < t
  hi : ∀ m, k ≤ m → m < l.length → t ≤ (l.getD m default).id
def hasB (l : List F11) (t : Int) (k : Nat) : Bool := decide (k < l.length ∧ (l.getD k default).id = t)
def PlaceP (l : List F11) (t : Int) (w : World) (e : Ending) (w' : World) : Prop := ∃ k, Stands l t k ∧ e = .returned (.tuple #[.int .i64 (k : Int), .bool (hasB l t k)]) ∧ Below w.heap.size w w'
theorem cmp_lt {x y : Int} : (decide (cmpI x y < 0)) = decide (x < y) := by
  unfold cmpI
  by_cases h1 : x < y
  · simp [h1]
  · by_cases h2 : y < x
    · simp [h1, h2]
    · simp [h1, h2]
theorem cmp_eq {x y : Int} : (cmpI x y == 0) = decide (x = y) := by
  unfold cmpI
  by_cases h1 : x < y
  · simp [h1]; omega
  · by_cases h2 : y < x
    · simp [h1, h2]; omega
    · simp [h1, h2]; omega
set_option maxRecDepth 100000 in
set_option maxHeartbeats 4000000 in
theorem search_any (t : Int) (rb : Nat) (ao : Option Addr) (c : Nat) (l : List F11) (nx : Int) (w : World) (hr : Rw w rb ao c l nx) (hs : Rise l) :
    Calls Try.prog 36 #[.slice ao l.length c, .int .i64 t, .func (.func 37) #[] #[]] w (PlaceP l t w) := by
  have HR := Lib.hid (fun W (hW : Below w.heap.size w W) => hr.old hW)
  have hm := hr.many
  have HF := Lib.hid hr.few
  have HS := Lib.hid hs
  clear hr hs
  unfold PlaceP
  go_enter Try.func36, Try.ntmps36
  go_wp2_with fail
  go_loopw [9, 10] (fun i j wr => ∃ a b : Nat, a ≤ b ∧ b ≤ l.length ∧ i = .int .i64 a ∧ j = .int .i64 b ∧ Hid (∀ m, m < a → (l.getD m default).id < t) ∧ Hid (∀ m, b ≤ m → m < l.length → t ≤ (l.getD m default).id) ∧ Hid (Below w.heap.size w wr)) (fun i j _ => (intOf j).toNat - (intOf i).toNat)
  case atStart => exact ⟨0, l.length, Nat.zero_le _, Nat.le_refl _, rfl, rfl, fun m hm => absurd hm (Nat.not_lt_zero _), fun m h1 h2 => absurd h1 (by omega), Below.refl _ _⟩
  case round =>
    obtain ⟨a, b, hab, hbl, rfl, rfl, HA, HB, HW⟩ := hrel
    by_cases hlt : a < b
    · obtain ⟨h, hh⟩ : ∃ h : Nat, h = (a + b) / 2 := ⟨_, rfl⟩
      have hal : a ≤ h := by omega
      have hhb : h < b := by omega
      have hRw := HR.out wr HW.out
      obtain ⟨fb, rfl, lfb, hrng⟩ := hRw.at (show h < l.length by omega)
      have hL := factL_length _ (getD_few HF.out (show h < l.length by omega))
      have HBy := Lib.hid (fun W => byId_any (l.getD h default) t W)
      have HAn : Hid ((l.getD h default).id < t → ∀ m, m < h + 1 → (l.getD m default).id < t) := fun hlt' m hm' => by
        rcases Nat.lt_or_ge m h with h1 | h1
        · exact Int.lt_trans (HS.out m h h1 (by omega)) hlt'
        · obtain rfl : m = h := by omega
          exact hlt'
      have HBn : Hid (¬ (l.getD h default).id < t → ∀ m, h ≤ m → m < l.length → t ≤ (l.getD m default).id) := fun hge m h1 h2 => by
        rcases Nat.lt_or_ge h m with h3 | h3
        · have := HS.out h m h3 h2
          omega
        · obtain rfl : m = h := by omega
          omega
      have hln := show h < l.length by omega
      generalize l.length = n at *
      generalize (l.getD h default).id = fid at *
      generalize factL (l.getD h default) = L at *
      have HL := Lib.hid hL
      have HRg := Lib.hid hrng
      clear hRw HR hrng hL HF HS
      go_upto_region 5 with fail
      have e2 : ((a : Int) + (b : Int)) / 2 = (h : Int) := by omega
      rw [e2]
      have hhn : (h : Int) < (n : Int) := by omega
      clear e2 hh
      have HWo := Lib.hid (fun W (hW : Below wr.heap.size wr W) => HW.out.trans (hW.mono HW.out.size))
      clear HW
      by_cases hcm : fid < t
      · have hc1 : cmpI fid t < 0 := by unfold cmpI; rw [if_pos hcm]; decide
        have HA1 := Lib.hid (HAn.out hcm)
        clear HAn HBn hcm
        generalize cmpI fid t = cm at *
        go_wp2_with (first
          | (refine wpList_load_mid rfl 71 (.tmp 27) rfl fb (h * 21) rfl L _ HRg.out Try.underlying71 rfl (fact_infoL HL.out) ?_)
          | (go_at_call 37; refine (HBy.out _).mono ?_; rintro e w2 ⟨rfl, hb⟩; have HW2 := Lib.hid (HWo.out _ hb); clear hb))
        clear HBy HRg HL HWo HA
        go_roundw
        case rel => exact ⟨h + 1, b, by omega, hbl, by go_num, rfl, HA1, HB, HW2⟩
        case measure => simp [intOf]; omega
      · have hc1 : ¬ cmpI fid t < 0 := by
          unfold cmpI
          rw [if_neg hcm]
          split <;> decide
        have HB1 := Lib.hid (HBn.out hcm)
        clear HAn HBn hcm
        generalize cmpI fid t = cm at *
        go_wp2_with (first
          | (refine wpList_load_mid rfl 71 (.tmp 27) rfl fb (h * 21) rfl L _ HRg.out Try.underlying71 rfl (fact_infoL HL.out) ?_)
          | (go_at_call 37; refine (HBy.out _).mono ?_; rintro e w2 ⟨rfl, hb⟩; have HW2 := Lib.hid (HWo.out _ hb); clear hb))
        clear HBy HRg HL HWo HB
        go_roundw
        case rel => exact ⟨a, h, hal, by omega, rfl, rfl, HA, HB1, HW2⟩
        case measure => simp [intOf]; omega
    · obtain rfl : a = b := by omega
      have hst : Stands l t a := ⟨hbl, HA.out, HB.out⟩
      have HSt := Lib.hid hst
      clear hst HA HB
      by_cases hal : a < l.length
      · have hRw := HR.out wr HW.out
        obtain ⟨fb, rfl, lfb, hrng⟩ := hRw.at hal
        have hL := factL_length _ (getD_few HF.out hal)
        have HBy := Lib.hid (fun W => byId_any (l.getD a default) t W)
        have HL := Lib.hid hL
        have HRg := Lib.hid hrng
        have HWo := Lib.hid (fun W (hW : Below wr.heap.size wr W) => HW.out.trans (hW.mono HW.out.size))
        have HHas : Hid (hasB l t a = (cmpI (l.getD a default).id t == 0)) := by
          unfold Hid hasB
          rw [cmp_eq]
          simp [hal]
        have han : (a : Int) < (l.length : Int) := by omega
        clear hRw HR hrng hL HF HS HW
        generalize (l.getD a default).id = fid at *
        generalize factL (l.getD a default) = L at *
        generalize l.length = n at *
        cases hq : (cmpI fid t == 0) with
        | true =>
          rw [hq] at HHas
          generalize cmpI fid t = cm at *
          go_wp2_with (first
            | (refine wpList_load_when rfl 71 (.tmp 43) rfl fb (a * 21) rfl L _ HRg.out Try.underlying71 rfl (fact_infoL HL.out) ?_)
            | (go_at_call 37; refine (HBy.out _).mono ?_; rintro e w2 ⟨rfl, hb⟩; have HW2 := Lib.hid (HWo.out _ hb); clear hb))
          go_ret2
          exact ⟨a, HSt.out, by rw [HHas.out]; rfl, HW2.out⟩
        | false =>
          rw [hq] at HHas
          generalize cmpI fid t = cm at *
          go_wp2_with (first
            | (refine wpList_load_when rfl 71 (.tmp 43) rfl fb (a * 21) rfl L _ HRg.out Try.underlying71 rfl (fact_infoL HL.out) ?_)
            | (go_at_call 37; refine (HBy.out _).mono ?_; rintro e w2 ⟨rfl, hb⟩; have HW2 := Lib.hid (HWo.out _ hb); clear hb))
          go_ret2
          exact ⟨a, HSt.out, by rw [HHas.out]; rfl, HW2.out⟩
      · obtain rfl : a = l.length := by omega
        have HHas : Hid (hasB l t l.length = false) := by
          unfold Hid hasB
          simp
        clear HR HF HS
        generalize l.length = n at *
        go_wp2_with fail
        go_ret2
        exact ⟨n, HSt.out, by rw [HHas.out]; rfl, HW.out⟩
theorem place_any (t : Int) (rb : Nat) (ao : Option Addr) (c : Nat) (l : List F11) (nx : Int) (w : World) (hr : Rw w rb ao c l nx) (hs : Rise l) :
    Calls Try.prog 29 #[.pointer (some ⟨rb, 0, none⟩), .int .i64 t] w (PlaceP l t w) := by
  have HC := Lib.hid (search_any t rb ao c l nx w hr hs)
  obtain ⟨x0, x1⟩ := hr.next
  clear hr hs
  unfold PlaceP at *
  go_enter Try.func29, Try.ntmps29
  go_wp2_with (go_at_call 36; refine (HC.out).mono ?_; rintro e w2 ⟨k, hst, rfl, hb⟩; have HSt := Lib.hid hst; have HB := Lib.hid hb; clear hst hb)
  go_ret2
  exact ⟨k, HSt.out, rfl, HB.out⟩
end Go.Proofs.Ytajhngkdnkbfcaa
