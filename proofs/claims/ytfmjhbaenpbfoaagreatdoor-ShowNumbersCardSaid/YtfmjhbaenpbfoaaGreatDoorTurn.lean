/- The question whether Kids are in turn of some kinds. -/
import Derived.Test.YtfmjhbaenpbfoaaGreatDoorBelow
import Derived.Test.YtfmjhbaenpbfoaaGreatDoorRefT
namespace Go.Proofs.YtfmjhbaenpbfoaaGreatDoor
open Go.RowKit

abbrev kcells (ks : List Int) : List Value := ks.map fun k => .int .u8 k
/-- A slice of kinds. -/
def KindsAt (B : Nat) (w : World) (v : Value) (ks : List Int) : Prop := ∃ ao c, v = .slice ao ks.length c ∧ SlG B w ao (kcells ks)
theorem KindsAt.up {B B' : Nat} {w w' : World} {v : Value} {ks : List Int} (h : KindsAt B w v ks) (b : Below B w w') (hB : B ≤ B') : KindsAt B' w' v ks := by
  obtain ⟨ao, c, h1, h2⟩ := h
  exact ⟨ao, c, h1, h2.up b hB⟩
/-- A slice of such slices. -/
def RowsK (B : Nat) (w : World) (v : Value) (rows : List (List Int)) : Prop := ∃ ao c vs, v = .slice ao rows.length c ∧ vs.length = rows.length ∧ SlG B w ao vs ∧ ∀ (i : Nat) ks, rows[i]? = some ks → ∃ u, vs[i]? = some u ∧ KindsAt B w u ks
theorem RowsK.up {B B' : Nat} {w w' : World} {v : Value} {rows : List (List Int)} (h : RowsK B w v rows) (b : Below B w w') (hB : B ≤ B') : RowsK B' w' v rows := by
  obtain ⟨ao, c, vs, h1, h2, h3, h4⟩ := h
  exact ⟨ao, c, vs, h1, h2, h3.up b hB, fun i ks hi => by obtain ⟨u, h5, h6⟩ := h4 i ks hi; exact ⟨u, h5, h6.up b hB⟩⟩
/-- The closure, with what it has captured. -/
def ClosAt (B : Nat) (w : World) (v : Value) (lo hi : Int) (rows : List (List Int)) : Prop := ∃ b1 b2 b3 rv, v = .func (.func 74) #[] #[.pointer (some ⟨b1, 0, none⟩), .pointer (some ⟨b2, 0, none⟩), .pointer (some ⟨b3, 0, none⟩)] ∧ b1 < B ∧ b2 < B ∧ b3 < B ∧ w.cell? ⟨b1, 0, none⟩ = some (.int .i64 lo) ∧ w.cell? ⟨b2, 0, none⟩ = some (.int .i64 hi) ∧ w.cell? ⟨b3, 0, none⟩ = some rv ∧ RowsK B w rv rows
theorem ClosAt.up {B B' : Nat} {w w' : World} {v : Value} {lo hi : Int} {rows : List (List Int)} (h : ClosAt B w v lo hi rows) (b : Below B w w') (hB : B ≤ B') : ClosAt B' w' v lo hi rows := by
  obtain ⟨b1, b2, b3, rv, h0, h1, h2, h3, h4, h5, h6, h7⟩ := h
  exact ⟨b1, b2, b3, rv, h0, by omega, by omega, by omega, (b.cell (p := ⟨b1, 0, none⟩) h1).trans h4, (b.cell (p := ⟨b2, 0, none⟩) h2).trans h5, (b.cell (p := ⟨b3, 0, none⟩) h3).trans h6, h7.up b hB⟩

theorem inTurn_any (lo hi : Int) (v : Value) (rows : List (List Int)) (w : World) (h : RowsK w.heap.size w v rows) :
    Calls Tryz.prog 47 #[.int .i64 lo, .int .i64 hi, v] w fun e w' => ∃ u, e = .returned u ∧ ClosAt w'.heap.size w' u lo hi rows ∧ Gr w w' := by
  have HV := Lib.hid h
  obtain ⟨ao, c, vs, rfl, -⟩ := h
  go_enter Tryz.func47, Tryz.ntmps47
  go_wp2_with fail
  go_ret
  refine ⟨_, rfl, ⟨w.heap.size, w.heap.size + 1, w.heap.size + 1 + 1, _, rfl, by simp; omega, by simp, by simp, ?_, ?_, ?_, HV.out.up (below_new (below_new (below_own _) _) _) (by simp; omega)⟩, (((Gr.refl w).alloc _).alloc _).alloc _⟩
  · rw [World.cell?_alloc_lt _ _ _ (by simp; omega), World.cell?_alloc_lt _ _ _ (by simp)]
    exact cells_made _ _ _ 0 _ rfl
  · rw [World.cell?_alloc_lt _ _ _ (by simp)]
    exact cells_made2 _ _ _ _ 0 _ rfl
  · have := cells_made ((w.alloc (.cells #[.int .i64 lo] 3)).alloc (.cells #[.int .i64 hi] 3)) #[.slice ao rows.length c] 124 0 _ rfl
    simpa using this

set_option maxRecDepth 100000 in
theorem kindIdx_any (ks : List Int) (k : Int) (v : Value) (w : World) (h : KindsAt w.heap.size w v ks) (hl : ks.length ≤ 1000) :
    Calls Tryz.prog 106 #[v, .int .u8 k] w fun e w' => ∃ r : Int, e = .returned (.int .i64 r) ∧ decide (0 ≤ r) = ks.contains k ∧ w = w' := by
  obtain ⟨ao, c, rfl, hs⟩ := h
  have HS := Lib.hid hs
  clear hs
  go_enter Tryz.func106, Tryz.ntmps106
  go_wp2_with fail
  go_loopw [8] (fun i wr => ∃ j : Nat, j ≤ ks.length ∧ i = .int .i64 j ∧ Hid ((ks.take j).contains k = false) ∧ w = wr) (fun i _ => ks.length - (intOf i).toNat)
  case atStart => exact ⟨0, by omega, rfl, by unfold Hid; simp, rfl⟩
  case round =>
    obtain ⟨j, hj, rfl, HJ, rfl⟩ := hrel
    by_cases hlt : j < ks.length
    · have hjn : (j : Int) < (ks.length : Int) := by omega
      obtain ⟨sb, off, rfl, hsb, hc⟩ := HS.out (by intro e; have := congrArg List.length e; simp at this; rw [this] at hlt; simp at hlt)
      have hcj := hc j (.int .u8 ks[j]) (by simp [hlt])
      clear hc
      obtain ⟨q, hq⟩ : ∃ q, q = ks[j] := ⟨_, rfl⟩
      rw [← hq] at hcj
      have HQ := Lib.hid hq
      clear hq
      by_cases he : k = q
      · have he' : (k == q) = true := beq_iff_eq.2 he
        have HE := Lib.hid he
        clear he
        go_wp2_with fail
        go_ret
        refine ⟨_, rfl, ?_, rfl⟩
        have h1 : ks.contains k = true := by
          rw [List.contains_iff_mem, HE.out, HQ.out]
          exact List.getElem_mem hlt
        rw [h1]
        exact decide_eq_true (by omega)
      · have he' : (k == q) = false := beq_eq_false_iff_ne.2 he
        have HJ1 : Hid ((ks.take (j + 1)).contains k = false) := by
          have h1 := HJ.out
          unfold Hid
          rw [List.take_add_one, List.getElem?_eq_getElem hlt]
          show (ks.take j ++ [ks[j]]).contains k = false
          rw [List.contains_eq_any_beq, List.any_append, ← List.contains_eq_any_beq, h1, ← HQ.out]
          simp [he']
        clear he HJ
        go_wp2_with fail
        go_roundw
        case rel => exact ⟨j + 1, by omega, by go_num, HJ1, trivial⟩
        case measure => simp [intOf]; omega
    · obtain rfl : j = ks.length := by omega
      have h1 : ks.contains k = false := by
        have := HJ.out
        rwa [List.take_length] at this
      have HR := Lib.hid h1
      clear HJ h1
      go_wp2_with fail
      go_ret
      exact ⟨_, rfl, by rw [HR.out]; decide, rfl⟩
theorem kindHas_any (ks : List Int) (k : Int) (v : Value) (w : World) (h : KindsAt w.heap.size w v ks) (hl : ks.length ≤ 1000) :
    Calls Tryz.prog 75 #[v, .int .u8 k] w fun e w' => e = .returned (.bool (ks.contains k)) ∧ w = w' := by
  have K := Lib.hid (kindIdx_any ks k v w h hl)
  obtain ⟨ao, c, rfl, -⟩ := h
  go_enter Tryz.func75, Tryz.ntmps75
  go_wp2_with (go_at_call 106; go_must (refine (K.out).mono ?_; rintro e w1 ⟨r, rfl, hr, rfl⟩; have HR := Lib.hid hr; clear hr))
  go_ret
  rw [← HR.out]
  exact ⟨by simp, rfl⟩

/-- What is left behind the kids of the rows' kinds, in turn. -/
def stripK : List (List Int) → List T → List T
  | [], l => l
  | ks :: r, l => stripK r (l.dropWhile fun k => ks.contains k.kind)
def turnK (lo hi : Int) (rows : List (List Int)) (l : List T) : Bool := decide (lo ≤ (l.length : Int)) && decide ((l.length : Int) ≤ hi) && (stripK rows l).isEmpty

set_option maxRecDepth 100000 in
set_option maxHeartbeats 2000000 in
theorem turn_any (lo hi : Int) (rows : List (List Int)) (t : T) (ao : Option Addr) (c : Nat) (ps : List (T × Value)) (b1 b2 b3 : Nat) (rv : Value) (w : World) (hk : KidsAt w.heap.size w t ao c ps) (c1 : w.cell? ⟨b1, 0, none⟩ = some (.int .i64 lo)) (c2 : w.cell? ⟨b2, 0, none⟩ = some (.int .i64 hi)) (c3 : w.cell? ⟨b3, 0, none⟩ = some rv) (hr : RowsK w.heap.size w rv rows) (hrl : rows.length ≤ 10) (hks : ∀ ks, ks ∈ rows → ks.length ≤ 1000) :
    Calls Tryz.prog 74 #[.slice ao t.kids.length c, .pointer (some ⟨b1, 0, none⟩), .pointer (some ⟨b2, 0, none⟩), .pointer (some ⟨b3, 0, none⟩)] w fun e w' => e = .returned (.bool (turnK lo hi rows t.kids)) ∧ w = w' := by
  obtain ⟨ro, rc, vs, rfl, hvl, hvs, hve⟩ := hr
  have hlm := hk.len64
  have hcm : t.kids.length ≤ c ∧ c ≤ 9223372036854775807 := ⟨hk.cap, by have := hk.top; unfold maxLen at this; omega⟩
  have HK := Lib.hid hk
  have HV := Lib.hid (And.intro hvl (And.intro hvs hve))
  have HKs := Lib.hid hks
  have HCm := Lib.hid hcm
  have hca : ∃ (sb off : Nat), Hid (0 < t.kids.length → ao = some ⟨sb, off, none⟩ ∧ ∀ i, (h : i < t.kids.length) → w.cell? ⟨sb, off + i * 5, none⟩ = some (.int .u8 (t.kids[i]).kind)) := by
    by_cases h : 0 < t.kids.length
    · obtain ⟨sb, off, e, -, hc⟩ := hk.at h
      exact ⟨sb, off, fun _ => ⟨e, fun i hi => by obtain ⟨v, h0, -⟩ := hc i hi; exact h0⟩⟩
    · exact ⟨0, 0, fun h' => absurd h' h⟩
  obtain ⟨sb, off, HA⟩ := hca
  clear hk hvl hvs hve hks hcm
  by_cases hlo : lo ≤ (t.kids.length : Int)
  · by_cases hhi : (t.kids.length : Int) ≤ hi
    · have HT : Hid (turnK lo hi rows t.kids = (stripK (rows.drop 0) (t.kids.drop 0)).isEmpty) := by
        unfold Hid turnK
        rw [decide_eq_true hlo, decide_eq_true hhi]
        rfl
      have HA0 : Hid (0 < t.kids.length → ao = some ⟨sb, off + 0 * 5, none⟩) := fun h => by simpa using (HA.out h).1
      go_enter Tryz.func74, Tryz.ntmps74
      go_wp2_with fail
      go_loopw [0, 20] (fun v i wr => ∃ (r m n : Nat) (a : Option Addr) (cc : Nat), r ≤ rows.length ∧ Hid (m + n = t.kids.length) ∧ i = .int .i64 r ∧ v = .slice a n cc ∧ n ≤ cc ∧ cc ≤ 9223372036854775807 ∧ Hid (0 < n → a = some ⟨sb, off + m * 5, none⟩) ∧ Hid (turnK lo hi rows t.kids = (stripK (rows.drop r) (t.kids.drop m)).isEmpty) ∧ w = wr) (fun _ i _ => rows.length - (intOf i).toNat)
      case atStart => exact ⟨0, 0, t.kids.length, ao, c, by omega, Nat.zero_add _, rfl, rfl, HCm.out.1, HCm.out.2, HA0, HT, by trivial⟩
      case round =>
        clear HT HA0
        obtain ⟨r, m, n, a, cc, hrr, Hm, rfl, rfl, hcc, hcc2, HAm, HT, rfl⟩ := hrel
        by_cases hlt : r < rows.length
        · have hrn : (r : Int) < (rows.length : Int) := by omega
          obtain ⟨u, hu, hku⟩ := HV.out.2.2 r rows[r] (List.getElem?_eq_getElem hlt)
          obtain ⟨rb, roff, rfl, hrb, hrc⟩ := HV.out.2.1 (by intro e; rw [e] at hu; simp at hu)
          have hcr := hrc r u hu
          have hkl := HKs.out rows[r] (List.getElem_mem hlt)
          have HH := Lib.hid (fun k => kindHas_any rows[r] k u w hku hkl)
          have HR : Hid (stripK (rows.drop r) (t.kids.drop m) = stripK (rows.drop (r + 1)) ((t.kids.drop m).dropWhile fun k => (rows[r]).contains k.kind)) := by
            unfold Hid
            rw [List.drop_eq_getElem_cons hlt, stripK]
          obtain ⟨ao', c', rfl, -⟩ := hku
          have HT1 : Hid (turnK lo hi rows t.kids = (stripK (rows.drop (r + 1)) ((t.kids.drop m).dropWhile fun k => (rows[r]).contains k.kind)).isEmpty) := by
            have := HT.out
            rw [HR.out] at this
            exact this
          clear hrc hkl HT HR
          generalize rows[r] = ks at hcr HH HT1
          go_wp2_with fail
          go_loopg [0] n (fun g v wr => ∃ (m : Nat) (a : Option Addr) (cc : Nat), Hid (m + g = t.kids.length) ∧ v = .slice a g cc ∧ g ≤ cc ∧ cc ≤ 9223372036854775807 ∧ Hid (0 < g → a = some ⟨sb, off + m * 5, none⟩) ∧ Hid (turnK lo hi rows t.kids = (stripK (rows.drop (r + 1)) ((t.kids.drop m).dropWhile fun k => ks.contains k.kind)).isEmpty) ∧ w = wr)
          case atStart => exact ⟨m, a, cc, Hm, rfl, hcc, hcc2, HAm, HT1, by trivial⟩
          case round =>
            clear HT1 HAm hcc hcc2 Hm
            obtain ⟨m, a, cc, Hm, rfl, hcc, hcc2, HAm, HT1, rfl⟩ := hrel
            by_cases hg : 0 < gk
            · have hgn : (0 : Int) < (gk : Int) := by omega
              have hml : m < t.kids.length := by have := Hm.out; omega
              obtain rfl := HAm.out hg
              have hcell := (HA.out (by omega)).2 m hml
              have HD : Hid ((t.kids.drop m).dropWhile (fun k => ks.contains k.kind) = if ks.contains (t.kids[m]).kind then (t.kids.drop (m + 1)).dropWhile (fun k => ks.contains k.kind) else t.kids.drop m) := by
                unfold Hid
                rw [List.drop_eq_getElem_cons hml, List.dropWhile_cons]
              obtain ⟨q, hq⟩ : ∃ q, q = (t.kids[m]).kind := ⟨_, rfl⟩
              rw [← hq] at hcell HD
              clear hq
              cases hb : ks.contains q with
              | true =>
                have HT2 : Hid (turnK lo hi rows t.kids = (stripK (rows.drop (r + 1)) ((t.kids.drop (m + 1)).dropWhile fun k => ks.contains k.kind)).isEmpty) := by
                  have := HT1.out
                  rw [HD.out, hb] at this
                  exact this
                have HH1 := Lib.hid (HH.out q)
                rw [hb] at HH1
                clear hb HD HT1
                by_cases hc1 : cc = 1
                · subst hc1
                  obtain rfl : gk = 1 := by omega
                  go_wp2_with (go_at_call 75; go_must (refine (HH1.out).mono ?_; rintro e w1 ⟨rfl, rfl⟩))
                  go_roundg 0
                  case measure => omega
                  case rel => exact ⟨m + 1, _, 0, Hm.out, rfl, Nat.le_refl _, by omega, (fun h => absurd h (Nat.lt_irrefl 0)), HT2, by trivial⟩
                · have hc2 : ((cc : Int) == 1) = false := beq_eq_false_iff_ne.2 (by omega)
                  have hc3 : ¬ (cc : Int) = 1 := by omega
                  go_wp2_with (go_at_call 75; go_must (refine (HH1.out).mono ?_; rintro e w1 ⟨rfl, rfl⟩))
                  all_goals (try omega)
                  go_roundg (gk - 1)
                  case measure => omega
                  case rel => exact ⟨m + 1, _, cc - 1, by have := Hm.out; unfold Hid; omega, rfl, by omega, by omega, (fun _ => by rw [show off + (m + 1) * 5 = off + m * 5 + 5 by omega]), HT2, by trivial⟩
              | false =>
                have HT2 : Hid (turnK lo hi rows t.kids = (stripK (rows.drop (r + 1)) (t.kids.drop m)).isEmpty) := by
                  have := HT1.out
                  rw [HD.out, hb] at this
                  exact this
                have HH1 := Lib.hid (HH.out q)
                rw [hb] at HH1
                clear hb HD HT1
                go_wp2_with (go_at_call 75; go_must (refine (HH1.out).mono ?_; rintro e w1 ⟨rfl, rfl⟩))
                go_roundw
                case rel => exact ⟨r + 1, m, gk, _, cc, by omega, Hm, by go_num, rfl, hcc, hcc2, (fun _ => rfl), HT2, by trivial⟩
                case measure => simp [intOf]; omega
            · obtain rfl : gk = 0 := by omega
              have HT2 : Hid (turnK lo hi rows t.kids = (stripK (rows.drop (r + 1)) (t.kids.drop m)).isEmpty) := by
                have hnil : t.kids.drop m = [] := List.drop_eq_nil_of_le (by have := Hm.out; omega)
                have := HT1.out
                rw [hnil] at this
                unfold Hid
                rw [hnil]
                exact this
              clear HT1
              go_wp2_with fail
              go_roundw
              case rel => exact ⟨r + 1, m, 0, a, cc, by omega, Hm, by go_num, rfl, hcc, hcc2, HAm, HT2, by trivial⟩
              case measure => simp [intOf]; omega
        · obtain rfl : r = rows.length := by omega
          have HT1 : Hid (turnK lo hi rows t.kids = decide (n = 0)) := by
            have h1 := HT.out
            rw [List.drop_length, stripK] at h1
            unfold Hid
            rw [h1]
            by_cases hn : n = 0
            · rw [decide_eq_true hn, List.drop_eq_nil_of_le (by have := Hm.out; omega)]
              rfl
            · rw [decide_eq_false hn, List.isEmpty_eq_false_iff]
              intro e
              have := congrArg List.length e
              rw [List.length_drop, List.length_nil] at this
              have := Hm.out
              omega
          by_cases hn : n = 0
          · subst hn
            have HQ : Hid (turnK lo hi rows t.kids = true) := HT1.out
            clear HT HT1
            go_wp2_with fail
            go_ret
            exact ⟨by rw [HQ.out]; rfl, rfl⟩
          · have hn' : ((n : Int) == 0) = false := beq_eq_false_iff_ne.2 (by omega)
            have HQ : Hid (turnK lo hi rows t.kids = false) := HT1.out.trans (decide_eq_false hn)
            clear HT HT1 hn
            go_wp2_with fail
            go_ret
            exact ⟨by rw [HQ.out]; rfl, rfl⟩
    · have HT : Hid (turnK lo hi rows t.kids = false) := by
        unfold Hid turnK
        rw [decide_eq_false hhi, Bool.and_false, Bool.false_and]
      rw [HT.out]
      have hlo' : decide ((t.kids.length : Int) < lo) = false := decide_eq_false (by omega)
      have hhi' : decide (hi < (t.kids.length : Int)) = true := decide_eq_true (by omega)
      go_enter Tryz.func74, Tryz.ntmps74
      go_wp2_with fail
      go_ret
      exact ⟨rfl, rfl⟩
  · have HT : Hid (turnK lo hi rows t.kids = false) := by
      unfold Hid turnK
      rw [decide_eq_false hlo, Bool.false_and, Bool.false_and]
    rw [HT.out]
    have hlo' : decide ((t.kids.length : Int) < lo) = true := decide_eq_true (by omega)
    go_enter Tryz.func74, Tryz.ntmps74
    go_wp2_with fail
    go_ret
    exact ⟨rfl, rfl⟩
end Go.Proofs.YtfmjhbaenpbfoaaGreatDoor
