/- A condition lent, a condition looked at again. -/
import Derived.Test.YtnnhgbncghpecaaGreatFact10
import Derived.Test.YtnnhgbncghpecaaGreatTree10
import Derived.Test.YtnnhgbncghpecaaGreatKept10
import Derived.Laws.OwnMore
import Derived.OwnWalk
namespace Go.Proofs.YtnnhgbncghpecaaGreat
open Go.RowKit

/-- A row that was lent: twelve marks behind it. -/
structure LentR (base : Nat) (w : World) (g : Nat) (zs : List V3) : Prop where
  own : w.ownsRow base 27 3 (.slice (some ⟨g, 0, none⟩) (zs.length + 12) (zs.length + 12)) (zs.length + 12) (cellsV (zs ++ marksV 12))
  lt : g < w.heap.size
theorem LentR.old {base g : Nat} {w w' : World} {zs : List V3} (h : LentR base w g zs) (b : Below w.heap.size w w') : LentR base w' g zs := ⟨owns_below h.own b, Nat.lt_of_lt_of_le h.lt b.size⟩
theorem LentR.row {base g : Nat} {w : World} {zs : List V3} (h : LentR base w g zs) : RowAt w g 0 (zs ++ marksV 12) := RowAt.ofCells _ fun j hj => by
  rw [Nat.zero_add]
  exact h.own.cellAt j (by rw [List.length_append, marksV_length] at hj; exact hj)
theorem LentR.sl {base g : Nat} {w : World} {zs : List V3} (h : LentR base w g zs) (hz : zs.length ≤ 2000) : Sl10 w.heap.size w zs.length (some ⟨g, 0, none⟩) (zs.length + 12) (cellsV zs) :=
  ⟨fun _ => ⟨g, 0, rfl, h.lt, fun j u hu => by
    have hl : j < (cellsV zs).length := (List.getElem?_eq_some_iff.1 hu).1
    rw [Nat.zero_add, h.own.cellAt j (by rw [cellsV_length] at hl; omega), cellsV_append, List.getElem?_append_left hl]
    exact hu⟩, (fun h => by cases h), by omega, by unfold maxLen; omega⟩

set_option maxRecDepth 100000 in
set_option maxHeartbeats 2000000 in
theorem lentY_any (ao : Option Addr) (n c : Nat) (zs : List V3) (w : World) (hn : zs.length = n) (h20 : n ≤ 2000) (hao : ao = none → n = 0 ∧ c = 0) (hrow : 0 < n → ∀ ad, ao = some ad → ∃ b off, ad = ⟨b, off, none⟩ ∧ b < w.heap.size ∧ RowAt w b off zs) :
    Calls Tryz.prog 9 #[.slice ao n c] w fun e w' => e = .returned (.slice (some ⟨w.heap.size, 0, none⟩) n (n + 12)) ∧ LentR w.heap.size w' w.heap.size zs ∧ Below w.heap.size w w' := by
  obtain ⟨i0, hi, hz0, hz1, hz2⟩ := info_parts infoV
  have hcells : ∀ w1, Below w.heap.size w w1 → ∀ ad, ao = some ad → ∀ j u, (cellsV zs)[j]? = some u → w1.cell? (ad.add j) = some u := by
    intro w1 hb ad had j u hu
    have hpos : 0 < n := by
      rcases Nat.eq_zero_or_pos n with h0 | h0
      · rw [h0] at hn
        rw [List.eq_nil_of_length_eq_zero hn] at hu
        simp [cellsV] at hu
      · exact h0
    obtain ⟨b, off, rfl, hbl, hr⟩ := hrow hpos ad had
    rw [Addr.add_lit]
    exact (hb.cell (p := ⟨b, off + j, none⟩) hbl).trans (RowAt.cells zs hr j u hu)
  have HC := Lib.hid hcells
  have HAO := Lib.hid hao
  have HN := Lib.hid hn
  clear hcells hrow hao hn
  go_enter Tryz.func9, Tryz.ntmps9
  go_wp2_with (first
    | (at_make; refine wpList_make_own _ rfl _ _ 34 rfl w.heap.size 27 i0 (.agg #[.int .u8 0, .int .i64 0, .string ⟨#[]⟩]) 3 Tryz.underlying34 hi hz0 hz1 .i64 .i64 _ (n + 12) rfl rfl (by omega) (by rw [hz2]; omega) (by unfold maxLen; omega) (Nat.le_refl _) ?_; intro w0 hown0 hgrow0)
    | (at_builtin; refine wpList_append_fits_any _ rfl (.tmp 9) (.tmp 10) 34 rfl w.heap.size 27 i0 3 Tryz.underlying34 hi hz1 w.heap.size 0 (n + 12) _ rfl hown0 ao n c (cellsV zs) rfl (by rw [cellsV_length, HN.out]) HAO.out (HC.out _ ((Below.refl _ _).grown hgrow0 (Nat.le_refl _) (fun k h => by cases h))) (cellsV_one _) (by omega) ?_; intro w1 hown1 hgrow1; simp only [Nat.zero_add, List.nil_append] at hown1))
  have HB1 : Below w.heap.size w w1 := ((Below.refl _ _).grown hgrow0 (Nat.le_refl _) (fun k h => by cases h)).grown hgrow1 hgrow0.size (fun k h => by cases h; exact Nat.le_refl _)
  clear hgrow0 hgrow1 HC HAO hown0
  go_loopw [3, 4] (fun v i wr => ∃ k : Nat, k ≤ 12 ∧ i = .int .i64 k ∧ v = .slice (some ⟨w.heap.size, 0, none⟩) (n + k) (n + 12) ∧ wr.ownsRow w.heap.size 27 3 (.slice (some ⟨w.heap.size, 0, none⟩) (n + k) (n + 12)) (n + k) (cellsV (zs ++ marksV k)) ∧ Below w.heap.size w wr) (fun _ i _ => 12 - (intOf i).toNat)
  case atStart => exact ⟨0, by omega, rfl, rfl, by simpa [marksV] using hown1, HB1⟩
  case round =>
    obtain ⟨k, hk, rfl, rfl, hown, hb⟩ := hrel
    have HBr := Lib.hid hb
    clear hb hown1 HB1
    have hsz : w.heap.size ≤ wr.heap.size := HBr.out.size
    go_wp2_with (first
      | (go_at_call 25; refine (markValue_any k _ (by omega)).mono ?_; rintro e w' ⟨rfl, rfl⟩)
      | (at_builtin; refine wpList_append_fits _ rfl (.tmp 16) (.tmp 19) 34 rfl w.heap.size 27 i0 3 Tryz.underlying34 hi hz1 w.heap.size (n + k) (n + 12) _ rfl ((hown.alloc _).alloc _) ⟨wr.heap.size + 1, 0, none⟩ 1 1 (cellsV [markV k]) rfl rfl (fun j u hu => by rw [Addr.add_lit, Nat.zero_add]; exact cells_made2 wr _ _ _ _ rfl j u (by simpa [cellsV, markV] using hu)) (cellsV_one _) (by omega) ?_; intro w4 hown4 hgrow4))
    · have R : w4.ownsRow w.heap.size 27 3 (.slice (some ⟨w.heap.size, 0, none⟩) (n + (k + 1)) (n + 12)) (n + (k + 1)) (cellsV (zs ++ marksV (k + 1))) := by
        rw [marksV_succ, ← List.append_assoc, cellsV_append]
        exact hown4
      have HB4 : Below w.heap.size w w4 := ((HBr.out.alloc hsz _).alloc (by simp; omega) _).grown hgrow4 (by simp; omega) (fun k h => by cases h; exact Nat.le_refl _)
      clear hown4 hgrow4 hown
      go_roundw
      case rel => exact ⟨k + 1, by omega, by go_num, rfl, R, HB4⟩
      case measure => simp [intOf]; omega
    · have hk12 : k = 12 := by omega
      subst hk12
      have hL : (zs ++ marksV 12).length = n + 12 := by rw [List.length_append, marksV_length, HN.out]
      have hlt : w.heap.size < wr.heap.size := by
        rcases hown.2 with ⟨h', _⟩ | ⟨g', cap', cur, h', _, hg, _⟩
        · simp at h'
        · simp only [Value.slice.injEq, Option.some.injEq, Addr.mk.injEq, and_true, true_and] at h'
          obtain ⟨rfl, rfl⟩ := h'
          exact (Array.getElem?_eq_some_iff.1 hg).1
      have HR' : Hid (LentR w.heap.size wr w.heap.size zs) := ⟨by rw [HN.out]; exact hown, hlt⟩
      clear hown hL
      go_wp2
      go_ret
      exact ⟨rfl, HR'.out, HBr.out⟩

theorem markValueY (i : Nat) (w : World) (hi : i ≤ 1000) :
    Calls Tryz.prog 25 #[.int .i64 1, .int .i64 i] w fun e w' => e = .returned (.agg #[.int .u8 0, .int .i64 (8000024 + i), .string ⟨#[]⟩]) ∧ Gr w w' :=
  (markValue_any i w hi).mono fun _ _ ⟨h, h'⟩ => ⟨h, h' ▸ (Gr.refl w).alloc _⟩

set_option maxRecDepth 100000 in
set_option maxHeartbeats 1000000 in
theorem keptY_any (ao : Option Addr) (B n c : Nat) (zs : List V3) (w : World) (hn : zs.length = n) (h20 : n ≤ 2000) (hB : B < w.heap.size) (hao : ao = none → n = 0 ∧ c = 0) (hrow : 0 < n → ∀ ad, ao = some ad → ∃ b off, ad = ⟨b, off, none⟩ ∧ b < w.heap.size ∧ RowAt w b off zs) (hout : RowAt w B 0 (zs ++ marksV 12)) :
    Calls Tryz.prog 15 #[.slice (some ⟨B, 0, none⟩) n (n + 12), .slice ao n c] w fun e w' => e = .returned (.bool true) ∧ Gr w w' := by
  have HAO := Lib.hid hao
  have HN := Lib.hid hn
  have HR := Lib.hid hrow
  have HO := Lib.hid hout
  clear hrow hao hn hout
  have hg := eqGuardV
  have mixed : Tryz.prog.follows .mixedOrders = true := by kernel_rfl
  go_enter Tryz.func15, Tryz.ntmps15
  go_wp2
  go_loopw [6] (fun i wr => ∃ k : Nat, k ≤ n + 12 ∧ i = .int .i64 k ∧ Hid (Gr w wr)) (fun i _ => n + 12 - (intOf i).toNat)
  case atStart => exact ⟨0, by omega, rfl, Gr.refl _⟩
  case round =>
    obtain ⟨k, hk, rfl, HGr⟩ := hrel
    have HBr := Lib.hid HGr.out.below
    by_cases hlt : k < n + 12
    · have hB' : B < wr.heap.size := Nat.lt_of_lt_of_le hB HBr.out.size
      by_cases hkn : k < n
      · have hkz : k < zs.length := by rw [HN.out]; exact hkn
        have ho : At wr B (k * 3) zs[k] := by
          have := (HO.out k (by rw [List.length_append]; omega)).later HBr.out hB
          rw [Nat.zero_add, List.getElem_append_left hkz] at this
          exact this
        obtain ⟨ad, rfl⟩ : ∃ ad, ao = some ad := by
          cases ao with
          | none => have := HAO.out rfl; omega
          | some ad => exact ⟨ad, rfl⟩
        obtain ⟨b, off, rfl, hbl, hr⟩ := HR.out (by omega) ad rfl
        have hr' : At wr b (off + k * 3) zs[k] := (hr k hkz).later HBr.out hbl
        have hbl' : b < wr.heap.size := Nat.lt_of_lt_of_le hbl HBr.out.size
        clear hr HO HR HAO HN
        generalize zs[k] = x at ho hr'
        obtain ⟨xk, xn, xs⟩ := x
        obtain ⟨o1, o2, o3⟩ := ho
        obtain ⟨r1, r2, r3⟩ := hr'
        have heq := fun W => eqV xk xn xk xn xs xs W
        rw [(eqvB_iff (xk, xn, xs) (xk, xn, xs)).2 rfl] at heq
        have hlti : (k : Int) < (n : Int) + 12 := by omega
        have hd : decide ((k : Int) < (n : Int)) = true := by simp; omega
        have hd2 : decide ((n : Int) ≤ (k : Int)) = false := by simp; omega
        have hd' : decide (k < n) = true := by simp; omega
        have hd2' : decide (n ≤ k) = false := by simp; omega
        have hki : (k : Int) < (n : Int) := by omega
        go_wp2_with fail
        clear hkn
        go_quiet (fail)
        go_wp2
        have HBn : Hid (Gr w (wr.drewN nq)) := HGr.out.drewN nq
        clear heq hd hd2 hd' hd2' HBr
        go_roundw
        case rel => exact ⟨k + 1, by omega, by go_num, HBn⟩
        case measure => simp [intOf]; omega
      · have hm : k - n < 12 := by omega
        have ho : At wr B (k * 3) (markV (k - n)) := by
          have hkl : k < (zs ++ marksV 12).length := by rw [List.length_append, marksV_length, HN.out]; exact hlt
          have := (HO.out k hkl).later HBr.out hB
          rw [Nat.zero_add, List.getElem_append_right (by rw [HN.out]; omega), marksV_get] at this
          rw [HN.out] at this
          exact this
        clear HO HR HAO HN
        obtain ⟨o1, o2, o3⟩ := ho
        obtain ⟨m, hmk⟩ : ∃ m, m = k - n := ⟨_, rfl⟩
        rw [← hmk] at o1 o2 o3 hm
        have hsub : (k : Int) - (n : Int) = (m : Int) := by omega
        have heq := fun W => eqV 0 (8000024 + (m : Int)) 0 (8000024 + (m : Int)) ⟨#[]⟩ ⟨#[]⟩ W
        rw [(eqvB_iff (0, 8000024 + (m : Int), ⟨#[]⟩) (0, 8000024 + (m : Int), ⟨#[]⟩)).2 rfl] at heq
        have a1 : ∀ q os, (Sort.grow (wr.drewN q) os).cell? ⟨B, k * 3, none⟩ = some (.int .u8 0) := cellG (by omega) o1
        have a2 : ∀ q os, (Sort.grow (wr.drewN q) os).cell? ⟨B, k * 3 + 1, none⟩ = some (.int .i64 (8000024 + (m : Int))) := cellG (by omega) o2
        have a3 : ∀ q os, (Sort.grow (wr.drewN q) os).cell? ⟨B, k * 3 + 2, none⟩ = some (.string ⟨#[]⟩) := cellG (by omega) o3
        clear o1 o2 o3
        have hlti : (k : Int) < (n : Int) + 12 := by omega
        have hd : decide ((k : Int) < (n : Int)) = false := by simp; omega
        have hd2 : decide ((n : Int) ≤ (k : Int)) = true := by simp; omega
        have hd' : decide (k < n) = false := by simp; omega
        have hd2' : decide (n ≤ k) = true := by simp; omega
        have C := Lib.hid (fun W => markValueY m W (by omega))
        clear hkn hmk
        go_wp2_with fail
        refine wp_region_quiet_grown (by assumption) (by kernel_rfl) ?_
        repeat (go_big_quiet_step (first | (go_at_call 25; exact Calls.grown_of ((C.out _).mono fun _ _ ⟨h, g⟩ => ⟨h, g.out⟩))))
        refine wpQuiet_nil ?_
        intro _ hw'
        obtain ⟨⟨nq, osq⟩, hw''⟩ := hw'
        subst hw''
        go_wp2
        have HBn : Hid (Gr w (Sort.grow (wr.drewN nq) osq)) := HGr.out.trans ⟨nq, osq, rfl⟩
        clear heq hd hd2 hd' hd2' HBr
        go_roundw
        case rel => exact ⟨k + 1, by omega, by go_num, HBn⟩
        case measure => simp [intOf]; omega
    · have hltz : ¬ (k : Int) < (n : Int) + 12 := by omega
      go_wp2
      go_ret
      exact ⟨rfl, HGr.out⟩
end Go.Proofs.YtnnhgbncghpecaaGreat

namespace Go.Proofs.YtnnhgbncghpecaaGreat
open Go.RowKit

def markA (i : Nat) : A10 := ⟨0, 8000024 + (i : Int), (0, 0, ⟨#[]⟩)⟩
def marksA (n : Nat) : List A10 := (List.range n).map markA
theorem marksA_succ (n : Nat) : marksA (n + 1) = marksA n ++ [markA n] := by
  unfold marksA; rw [List.range_succ, List.map_append]; rfl
theorem marksA_length (n : Nat) : (marksA n).length = n := by unfold marksA; simp
theorem marksA_get (n i : Nat) (h : i < (marksA n).length) : (marksA n)[i] = markA i := by
  simp only [marksA, List.getElem_map, List.getElem_range]
theorem cellsA_one (l : List A10) : ∀ u ∈ cellsA l, u.oneCell' = true := by
  induction l with
  | nil => intro u hu; cases hu
  | cons x l ih =>
    intro u hu
    simp only [cellsA, List.mem_cons] at hu
    rcases hu with rfl | rfl | rfl | rfl | rfl | hu
    iterate 5 rfl
    exact ih u hu
theorem infoA : (Tryz.prog.info? 64).map (fun i => (i.zero, i.size, i.bytes)) = some (some (.agg #[.int .u8 0, .int .i64 0, .int .u8 0, .int .i64 0, .string ⟨#[]⟩]), 5, 48) := by kernel_rfl
theorem markArg_any (i : Nat) (w : World) (hi : i ≤ 1000) :
    Calls Tryz.prog 39 #[.int .i64 1, .int .i64 i] w fun e w' => e = .returned (.agg #[.int .u8 0, .int .i64 (8000024 + i), .int .u8 0, .int .i64 0, .string ⟨#[]⟩]) ∧ w.alloc (.cells #[.int .u8 0, .int .i64 (8000024 + i), .int .u8 0, .int .i64 0, .string ⟨#[]⟩] 64) = w' := by
  go_enter Tryz.func39, Tryz.ntmps39
  go_wp2_with (go_at_call 41; refine (markV_any i _ hi).mono ?_; rintro e w' ⟨rfl, rfl⟩)
  exact bodyPost_ret (v := .agg #[.int .u8 0, .int .i64 (8000024 + i), .int .u8 0, .int .i64 0, .string ⟨#[]⟩]) (by simp [results, Tryz.results39, go_sem]) rfl ⟨rfl, rfl⟩

/-- Whether two arguments are the same. -/
def eqaB (x y : A10) : Bool := x.kind == y.kind && (x.var == y.var && eqvB x.val y.val)
theorem eqaB_self (x : A10) : eqaB x x = true := by
  unfold eqaB
  rw [(eqvB_iff x.val x.val).2 rfl]
  simp
theorem eqGuardA : Tryz.prog.eqGuardType Tryz.prog.depth 64 = false := by kernel_rfl
theorem eqAin (x y : A10) (w : World) :
    (Op.equalIn 10000 64 (aggA x) (aggA y)).run Tryz.prog w = .ok (eqaB x y) w := by
  have hS : Tryz.prog.underlying 64 = some (.struct (Tryz.prog.fieldsOf 64)) := by kernel_rfl
  have hp : Tryz.prog.stoodInHeld 64 = false := by kernel_rfl
  have u1 := Tryz.underlying62
  have u2 := Tryz.underlying3
  have a1 := Tryz.isAgg62
  have a2 := Tryz.isAgg3
  have a3 := Tryz.isAgg27
  have z1 := Tryz.sizeOf62
  have z2 := Tryz.sizeOf3
  have z3 := Tryz.sizeOf27
  obtain ⟨x1, x2, x3, x4, x5⟩ := x
  obtain ⟨y1, y2, y3, y4, y5⟩ := y
  rw [show (10000 : Nat) = 9999 + 1 from rfl, run_equalIn_agg w 9999 64 _ _ hS hp]
  simp only [Program.fieldsOf, Tryz.underlying64]
  go_simp
  unfold eqaB eqvB
  cases h1 : (x1 == y1) <;> cases h2 : (x2 == y2) <;> cases h3 : (x3 == y3) <;> cases h4 : (x4 == y4) <;> cases h5 : (x5.toList == y5.toList) <;> simp_all
theorem eqA (x y : A10) (w : World) :
    (binOp .eql 64 (.agg #[.int .u8 x.kind, .int .i64 x.var, .int .u8 x.val.1, .int .i64 x.val.2.1, .string x.val.2.2]) (.agg #[.int .u8 y.kind, .int .i64 y.var, .int .u8 y.val.1, .int .i64 y.val.2.1, .string y.val.2.2])).run Tryz.prog w = .ok (.bool (eqaB x y)) w := by
  rw [run_eql_struct, eqAin]
  rfl
theorem neA (x y : A10) (w : World) :
    (binOp .neq 64 (.agg #[.int .u8 x.kind, .int .i64 x.var, .int .u8 x.val.1, .int .i64 x.val.2.1, .string x.val.2.2]) (.agg #[.int .u8 y.kind, .int .i64 y.var, .int .u8 y.val.1, .int .i64 y.val.2.1, .string y.val.2.2])).run Tryz.prog w = .ok (.bool (!eqaB x y)) w := by
  rw [run_neq_struct, eqAin]
  rfl

/-- A row that was lent: twelve marks behind it. -/
structure LentRA (base : Nat) (w : World) (g : Nat) (zs : List A10) : Prop where
  own : w.ownsRow base 64 5 (.slice (some ⟨g, 0, none⟩) (zs.length + 12) (zs.length + 12)) (zs.length + 12) (cellsA (zs ++ marksA 12))
  lt : g < w.heap.size
theorem LentRA.old {base g : Nat} {w w' : World} {zs : List A10} (h : LentRA base w g zs) (b : Below w.heap.size w w') : LentRA base w' g zs := ⟨owns_below h.own b, Nat.lt_of_lt_of_le h.lt b.size⟩
theorem LentRA.at {base g : Nat} {w : World} {zs : List A10} (h : LentRA base w g zs) {k : Nat} (hk : k < zs.length + 12) : ∀ r, r < 5 → w.cell? ⟨g, k * 5 + r, none⟩ = (cellsA (zs ++ marksA 12))[k * 5 + r]? := fun r hr => h.own.cellAt (k * 5 + r) (by omega)
theorem LentRA.sl {base g : Nat} {w : World} {zs : List A10} (h : LentRA base w g zs) (hz : zs.length ≤ 2000) : Sl10 w.heap.size w zs.length (some ⟨g, 0, none⟩) (zs.length + 12) (cellsA zs) :=
  ⟨fun _ => ⟨g, 0, rfl, h.lt, fun j u hu => by
    have hl : j < (cellsA zs).length := (List.getElem?_eq_some_iff.1 hu).1
    rw [Nat.zero_add, h.own.cellAt j (by rw [cellsA_length] at hl; omega), cellsA_append, List.getElem?_append_left hl]
    exact hu⟩, (fun h => by cases h), by omega, by unfold maxLen; omega⟩

set_option maxRecDepth 100000 in
set_option maxHeartbeats 2000000 in
theorem lentA_any (ao : Option Addr) (n c : Nat) (zs : List A10) (w : World) (hn : zs.length = n) (h20 : n ≤ 2000) (hsl : Sl10 w.heap.size w n ao c (cellsA zs)) :
    Calls Tryz.prog 23 #[.slice ao n c] w fun e w' => e = .returned (.slice (some ⟨w.heap.size, 0, none⟩) n (n + 12)) ∧ LentRA w.heap.size w' w.heap.size zs ∧ Below w.heap.size w w' := by
  obtain ⟨i0, hi, hz0, hz1, hz2⟩ := info_parts infoA
  have hcells : ∀ w1, Below w.heap.size w w1 → ∀ ad, ao = some ad → ∀ j u, (cellsA zs)[j]? = some u → w1.cell? (ad.add j) = some u := by
    intro w1 hb ad had j u hu
    obtain ⟨sb, off, e', hlt, hc⟩ := hsl.row (fun h0 => by rw [h0] at hu; simp at hu)
    rw [had] at e'
    obtain rfl := Option.some.inj e'
    rw [Addr.add_lit]
    exact (hb.cell (p := ⟨sb, off + j, none⟩) hlt).trans (hc j u hu)
  have hao := hsl.nil
  have HC := Lib.hid hcells
  have HAO := Lib.hid hao
  have HN := Lib.hid hn
  clear hcells hsl hao hn
  go_enter Tryz.func23, Tryz.ntmps23
  go_wp2_with (first
    | (at_make; refine wpList_make_own _ rfl _ _ 23 rfl w.heap.size 64 i0 (.agg #[.int .u8 0, .int .i64 0, .int .u8 0, .int .i64 0, .string ⟨#[]⟩]) 5 Tryz.underlying23 hi hz0 hz1 .i64 .i64 _ (n + 12) rfl rfl (by omega) (by rw [hz2]; omega) (by unfold maxLen; omega) (Nat.le_refl _) ?_; intro w0 hown0 hgrow0)
    | (at_builtin; refine wpList_append_fits_any _ rfl (.tmp 9) (.tmp 10) 23 rfl w.heap.size 64 i0 5 Tryz.underlying23 hi hz1 w.heap.size 0 (n + 12) _ rfl hown0 ao n c (cellsA zs) rfl (by rw [cellsA_length, HN.out]) HAO.out (HC.out _ ((Below.refl _ _).grown hgrow0 (Nat.le_refl _) (fun k h => by cases h))) (cellsA_one _) (by omega) ?_; intro w1 hown1 hgrow1; simp only [Nat.zero_add, List.nil_append] at hown1))
  have HB1 : Below w.heap.size w w1 := ((Below.refl _ _).grown hgrow0 (Nat.le_refl _) (fun k h => by cases h)).grown hgrow1 hgrow0.size (fun k h => by cases h; exact Nat.le_refl _)
  clear hgrow0 hgrow1 HC HAO hown0
  go_loopw [3, 4] (fun v i wr => ∃ k : Nat, k ≤ 12 ∧ i = .int .i64 k ∧ v = .slice (some ⟨w.heap.size, 0, none⟩) (n + k) (n + 12) ∧ wr.ownsRow w.heap.size 64 5 (.slice (some ⟨w.heap.size, 0, none⟩) (n + k) (n + 12)) (n + k) (cellsA (zs ++ marksA k)) ∧ Below w.heap.size w wr) (fun _ i _ => 12 - (intOf i).toNat)
  case atStart => exact ⟨0, by omega, rfl, rfl, by simpa [marksA] using hown1, HB1⟩
  case round =>
    obtain ⟨k, hk, rfl, rfl, hown, hb⟩ := hrel
    have HBr := Lib.hid hb
    clear hb hown1 HB1
    have hsz : w.heap.size ≤ wr.heap.size := HBr.out.size
    go_wp2_with (first
      | (go_at_call 39; refine (markArg_any k _ (by omega)).mono ?_; rintro e w' ⟨rfl, rfl⟩)
      | (at_builtin; refine wpList_append_fits _ rfl (.tmp 16) (.tmp 19) 23 rfl w.heap.size 64 i0 5 Tryz.underlying23 hi hz1 w.heap.size (n + k) (n + 12) _ rfl ((hown.alloc _).alloc _) ⟨wr.heap.size + 1, 0, none⟩ 1 1 (cellsA [markA k]) rfl rfl (fun j u hu => by rw [Addr.add_lit, Nat.zero_add]; exact cells_made2 wr _ _ _ _ rfl j u (by simpa [cellsA, markA] using hu)) (cellsA_one _) (by omega) ?_; intro w4 hown4 hgrow4))
    · have R : w4.ownsRow w.heap.size 64 5 (.slice (some ⟨w.heap.size, 0, none⟩) (n + (k + 1)) (n + 12)) (n + (k + 1)) (cellsA (zs ++ marksA (k + 1))) := by
        rw [marksA_succ, ← List.append_assoc, cellsA_append]
        exact hown4
      have HB4 : Below w.heap.size w w4 := ((HBr.out.alloc hsz _).alloc (by simp; omega) _).grown hgrow4 (by simp; omega) (fun k h => by cases h; exact Nat.le_refl _)
      clear hown4 hgrow4 hown
      go_roundw
      case rel => exact ⟨k + 1, by omega, by go_num, rfl, R, HB4⟩
      case measure => simp [intOf]; omega
    · have hk12 : k = 12 := by omega
      subst hk12
      have hL : (zs ++ marksA 12).length = n + 12 := by rw [List.length_append, marksA_length, HN.out]
      have hlt : w.heap.size < wr.heap.size := by
        rcases hown.2 with ⟨h', _⟩ | ⟨g', cap', cur, h', _, hg, _⟩
        · simp at h'
        · simp only [Value.slice.injEq, Option.some.injEq, Addr.mk.injEq, and_true, true_and] at h'
          obtain ⟨rfl, rfl⟩ := h'
          exact (Array.getElem?_eq_some_iff.1 hg).1
      have HR' : Hid (LentRA w.heap.size wr w.heap.size zs) := ⟨by rw [HN.out]; exact hown, hlt⟩
      clear hown hL
      go_wp2
      go_ret
      exact ⟨rfl, HR'.out, HBr.out⟩

theorem markArgY (i : Nat) (w : World) (hi : i ≤ 1000) :
    Calls Tryz.prog 39 #[.int .i64 1, .int .i64 i] w fun e w' => e = .returned (.agg #[.int .u8 0, .int .i64 (8000024 + i), .int .u8 0, .int .i64 0, .string ⟨#[]⟩]) ∧ Gr w w' :=
  (markArg_any i w hi).mono fun _ _ ⟨h, h'⟩ => ⟨h, h' ▸ (Gr.refl w).alloc _⟩
/-- A row of arguments is looked at: the j-th's five cells. -/
theorem Sl10.aget {w : World} {l : List A10} {ao : Option Addr} {n c : Nat} (h : Sl10 w.heap.size w n ao c (cellsA l)) {j : Nat} (hj : j < l.length) : ∃ b off, ao = some ⟨b, off, none⟩ ∧ b < w.heap.size ∧ w.cell? ⟨b, off + j * 5, none⟩ = some (.int .u8 (l[j]).kind) ∧ w.cell? ⟨b, off + j * 5 + 1, none⟩ = some (.int .i64 (l[j]).var) ∧ w.cell? ⟨b, off + j * 5 + 2, none⟩ = some (.int .u8 (l[j]).val.1) ∧ w.cell? ⟨b, off + j * 5 + 3, none⟩ = some (.int .i64 (l[j]).val.2.1) ∧ w.cell? ⟨b, off + j * 5 + 4, none⟩ = some (.string (l[j]).val.2.2) := by
  obtain ⟨q1, q2, q3, q4, q5⟩ := cellsA_at l j hj
  obtain ⟨sb, off, e, lt, hc⟩ := h.row (fun h0 => by rw [h0] at q1; simp at q1)
  exact ⟨sb, off, e, lt, hc _ _ q1, by rw [Nat.add_assoc]; exact hc _ _ q2, by rw [Nat.add_assoc]; exact hc _ _ q3, by rw [Nat.add_assoc]; exact hc _ _ q4, by rw [Nat.add_assoc]; exact hc _ _ q5⟩

set_option maxRecDepth 100000 in
set_option maxHeartbeats 1000000 in
theorem keptA_any (base g : Nat) (ao : Option Addr) (n c : Nat) (zs : List A10) (w : World) (hn : zs.length = n) (h20 : n ≤ 2000) (hsl : Sl10 w.heap.size w n ao c (cellsA zs)) (hout : LentRA base w g zs) :
    Calls Tryz.prog 31 #[.slice (some ⟨g, 0, none⟩) n (n + 12), .slice ao n c] w fun e w' => e = .returned (.bool true) ∧ Gr w w' := by
  have HS := Lib.hid hsl
  have HN := Lib.hid hn
  have HO := Lib.hid hout
  clear hsl hn hout
  have hg := eqGuardA
  have mixed : Tryz.prog.follows .mixedOrders = true := by kernel_rfl
  go_enter Tryz.func31, Tryz.ntmps31
  go_wp2
  go_loopw [6] (fun i wr => ∃ k : Nat, k ≤ n + 12 ∧ i = .int .i64 k ∧ Hid (Gr w wr)) (fun i _ => n + 12 - (intOf i).toNat)
  case atStart => exact ⟨0, by omega, rfl, Gr.refl _⟩
  case round =>
    obtain ⟨k, hk, rfl, HGr⟩ := hrel
    by_cases hlt : k < n + 12
    · have HOr := Lib.hid (HO.out.old HGr.out.below)
      have hat := HOr.out.at (k := k) (by rw [HN.out]; exact hlt)
      have ho0 := hat 0 (by omega)
      have ho1 := hat 1 (by omega)
      have ho2 := hat 2 (by omega)
      have ho3 := hat 3 (by omega)
      have ho4 := hat 4 (by omega)
      clear hat
      rw [Nat.add_zero] at ho0
      by_cases hkn : k < n
      · have hkz : k < zs.length := by rw [HN.out]; exact hkn
        have hkz' : k < (zs ++ marksA 12).length := by rw [List.length_append]; omega
        obtain ⟨q0, q1, q2, q3, q4⟩ := cellsA_at (zs ++ marksA 12) k hkz'
        rw [List.getElem_append_left hkz] at q0 q1 q2 q3 q4
        rw [q0] at ho0
        rw [q1] at ho1
        rw [q2] at ho2
        rw [q3] at ho3
        rw [q4] at ho4
        obtain ⟨b, off, rfl, hbl, r0, r1, r2, r3, r4⟩ := (HS.out.up HGr.out.below HGr.out.below.size).aget hkz
        clear HO HOr HS HN q0 q1 q2 q3 q4
        generalize zs[k] = x at ho0 ho1 ho2 ho3 ho4 r0 r1 r2 r3 r4
        have heq := fun W => eqA x x W
        rw [eqaB_self] at heq
        obtain ⟨xk, xv, x1, x2, x3⟩ := x
        simp only at heq ho0 ho1 ho2 ho3 ho4 r0 r1 r2 r3 r4
        have hlti : (k : Int) < (n : Int) + 12 := by omega
        have hd : decide ((k : Int) < (n : Int)) = true := by simp; omega
        have hd2 : decide ((n : Int) ≤ (k : Int)) = false := by simp; omega
        have hd' : decide (k < n) = true := by simp; omega
        have hd2' : decide (n ≤ k) = false := by simp; omega
        have hki : (k : Int) < (n : Int) := by omega
        go_wp2_with fail
        clear hkn
        go_quiet (fail)
        go_wp2
        have HBn : Hid (Gr w (wr.drewN nq)) := HGr.out.drewN nq
        clear heq hd hd2 hd' hd2'
        go_roundw
        case rel => exact ⟨k + 1, by omega, by go_num, HBn⟩
        case measure => simp [intOf]; omega
      · have hkz' : k < (zs ++ marksA 12).length := by rw [List.length_append, marksA_length, HN.out]; exact hlt
        obtain ⟨q0, q1, q2, q3, q4⟩ := cellsA_at (zs ++ marksA 12) k hkz'
        rw [List.getElem_append_right (by rw [HN.out]; omega), marksA_get] at q0 q1 q2 q3 q4
        rw [HN.out] at q0 q1 q2 q3 q4
        obtain ⟨m, hmk⟩ : ∃ m, m = k - n := ⟨_, rfl⟩
        have hm : m < 12 := by omega
        rw [← hmk] at q0 q1 q2 q3 q4
        rw [q0] at ho0
        rw [q1] at ho1
        rw [q2] at ho2
        rw [q3] at ho3
        rw [q4] at ho4
        have hgl := HOr.out.lt
        clear HO HOr HS HN q0 q1 q2 q3 q4
        have hsub : (k : Int) - (n : Int) = (m : Int) := by omega
        have heq := fun W => eqA (markA m) (markA m) W
        rw [eqaB_self] at heq
        simp only [markA] at heq ho0 ho1 ho2 ho3 ho4
        have a0 := cellG hgl ho0
        have a1 := cellG hgl ho1
        have a2 := cellG hgl ho2
        have a3 := cellG hgl ho3
        have a4 := cellG hgl ho4
        clear ho0 ho1 ho2 ho3 ho4 hgl
        have hlti : (k : Int) < (n : Int) + 12 := by omega
        have hd : decide ((k : Int) < (n : Int)) = false := by simp; omega
        have hd2 : decide ((n : Int) ≤ (k : Int)) = true := by simp; omega
        have hd' : decide (k < n) = false := by simp; omega
        have hd2' : decide (n ≤ k) = true := by simp; omega
        have C := Lib.hid (fun W => markArgY m W (by omega))
        clear hkn hmk
        go_wp2_with fail
        refine wp_region_quiet_grown (by assumption) (by kernel_rfl) ?_
        repeat (go_big_quiet_step (first | (go_at_call 39; exact Calls.grown_of ((C.out _).mono fun _ _ ⟨h, g⟩ => ⟨h, g.out⟩))))
        refine wpQuiet_nil ?_
        intro _ hw'
        obtain ⟨⟨nq, osq⟩, hw''⟩ := hw'
        subst hw''
        go_wp2
        have HBn : Hid (Gr w (Sort.grow (wr.drewN nq) osq)) := HGr.out.trans ⟨nq, osq, rfl⟩
        clear heq hd hd2 hd' hd2'
        go_roundw
        case rel => exact ⟨k + 1, by omega, by go_num, HBn⟩
        case measure => simp [intOf]; omega
    · have hltz : ¬ (k : Int) < (n : Int) + 12 := by omega
      go_wp2
      go_ret
      exact ⟨rfl, HGr.out⟩
set_option maxRecDepth 100000 in
set_option maxHeartbeats 1000000 in
theorem sameA_yes (l : List A10) (a1 : Option Addr) (c1 : Nat) (a2 : Option Addr) (c2 : Nat) (w : World) (h1 : Sl10 w.heap.size w l.length a1 c1 (cellsA l)) (h2 : Sl10 w.heap.size w l.length a2 c2 (cellsA l)) :
    Calls Tryz.prog 48 #[.slice a1 l.length c1, .slice a2 l.length c2] w fun e w' => e = .returned (.bool true) ∧ Gr w w' := by
  have H1 := Lib.hid h1
  have H2 := Lib.hid h2
  have hm : l.length ≤ 9223372036854775807 := by have := h1.cap; have := h1.top; unfold maxLen at this; omega
  have hg := eqGuardA
  have mixed : Tryz.prog.follows .mixedOrders = true := by kernel_rfl
  clear h1 h2
  go_enter Tryz.func48, Tryz.ntmps48
  go_wp2_with fail
  go_loopw [5] (fun i wr => ∃ j : Nat, j ≤ l.length ∧ i = .int .i64 j ∧ Hid (Gr w wr)) (fun i _ => l.length - (intOf i).toNat)
  case atStart => exact ⟨0, by omega, rfl, Gr.refl _⟩
  case round =>
    obtain ⟨j, hj, rfl, HG⟩ := hrel
    by_cases hlt : j < l.length
    · obtain ⟨g1, o1, rfl, l1, x0, x1, x2, x3, x4⟩ := (H1.out.up HG.out.below HG.out.below.size).aget hlt
      obtain ⟨g2, o2, rfl, l2, y0, y1, y2, y3, y4⟩ := (H2.out.up HG.out.below HG.out.below.size).aget hlt
      generalize l[j] = v at x0 x1 x2 x3 x4 y0 y1 y2 y3 y4
      have hne := fun W => neA v v W
      rw [eqaB_self] at hne
      obtain ⟨v1, v2, v3, v4, v5⟩ := v
      simp only at hne x0 x1 x2 x3 x4 y0 y1 y2 y3 y4
      have hjn : (j : Int) < (l.length : Int) := by omega
      clear H1 H2
      generalize l.length = n at *
      go_wp2_with fail
      go_quiet (fail)
      go_wp2
      have HG2 : Hid (Gr w (wr.drewN nq)) := HG.out.drewN nq
      clear HG x0 x1 x2 x3 x4 y0 y1 y2 y3 y4
      go_roundw
      case rel => exact ⟨j + 1, by omega, by go_num, HG2⟩
      case measure => simp [intOf]; omega
    · obtain rfl : j = l.length := by omega
      go_wp2
      go_ret
      exact ⟨rfl, HG.out⟩
end Go.Proofs.YtnnhgbncghpecaaGreat

namespace Go.Proofs.YtnnhgbncghpecaaGreat
open Go.RowKit

mutual
def X.many : X → Nat
  | .mk _ _ _ _ _ _ l => manyE l
def manyE : List X → Nat
  | [] => 0
  | k :: l => 1 + k.many + manyE l
end
theorem X.many_eq (t : X) : t.many = manyE t.kids := by cases t; rw [X.many]; rfl
theorem manyE_drop {l : List X} {n : Nat} (h : n < l.length) : manyE (l.drop n) = 1 + manyE (l[n]).kids + manyE (l.drop (n + 1)) := by
  rw [List.drop_eq_getElem_cons h, manyE, X.many_eq]
theorem len_many : ∀ l : List X, l.length ≤ manyE l
  | [] => Nat.le_refl _
  | k :: l => by rw [manyE, List.length_cons]; have := len_many l; omega
theorem mem_many {k : X} : ∀ {l : List X}, k ∈ l → manyE k.kids ≤ manyE l
  | q :: l, h => by
    rw [manyE, X.many_eq]
    rcases List.mem_cons.1 h with rfl | h
    · omega
    · have := mem_many h
      omega
theorem Lies.len64 {B : Nat} {w : World} {t : X} {ao : Option Addr} {c : Nat} {ps : List (X × Value)} (h : KidsAt B w t ao c ps) : t.kids.length ≤ 9223372036854775807 := by
  have := h.cap
  have := h.top
  unfold maxLen at this
  omega
def CountEOK (t : X) : Prop := ∀ (w : World) (v : Value) (m : Int), Lies w.heap.size w t v → -1 ≤ m → m ≤ 100000 → Calls Tryz.prog 5 #[v, .int .i64 m] w (fun e w' => e = .returned (.int .i64 (min (manyE t.kids : Int) (m + 1))) ∧ w = w')

set_option maxRecDepth 100000 in
set_option maxHeartbeats 2000000 in
theorem count_step (t : X) (ih : ∀ k, k ∈ t.kids → CountEOK k) : CountEOK t := by
  intro w v m h1 hm0 hm
  obtain ⟨a1, c1, ps1, rfl, k1⟩ := h1.out
  have HA := Lib.hid k1
  have HI := Lib.hid ih
  have hlm := Lies.len64 k1
  clear h1 ih k1
  obtain ⟨res, hres⟩ : ∃ r : Int, r = min (manyE t.kids : Int) (m + 1) := ⟨_, rfl⟩
  have HR := Lib.hid hres
  rw [← hres]
  clear hres
  go_enter Tryz.func5, Tryz.ntmps5
  go_wp2_with fail
  go_loopw [5, 6] (fun c i wr => ∃ (j : Nat) (z : Int), j ≤ t.kids.length ∧ i = .int .i64 j ∧ c = .int .i64 z ∧ 0 ≤ z ∧ z ≤ m + 1 ∧ Hid (res = min (z + (manyE (t.kids.drop j) : Int)) (m + 1)) ∧ wr = w) (fun _ i _ => t.kids.length - (intOf i).toNat)
  case atStart => exact ⟨0, 0, by omega, rfl, rfl, by omega, by omega, by rw [List.drop_zero, Int.zero_add]; exact HR.out, rfl⟩
  case round =>
    obtain ⟨j, z, hj, rfl, rfl, hz0, hz1, HN, rfl⟩ := hrel
    clear HR
    by_cases hlt : j < t.kids.length
    · have hjn : (j : Int) < (t.kids.length : Int) := by omega
      by_cases hzm : z ≤ m
      · obtain ⟨sb, off, rfl, hsb, hc⟩ := HA.out.at (by omega)
        obtain ⟨u1, d0, d1, d2, d3, d4, d5, d6, hL1⟩ := hc j hlt
        have KK := Lib.hid (HI.out _ (List.getElem_mem hlt) wr u1 (m - z - 1) hL1 (by omega) (by omega))
        have HN1 : Hid (res = min (z + 1 + min (manyE (t.kids[j]).kids : Int) (m - z - 1 + 1) + (manyE (t.kids.drop (j + 1)) : Int)) (m + 1)) := by
          unfold Hid
          rw [HN.out, manyE_drop hlt]
          omega
        clear hc hL1 HA HI d0 d1 d2 d3 d4 d5 HN
        have hy : 0 ≤ min (manyE (t.kids[j]).kids : Int) (m - z - 1 + 1) ∧ min (manyE (t.kids[j]).kids : Int) (m - z - 1 + 1) ≤ m - z := by omega
        generalize min (manyE (t.kids[j]).kids : Int) (m - z - 1 + 1) = y at KK HN1 hy
        have hy0 := hy.1
        have hy1 := hy.2
        clear hy
        go_wp2_with (go_at_call 5; go_must (refine (KK.out).mono ?_; rintro e w1 ⟨rfl, rfl⟩))
        clear KK d6
        go_roundw
        case rel => exact ⟨j + 1, z + 1 + y, by omega, by go_num, by go_num, by omega, by omega, HN1, by first | trivial | rfl⟩
        case measure => simp [intOf]; omega
      · have HF : Hid (res = m + 1) := by
          have := HN.out
          unfold Hid
          omega
        have hzr : z = m + 1 := by omega
        subst hzr
        clear HN HA HI
        go_wp2_with fail
        go_ret
        rw [HF.out]
        exact ⟨by simp, rfl⟩
    · obtain rfl : j = t.kids.length := by omega
      have hjz : ¬ (t.kids.length : Int) < (t.kids.length : Int) := by omega
      have HF : Hid (res = z) := by
        have := HN.out
        rw [List.drop_length, manyE] at this
        unfold Hid
        omega
      clear HN HA HI
      go_wp2_with fail
      go_ret
      rw [HF.out]
      exact ⟨by simp <;> omega, rfl⟩
theorem count_any (t : X) : CountEOK t := X.ind (fun t ih => count_step t ih) t

end Go.Proofs.YtnnhgbncghpecaaGreat

namespace Go.Proofs.YtnnhgbncghpecaaGreat
open Go.RowKit

theorem fits_many (t : X) (h : manyE t.kids ≤ 100000) : Fits t := by
  induction t using X.ind with
  | h t ih =>
    refine .mk t (by have := len_many t.kids; omega) fun k hk => ih k hk ?_
    have := mem_many hk
    omega
theorem LentRA.apart {base g q : Nat} {w w' : World} {zs : List A10} (h : LentRA base w g zs) (b : w.grownBy w' (some q)) (hne : g ≠ q) : LentRA base w' g zs :=
  ⟨owns_apart h.own b (by simp [Value.ownBlock]; exact hne), Nat.lt_of_lt_of_le h.lt b.size⟩
theorem LentRA.mono {base base' g : Nat} {w : World} {zs : List A10} (h : LentRA base w g zs) (hb : base' ≤ base) : LentRA base' w g zs := ⟨owns_mono h.own hb, h.lt⟩
theorem LentRA.ge {base g : Nat} {w : World} {zs : List A10} (h : LentRA base w g zs) : base ≤ g := (h.own.lt g rfl).1
/-- What was lent of a condition: two rows. -/
structure LentC (base : Nat) (w : World) (c : C10) (ga xg : Nat) : Prop where
  args : LentRA base w ga c.args
  test : LentX base w c.test (.slice (some ⟨xg, 0, none⟩) c.test.kids.length (c.test.kids.length + 12))
theorem LentC.old {base ga xg : Nat} {w w' : World} {c : C10} (h : LentC base w c ga xg) (b : Below w.heap.size w w') : LentC base w' c ga xg := ⟨h.args.old b, h.test.old b⟩
theorem LentC.mono {base base' ga xg : Nat} {w : World} {c : C10} (h : LentC base w c ga xg) (hb : base' ≤ base) : LentC base' w c ga xg := ⟨h.args.mono hb, h.test.mono hb⟩
theorem LentC.apart {base ga xg q : Nat} {w w' : World} {c : C10} (h : LentC base w c ga xg) (b : w.grownBy w' (some q)) (hq : q < base) : LentC base w' c ga xg :=
  ⟨h.args.apart b (by have := h.args.ge; omega), h.test.apart b hq⟩
theorem LentC.set {base ga xg q i : Nat} {w : World} {c : C10} {v : Value} (h : LentC base w c ga xg) (hq : q < base) : LentC base (w.setCell ⟨q, i, none⟩ v) c ga xg := h.apart (Lib.grownBy_setCell w q i v) hq

abbrev zeroC : Array Value := #[.int .u8 0, .int .i64 0, .slice none 0 0, .int .u8 0, .int .u8 0, .int .i64 0, .string ⟨#[]⟩, .int .i64 0, .int .u8 0, .slice none 0 0]
theorem two_heap {w w1 : World} {o1 o2 : Obj} (h : Below ((w.alloc o1).alloc o2).heap.size ((w.alloc o1).alloc o2) w1) : w1.heap[w.heap.size]? = ((w.alloc o1).alloc o2).heap[w.heap.size]? ∧ w1.heap[w.heap.size + 1]? = ((w.alloc o1).alloc o2).heap[w.heap.size + 1]? :=
  ⟨h.block _ (by simp; omega), h.block _ (by simp)⟩

set_option maxRecDepth 100000 in
set_option maxHeartbeats 4000000 in
theorem lentCond_any (c : C10) (ao : Option Addr) (ac : Nat) (xo : Option Addr) (xc : Nat) (w : World) (hA : Sl10 w.heap.size w c.args.length ao ac (cellsA c.args)) (hX : Lies w.heap.size w c.test (.slice xo c.test.kids.length xc)) (hf : Fits c.test) (hs : c.args.length ≤ 2000) :
    Calls Tryz.prog 7 #[aggC c ao ac xo xc] w fun e w' => ∃ ga xg, e = .returned (aggC c (some ⟨ga, 0, none⟩) (c.args.length + 12) (some ⟨xg, 0, none⟩) (c.test.kids.length + 12)) ∧ LentC w.heap.size w' c ga xg ∧ Below w.heap.size w w' := by
  obtain ⟨w0, hw0⟩ : ∃ w0, w0 = (w.alloc (.cells (cellsC c ao ac xo xc) 33)).alloc (.cells zeroC 33) := ⟨_, rfl⟩
  have hb0 : Below w.heap.size w w0 := by rw [hw0]; exact below_two _ _ _
  have hz : w0.heap.size = w.heap.size + 2 := by rw [hw0]; simp
  have HV : Hid (Calls Tryz.prog 23 #[.slice ao c.args.length ac] w0 fun e w1 => ∃ g, e = .returned (.slice (some ⟨g, 0, none⟩) c.args.length (c.args.length + 12)) ∧ LentRA (w.heap.size + 2) w1 g c.args ∧ Below w0.heap.size w0 w1) := by
    refine (lentA_any ao c.args.length ac c.args w0 rfl hs (hA.up hb0 hb0.size)).mono ?_
    rintro e w1 ⟨rfl, h1, h2⟩
    exact ⟨_, rfl, hz ▸ h1, h2⟩
  have HX : Hid (∀ W, Below w.heap.size w W → w.heap.size + 2 ≤ W.heap.size → Calls Tryz.prog 24 #[agg c.test (.slice xo c.test.kids.length xc)] W fun e w1 => ∃ g, e = .returned (agg c.test (.slice (some ⟨g, 0, none⟩) c.test.kids.length (c.test.kids.length + 12))) ∧ LentX (w.heap.size + 2) w1 c.test (.slice (some ⟨g, 0, none⟩) c.test.kids.length (c.test.kids.length + 12)) ∧ Below W.heap.size W w1) := fun W hW hsz => by
    refine (lentE_any c.test W _ (hX.up hW hW.size) hf).mono ?_
    rintro e w1 ⟨v', rfl, h1, h2⟩
    obtain ⟨g, rfl, -, -⟩ := h1.addr
    exact ⟨g, rfl, h1.mono hsz, h2⟩
  have HB0 := Lib.hid hb0
  obtain ⟨q1, q2⟩ : w0.heap[w.heap.size]? = some (.cells (cellsC c ao ac xo xc) 33 (0, 0)) ∧ w0.heap[w.heap.size + 1]? = some (.cells zeroC 33 (0, 0)) := by
    rw [hw0]
    exact heap_two _ _
  have HQ1 := Lib.hid q1
  have HQ2 := Lib.hid q2
  have HZ := Lib.hid hz
  obtain ⟨ck, ct, cl, cx⟩ := c
  unfold agg at HX
  unfold cellsC at hw0 HQ1
  unfold zeroC at hw0 HQ2
  unfold aggC cellsC
  simp only at hw0 HV HX HQ1 ⊢
  clear hA hX hf hs hb0 q1 q2 hz
  have HC : Hid (∀ ga xg base W, LentRA base W ga cl → LentX base W cx (.slice (some ⟨xg, 0, none⟩) cx.kids.length (cx.kids.length + 12)) → LentC base W ⟨ck, ct, cl, cx⟩ ga xg) := fun _ _ _ _ h1 h2 => ⟨h1, h2⟩
  have HFin : Hid (∀ ga xg W, Below w.heap.size w W → LentC (w.heap.size + 2) W ⟨ck, ct, cl, cx⟩ ga xg → ∃ ga' xg', Ending.returned (.agg #[.int .u8 ck, .int .i64 ct, .slice (some ⟨ga, 0, none⟩) cl.length (cl.length + 12), .int .u8 cx.kind, .int .u8 cx.vk, .int .i64 cx.vn, .string cx.vs, .int .i64 cx.var, .int .u8 cx.op, .slice (some ⟨xg, 0, none⟩) cx.kids.length (cx.kids.length + 12)]) = .returned (.agg #[.int .u8 ck, .int .i64 ct, .slice (some ⟨ga', 0, none⟩) cl.length (cl.length + 12), .int .u8 cx.kind, .int .u8 cx.vk, .int .i64 cx.vn, .string cx.vs, .int .i64 cx.var, .int .u8 cx.op, .slice (some ⟨xg', 0, none⟩) cx.kids.length (cx.kids.length + 12)]) ∧ LentC w.heap.size W ⟨ck, ct, cl, cx⟩ ga' xg' ∧ Below w.heap.size w W) := fun ga xg W h1 h2 => ⟨ga, xg, rfl, h2.mono (by omega), h1⟩
  generalize hcl : cl.length = n at *
  generalize cx.kids.length = m at *
  generalize cx.kind = x1 at *
  generalize cx.vk = x2 at *
  generalize cx.vn = x3 at *
  generalize cx.vs = x4 at *
  generalize cx.var = x5 at *
  generalize cx.op = x6 at *
  clear hcl
  go_enter Tryz.func7, Tryz.ntmps7
  go_wp2_with (first
    | (go_at_call 23; go_must (rw [← hw0]; refine (HV.out).mono ?_; rintro e w1 ⟨ga, rfl, hL, hb⟩; have HL1 := Lib.hid hL; have HB1 := Lib.hid (HB0.out.trans (hb.mono HB0.out.size)); have y1 := (hb.block w.heap.size (by rw [HZ.out]; omega)).trans HQ1.out; have y2 := (hb.block (w.heap.size + 1) (by rw [HZ.out]; omega)).trans HQ2.out; have z1 := (fun j => Lib.cell_of_heap y1 j); have z2 := (fun j => Lib.frozen_of_heap y1 j); have HS1 := Lib.hid (show w.heap.size + 2 ≤ w1.heap.size by have := hb.size; rw [HZ.out] at this; exact this); have HY2 := Lib.hid y2; have HY1 := Lib.hid y1; clear hL hb hw0 HV y1 y2))
    | (go_at_call 24; go_must (refine (HX.out _ (HB1.out.setCell (p := ⟨w.heap.size, 2, none⟩) (Nat.le_refl _) _) (by simp [World.setCell]; exact HS1.out)).mono ?_; rintro e w2 ⟨xg, rfl, hL, hb⟩; have HB2 := Lib.hid ((HB1.out.setCell (p := ⟨w.heap.size, 2, none⟩) (Nat.le_refl _) _).trans (hb.mono (by simp [World.setCell]; have := HS1.out; omega))); have HL2 := Lib.hid hL; have HLA := Lib.hid ((HL1.out.apart (Lib.grownBy_setCell w1 w.heap.size 2 (.slice (some ⟨ga, 0, none⟩) n (n + 12))) (by have := HL1.out.ge; omega)).old hb); have u1 := (hb.block w.heap.size (by simp [World.setCell]; have := HS1.out; omega)).trans (Lib.heap_setCell_same (i := 2) HY1.out (.slice (some ⟨ga, 0, none⟩) n (n + 12))); have u2 := (hb.block (w.heap.size + 1) (by simp [World.setCell]; have := HS1.out; omega)).trans (((Lib.grownBy_setCell w1 w.heap.size 2 (.slice (some ⟨ga, 0, none⟩) n (n + 12))).block (w.heap.size + 1) (by have := HS1.out; omega) (by simp)).trans HY2.out); have v1 := (fun j => Lib.cell_of_heap u1 j); have v2 := (fun j => Lib.frozen_of_heap u1 j); have v3 := (fun j => Lib.cell_of_heap u2 j); have v4 := (fun j => Lib.frozen_of_heap u2 j); clear hL hb u1 u2 z1 z2)))
  have hL := HC.out ga xg _ _ HLA.out HL2.out
  have hB := HB2.out
  refine bodyPost_ret (v := .agg #[.int .u8 ck, .int .i64 ct, .slice (some ⟨ga, 0, none⟩) n (n + 12), .int .u8 x1, .int .u8 x2, .int .i64 x3, .string x4, .int .i64 x5, .int .u8 x6, .slice (some ⟨xg, 0, none⟩) m (m + 12)]) (by simp [results, Tryz.results7, go_sem, v3]) rfl (HFin.out ga xg _ ?_ ?_)
  · exact (((((((((((((((((hB.setCell (p := ⟨w.heap.size, 3, none⟩) (Nat.le_refl _) _).setCell (p := ⟨w.heap.size, 4, none⟩) (Nat.le_refl _) _).setCell (p := ⟨w.heap.size, 5, none⟩) (Nat.le_refl _) _).setCell (p := ⟨w.heap.size, 6, none⟩) (Nat.le_refl _) _).setCell (p := ⟨w.heap.size, 7, none⟩) (Nat.le_refl _) _).setCell (p := ⟨w.heap.size, 8, none⟩) (Nat.le_refl _) _).setCell (p := ⟨w.heap.size, 9, none⟩) (Nat.le_refl _) _).setCell (p := ⟨w.heap.size + 1, 0, none⟩) (Nat.le_succ _) _).setCell (p := ⟨w.heap.size + 1, 1, none⟩) (Nat.le_succ _) _).setCell (p := ⟨w.heap.size + 1, 2, none⟩) (Nat.le_succ _) _).setCell (p := ⟨w.heap.size + 1, 3, none⟩) (Nat.le_succ _) _).setCell (p := ⟨w.heap.size + 1, 4, none⟩) (Nat.le_succ _) _).setCell (p := ⟨w.heap.size + 1, 5, none⟩) (Nat.le_succ _) _).setCell (p := ⟨w.heap.size + 1, 6, none⟩) (Nat.le_succ _) _).setCell (p := ⟨w.heap.size + 1, 7, none⟩) (Nat.le_succ _) _).setCell (p := ⟨w.heap.size + 1, 8, none⟩) (Nat.le_succ _) _).setCell (p := ⟨w.heap.size + 1, 9, none⟩) (Nat.le_succ _) _)
  · have stp : ∀ (W : World) (q i : Nat) (x : Value), LentC (w.heap.size + 2) W ⟨ck, ct, cl, cx⟩ ga xg → q < w.heap.size + 2 → LentC (w.heap.size + 2) (W.setCell ⟨q, i, none⟩ x) ⟨ck, ct, cl, cx⟩ ga xg := fun W q i x h hq => h.set hq
    have h0 : w.heap.size < w.heap.size + 2 := by omega
    have h1 : w.heap.size + 1 < w.heap.size + 2 := by omega
    exact (stp _ _ _ _ (stp _ _ _ _ (stp _ _ _ _ (stp _ _ _ _ (stp _ _ _ _ (stp _ _ _ _ (stp _ _ _ _ (stp _ _ _ _ (stp _ _ _ _ (stp _ _ _ _ (stp _ _ _ _ (stp _ _ _ _ (stp _ _ _ _ (stp _ _ _ _ (stp _ _ _ _ (stp _ _ _ _ (stp _ _ _ _ hL h0) h0) h0) h0) h0) h0) h0) h1) h1) h1) h1) h1) h1) h1) h1) h1) h1)

set_option maxRecDepth 100000 in
set_option maxHeartbeats 4000000 in
theorem sameCond_yes (c : C10) (a1 : Option Addr) (c1 : Nat) (x1 : Option Addr) (d1 : Nat) (a2 : Option Addr) (c2 : Nat) (x2 : Option Addr) (d2 : Nat) (w : World) (h1 : Sl10 w.heap.size w c.args.length a1 c1 (cellsA c.args)) (h2 : Sl10 w.heap.size w c.args.length a2 c2 (cellsA c.args)) (t1 : Lies w.heap.size w c.test (.slice x1 c.test.kids.length d1)) (t2 : Lies w.heap.size w c.test (.slice x2 c.test.kids.length d2)) :
    Calls Tryz.prog 30 #[aggC c a1 c1 x1 d1, aggC c a2 c2 x2 d2] w (YesG w) := by
  have HS := Lib.hid (fun W (hW : Gr w W) => sameA_yes c.args a1 c1 a2 c2 W (h1.up hW.below hW.below.size) (h2.up hW.below hW.below.size))
  have HX := Lib.hid (fun W (hW : Gr w W) => sameE_any c.test W _ _ (t1.up hW.below hW.below.size) (t2.up hW.below hW.below.size))
  have HB : Hid (∀ o1 o2, Gr w ((w.alloc o1).alloc o2)) := fun o1 o2 => ((Gr.refl w).alloc o1).alloc o2
  have two : Hid (∀ o1 o2 w1, Gr ((w.alloc o1).alloc o2) w1 → w1.heap[w.heap.size]? = some o1 ∧ w1.heap[w.heap.size + 1]? = some o2) := fun o1 o2 w1 h => by
    obtain ⟨t1, t2⟩ := heap_two (w := w) o1 o2
    exact ⟨(h.below.block _ (by simp; omega)).trans t1, (h.below.block _ (by simp)).trans t2⟩
  obtain ⟨ck, ct, cl, cx⟩ := c
  unfold aggC cellsC
  unfold agg at HX
  simp only at HS HX ⊢
  clear h1 h2 t1 t2
  generalize cl.length = n at *
  generalize cx.kids.length = m at *
  generalize cx.kind = z1 at *
  generalize cx.vk = z2 at *
  generalize cx.vn = z3 at *
  generalize cx.vs = z4 at *
  generalize cx.var = z5 at *
  generalize cx.op = z6 at *
  have mixed : Tryz.prog.follows .mixedOrders = true := by kernel_rfl
  go_enter Tryz.func30, Tryz.ntmps30
  go_wp2_with (first
    | (go_at_call 48; go_must (refine (HS.out _ (HB.out _ _)).mono ?_; rintro e w1 ⟨rfl, hg⟩; obtain ⟨t1, t2⟩ := two.out _ _ _ hg; have y1 := (fun j => Lib.cell_of_heap t1 j); have y2 := (fun j => Lib.cell_of_heap t2 j); have HG := Lib.hid ((HB.out _ _).trans hg); clear hg t1 t2))
    | (go_at_call 49; go_must (refine (HX.out _ HG.out).mono ?_; rintro e w2 ⟨rfl, hg⟩; have HG2 := Lib.hid (HG.out.trans hg); clear hg)))
  go_ret
  exact ⟨rfl, HG2.out⟩

theorem LentC.sl {base ga xg : Nat} {w : World} {c : C10} (h : LentC base w c ga xg) (hs : c.args.length ≤ 2000) : Sl10 w.heap.size w c.args.length (some ⟨ga, 0, none⟩) (c.args.length + 12) (cellsA c.args) ∧ Lies w.heap.size w c.test (.slice (some ⟨xg, 0, none⟩) c.test.kids.length (c.test.kids.length + 12)) := ⟨h.args.sl hs, h.test.lies⟩

set_option maxRecDepth 100000 in
set_option maxHeartbeats 4000000 in
theorem keptCond_yes (c : C10) (base ga xg : Nat) (a2 : Option Addr) (c2 : Nat) (x2 : Option Addr) (d2 : Nat) (w : World) (hs : c.args.length ≤ 2000) (h1 : LentC base w c ga xg) (h2 : Sl10 w.heap.size w c.args.length a2 c2 (cellsA c.args)) (t2 : Lies w.heap.size w c.test (.slice x2 c.test.kids.length d2)) :
    Calls Tryz.prog 13 #[aggC c (some ⟨ga, 0, none⟩) (c.args.length + 12) (some ⟨xg, 0, none⟩) (c.test.kids.length + 12), aggC c a2 c2 x2 d2] w (YesG w) := by
  have HS := Lib.hid (fun W (hW : Gr w W) => sameCond_yes c (some ⟨ga, 0, none⟩) (c.args.length + 12) (some ⟨xg, 0, none⟩) (c.test.kids.length + 12) a2 c2 x2 d2 W ((h1.old hW.below).sl hs).1 (h2.up hW.below hW.below.size) ((h1.old hW.below).sl hs).2 (t2.up hW.below hW.below.size))
  have HA := Lib.hid (fun W (hW : Gr w W) => keptA_any base ga a2 c.args.length c2 c.args W rfl hs (h2.up hW.below hW.below.size) (h1.old hW.below).args)
  have HX := Lib.hid (fun W (hW : Gr w W) => keptE_any c.test W base _ _ (h1.old hW.below).test (t2.up hW.below hW.below.size))
  have HB : Hid (∀ o1 o2, Gr w ((w.alloc o1).alloc o2)) := fun o1 o2 => ((Gr.refl w).alloc o1).alloc o2
  have two : Hid (∀ o1 o2 w1, Gr ((w.alloc o1).alloc o2) w1 → w1.heap[w.heap.size]? = some o1 ∧ w1.heap[w.heap.size + 1]? = some o2) := fun o1 o2 w1 h => by
    obtain ⟨t1, t2⟩ := heap_two (w := w) o1 o2
    exact ⟨(h.below.block _ (by simp; omega)).trans t1, (h.below.block _ (by simp)).trans t2⟩
  obtain ⟨ck, ct, cl, cx⟩ := c
  unfold aggC cellsC at HS ⊢
  unfold agg at HX
  simp only at HS HA HX ⊢
  clear h1 h2 t2 hs
  generalize cl.length = n at *
  generalize cx.kids.length = m at *
  generalize cx.kind = z1 at *
  generalize cx.vk = z2 at *
  generalize cx.vn = z3 at *
  generalize cx.vs = z4 at *
  generalize cx.var = z5 at *
  generalize cx.op = z6 at *
  have mixed : Tryz.prog.follows .mixedOrders = true := by kernel_rfl
  go_enter Tryz.func13, Tryz.ntmps13
  go_wp2_with (first
    | (go_at_call 30; go_must (refine (HS.out _ (HB.out _ _)).mono ?_; rintro e w1 ⟨rfl, hg⟩; have HT := Lib.hid (fun W (h : Gr w1 W) => two.out _ _ W (hg.trans h)); obtain ⟨t1, t2⟩ := HT.out _ (Gr.refl _); have y1 := (fun j => Lib.cell_of_heap t1 j); have y2 := (fun j => Lib.cell_of_heap t2 j); have HG := Lib.hid ((HB.out _ _).trans hg); clear hg t1 t2))
    | (go_at_call 31; go_must (refine (HA.out _ HG.out).mono ?_; rintro e w2 ⟨rfl, hg⟩; obtain ⟨t1, t2⟩ := HT.out _ hg; have y3 := (fun j => Lib.cell_of_heap t1 j); have y4 := (fun j => Lib.cell_of_heap t2 j); have HG2 := Lib.hid (HG.out.trans hg); clear hg t1 t2 y1 y2))
    | (go_at_call 32; go_must (refine (HX.out _ HG2.out).mono ?_; rintro e w3 ⟨rfl, hg⟩; have HG3 := Lib.hid (HG2.out.trans hg); clear hg)))
  go_ret
  exact ⟨rfl, HG3.out⟩
end Go.Proofs.YtnnhgbncghpecaaGreat
