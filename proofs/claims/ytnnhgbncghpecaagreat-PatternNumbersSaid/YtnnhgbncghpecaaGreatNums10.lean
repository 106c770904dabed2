/- PatternNumbers answers true. -/
import Derived.Test.YtnnhgbncghpecaaGreatNumsD10
namespace Go.Proofs.YtnnhgbncghpecaaGreat
open Go.RowKit
set_option maxRecDepth 100000

abbrev nums8 : Array Value := #[.int .i64 (-9223372036854775808), .int .i64 (-1), .int .i64 0, .int .i64 1, .int .i64 2, .int .i64 16, .int .i64 17, .int .i64 9223372036854775807]
theorem nums8_at : ∀ i, i < 8 → ∃ x, nums8[i]? = some (.int .i64 x) := fun i hi => by
  match i, hi with
  | 0, _ => exact ⟨_, rfl⟩
  | 1, _ => exact ⟨_, rfl⟩
  | 2, _ => exact ⟨_, rfl⟩
  | 3, _ => exact ⟨_, rfl⟩
  | 4, _ => exact ⟨_, rfl⟩
  | 5, _ => exact ⟨_, rfl⟩
  | 6, _ => exact ⟨_, rfl⟩
  | 7, _ => exact ⟨_, rfl⟩
abbrev vals5 : Array Value := #[.int .u8 0, .int .i64 0, .string ⟨#[]⟩, .int .u8 1, .int .i64 1, .string ⟨#[]⟩, .int .u8 1, .int .i64 2, .string ⟨#[]⟩, .int .u8 2, .int .i64 0, .string ⟨#[97]⟩, .int .u8 1, .int .i64 1, .string ⟨#[97]⟩]
theorem vals5_at : ∀ j, j < 5 → ∃ v : V3, vals5[j * 3]? = some (.int .u8 v.1) ∧ vals5[j * 3 + 1]? = some (.int .i64 v.2.1) ∧ vals5[j * 3 + 2]? = some (.string v.2.2) ∧ v.2.2.size ≤ 140737488355328 := fun j hj => by
  match j, hj with
  | 0, _ => exact ⟨(0, 0, ⟨#[]⟩), rfl, rfl, rfl, by decide⟩
  | 1, _ => exact ⟨(1, 1, ⟨#[]⟩), rfl, rfl, rfl, by decide⟩
  | 2, _ => exact ⟨(1, 2, ⟨#[]⟩), rfl, rfl, rfl, by decide⟩
  | 3, _ => exact ⟨(2, 0, ⟨#[97]⟩), rfl, rfl, rfl, by decide⟩
  | 4, _ => exact ⟨(1, 1, ⟨#[97]⟩), rfl, rfl, rfl, by decide⟩

theorem bs_run (W : World) : (Instr.buildSlice 34 5 #[(0, .agg #[.int .u8 0, .int .i64 0, .string ⟨#[]⟩]), (1, .agg #[.int .u8 1, .int .i64 1, .string ⟨#[]⟩]), (2, .agg #[.int .u8 1, .int .i64 2, .string ⟨#[]⟩]), (3, .agg #[.int .u8 2, .int .i64 0, .string ⟨#[97]⟩]), (4, .agg #[.int .u8 1, .int .i64 1, .string ⟨#[97]⟩])]).run Tryz.prog W = .ok (.slice (some ⟨W.heap.size, 0, none⟩) 5 5) (W.alloc (.cells vals5 27)) := by kernel_rfl
theorem wpList_bs5 {ops : Array Oper} {rest : List Oper} {op : Oper} {a : Act} {w : World} {Q : Exit → Act → World → Prop} (hgd : op.guard = none) (x0 x1 x2 x3 x4 : Operand) (ho : op.op = .buildSlice 34 5 #[(0, x0), (1, x1), (2, x2), (3, x3), (4, x4)])
    (h0 : a.eval x0 = .agg #[.int .u8 0, .int .i64 0, .string ⟨#[]⟩]) (h1 : a.eval x1 = .agg #[.int .u8 1, .int .i64 1, .string ⟨#[]⟩]) (h2 : a.eval x2 = .agg #[.int .u8 1, .int .i64 2, .string ⟨#[]⟩]) (h3 : a.eval x3 = .agg #[.int .u8 2, .int .i64 0, .string ⟨#[97]⟩]) (h4 : a.eval x4 = .agg #[.int .u8 1, .int .i64 1, .string ⟨#[97]⟩])
    (h : wpList Tryz.prog ops Q rest (a.put op.dst (.slice (some ⟨w.heap.size, 0, none⟩) 5 5)) (w.alloc (.cells vals5 27))) : wpList Tryz.prog ops Q (op :: rest) a w :=
  wpList_run hgd (.slice (some ⟨w.heap.size, 0, none⟩) 5 5) (w.alloc (.cells vals5 27)) (by
    unfold execOp
    have hm : ((#[(0, x0), (1, x1), (2, x2), (3, x3), (4, x4)] : Array (Nat × Operand)).map fun (i, x) => (i, a.eval x)) = #[(0, .agg #[.int .u8 0, .int .i64 0, .string ⟨#[]⟩]), (1, .agg #[.int .u8 1, .int .i64 1, .string ⟨#[]⟩]), (2, .agg #[.int .u8 1, .int .i64 2, .string ⟨#[]⟩]), (3, .agg #[.int .u8 2, .int .i64 0, .string ⟨#[97]⟩]), (4, .agg #[.int .u8 1, .int .i64 1, .string ⟨#[97]⟩])] := by
      simp only [List.map_toArray, List.map_cons, List.map_nil, h0, h1, h2, h3, h4]
    rw [ho]
    simp only [hm, Sem.run_bind, bs_run, Result.andThen_ok, Sem.run_pure]) h
theorem bs1A_run (W : World) : (Instr.buildSlice 23 1 #[(0, .agg #[.int .u8 1, .int .i64 0, .int .u8 0, .int .i64 0, .string ⟨#[]⟩])]).run Tryz.prog W = .ok (.slice (some ⟨W.heap.size, 0, none⟩) 1 1) (W.alloc (.cells #[.int .u8 1, .int .i64 0, .int .u8 0, .int .i64 0, .string ⟨#[]⟩] 64)) := by kernel_rfl
theorem bs1V_run (W : World) : (Instr.buildSlice 34 1 #[(0, .agg #[.int .u8 1, .int .i64 1, .string ⟨#[]⟩])]).run Tryz.prog W = .ok (.slice (some ⟨W.heap.size, 0, none⟩) 1 1) (W.alloc (.cells #[.int .u8 1, .int .i64 1, .string ⟨#[]⟩] 27)) := by kernel_rfl
theorem wpList_bs1A {ops : Array Oper} {rest : List Oper} {op : Oper} {a : Act} {w : World} {Q : Exit → Act → World → Prop} (hgd : op.guard = none) (x0 : Operand) (ho : op.op = .buildSlice 23 1 #[(0, x0)]) (h0 : a.eval x0 = .agg #[.int .u8 1, .int .i64 0, .int .u8 0, .int .i64 0, .string ⟨#[]⟩])
    (h : wpList Tryz.prog ops Q rest (a.put op.dst (.slice (some ⟨w.heap.size, 0, none⟩) 1 1)) (w.alloc (.cells #[.int .u8 1, .int .i64 0, .int .u8 0, .int .i64 0, .string ⟨#[]⟩] 64))) : wpList Tryz.prog ops Q (op :: rest) a w :=
  wpList_run hgd (.slice (some ⟨w.heap.size, 0, none⟩) 1 1) (w.alloc (.cells #[.int .u8 1, .int .i64 0, .int .u8 0, .int .i64 0, .string ⟨#[]⟩] 64)) (by
    unfold execOp
    have hm : ((#[(0, x0)] : Array (Nat × Operand)).map fun (i, x) => (i, a.eval x)) = #[(0, .agg #[.int .u8 1, .int .i64 0, .int .u8 0, .int .i64 0, .string ⟨#[]⟩])] := by
      simp only [List.map_toArray, List.map_cons, List.map_nil, h0]
    rw [ho]
    simp only [hm, Sem.run_bind, bs1A_run, Result.andThen_ok, Sem.run_pure]) h
theorem wpList_bs1V {ops : Array Oper} {rest : List Oper} {op : Oper} {a : Act} {w : World} {Q : Exit → Act → World → Prop} (hgd : op.guard = none) (x0 : Operand) (ho : op.op = .buildSlice 34 1 #[(0, x0)]) (h0 : a.eval x0 = .agg #[.int .u8 1, .int .i64 1, .string ⟨#[]⟩])
    (h : wpList Tryz.prog ops Q rest (a.put op.dst (.slice (some ⟨w.heap.size, 0, none⟩) 1 1)) (w.alloc (.cells #[.int .u8 1, .int .i64 1, .string ⟨#[]⟩] 27))) : wpList Tryz.prog ops Q (op :: rest) a w :=
  wpList_run hgd (.slice (some ⟨w.heap.size, 0, none⟩) 1 1) (w.alloc (.cells #[.int .u8 1, .int .i64 1, .string ⟨#[]⟩] 27)) (by
    unfold execOp
    have hm : ((#[(0, x0)] : Array (Nat × Operand)).map fun (i, x) => (i, a.eval x)) = #[(0, .agg #[.int .u8 1, .int .i64 1, .string ⟨#[]⟩])] := by
      simp only [List.map_toArray, List.map_cons, List.map_nil, h0]
    rw [ho]
    simp only [hm, Sem.run_bind, bs1V_run, Result.andThen_ok, Sem.run_pure]) h
theorem facts_none (W : World) : Facts10 W.heap.size W [] none 0 := ⟨⟨[], rfl, (fun h => absurd rfl h), fun p hp => by cases hp⟩, fun _ => ⟨rfl, rfl⟩, Nat.le_refl _, by unfold maxLen; omega⟩
def NumsP (w : World) (r : Ending) (w' : World) : Prop := r = .returned (.bool true) ∧ Below w.heap.size w w'
set_option maxHeartbeats 3000000 in
theorem nums_any (w : World) : Calls Tryz.prog 4 #[] w (NumsP w) := by
  have mixed : Tryz.prog.follows .mixedOrders = true := by kernel_rfl
  have HAw := Lib.hid (fun W => awake_any W)
  have HNu := Lib.hid (fun x W => num_any x W)
  go_enter Tryz.func4, Tryz.ntmps4
  go_wp2_with fail
  obtain ⟨w1, hw1⟩ : ∃ w1, w1 = w.alloc (.cells nums8 3) := ⟨_, rfl⟩
  have HB1 : Hid (Below w.heap.size w w1) := by rw [hw1]; exact below_own _
  have HN1 : Hid (w1.heap[w.heap.size]? = some (.cells nums8 3 (0, 0))) := by rw [hw1]; exact heap_alloc_new w _
  show Code.wp _ _ _ _ (w.alloc (.cells nums8 3))
  rw [← hw1]
  clear hw1
  generalize w.heap.size = bn at HN1 ⊢
  go_loopw [2] (fun i wr => ∃ k : Nat, k ≤ 8 ∧ i = .int .i64 k ∧ Hid (Below w1.heap.size w1 wr)) (fun i _ => 8 - (intOf i).toNat)
  case atStart => exact ⟨0, by omega, rfl, Below.refl _ _⟩
  case round =>
    as_aux_lemma =>
    obtain ⟨i0, hi0, rfl, HR⟩ := hrel
    by_cases hi8 : i0 < 8
    · as_aux_lemma =>
      obtain ⟨x0, hx⟩ := nums8_at i0 hi8
      have hbn : bn < wr.heap.size := Nat.lt_of_lt_of_le (lt_of_heap HN1.out) HR.out.size
      have hx0 : wr.cell? ⟨bn, i0, none⟩ = some (.int .i64 x0) := (Lib.cell_of_heap ((HR.out.block _ (lt_of_heap HN1.out)).trans HN1.out) i0).trans hx
      go_upto_region 5 with fail
      generalize ha0 : ({ tmps := _, defers := _ } : Act) = a0
      have k1 : a0.eval (.tmp 1) = .slice (some ⟨bn, 0, none⟩) 8 8 := by rw [← ha0]; rfl
      have k2 : a0.eval (.tmp 2) = .int .i64 (i0 : Int) := by rw [← ha0]; rfl
      have hsz : a0.tmps.size = 161 := by rw [← ha0]; rfl
      refine wp_region_st nRD (nRF wr bn i0 x0) (nRJ wr bn i0 x0) 12 mixed (by kernel_rfl) rfl (by kernel_rfl) (by rw [hsz]; kernel_rfl) (below_drew (Below.refl _ _))
        (fun ll aa ww i hi hs nl hw => by
          have h : i = 0 ∨ i = 1 ∨ i = 2 ∨ i = 3 ∨ i = 4 ∨ i = 5 ∨ i = 6 ∨ i = 7 ∨ i = 8 ∨ i = 9 ∨ i = 10 ∨ i = 11 := by omega
          rcases h with rfl | rfl | rfl | rfl | rfl | rfl | rfl | rfl | rfl | rfl | rfl | rfl
          · exact nR_s0 _ bn i0 x0 k1 k2 hi8 hx0 hbn hs rfl nl 
          · exact nR_s1 _ bn i0 x0 k1 k2 hi8 hx0 hbn hs rfl nl 
          · exact nR_s2 _ bn i0 x0 k1 k2 hi8 hx0 hbn hs rfl nl (hw 0 (by kernel_rfl)) (hw 1 (by kernel_rfl))
          · exact nR_s3 _ bn i0 x0 k1 k2 hi8 hx0 hbn hs rfl nl (hw 2 (by kernel_rfl))
          · exact nR_s4 _ bn i0 x0 k1 k2 hi8 hx0 hbn hs rfl nl (hw 3 (by kernel_rfl))
          · exact nR_s5 _ bn i0 x0 k1 k2 hi8 hx0 hbn hs rfl nl 
          · exact nR_s6 _ bn i0 x0 k1 k2 hi8 hx0 hbn hs rfl nl 
          · exact nR_s7 _ bn i0 x0 k1 k2 hi8 hx0 hbn hs rfl nl (hw 5 (by kernel_rfl)) (hw 6 (by kernel_rfl))
          · exact nR_s8 _ bn i0 x0 k1 k2 hi8 hx0 hbn hs rfl nl (hw 7 (by kernel_rfl))
          · exact nR_s9 _ bn i0 x0 k1 k2 hi8 hx0 hbn hs rfl nl (hw 4 (by kernel_rfl)) (hw 8 (by kernel_rfl))
          · exact nR_s10 _ bn i0 x0 k1 k2 hi8 hx0 hbn hs rfl nl (hw 4 (by kernel_rfl)) (hw 9 (by kernel_rfl))
          · exact nR_s11 _ bn i0 x0 k1 k2 hi8 hx0 hbn hs rfl nl (hw 10 (by kernel_rfl)))
        ?_
      intro ll aa W hall hst
      have HJ := Lib.hid (show Below wr.heap.size wr W from hst.j)
      obtain ⟨u24, h24⟩ : ∃ u, u = aa.eval (.tmp 24) := ⟨_, rfl⟩
      obtain ⟨u29, h29⟩ : ∃ u, u = aa.eval (.tmp 29) := ⟨_, rfl⟩
      refine (by assumption : ∀ (a : Act) (w : World), Code.wp _ _ _ a w → _) _ W ?_
      have hfr := frame_end [(20, .slice (some ⟨bn, 0, none⟩) 8 8), (21, .int .i64 (i0 : Int)), (22, .pointer (some ⟨bn, i0, none⟩)), (23, .int .i64 x0), (24, u24), (25, .slice (some ⟨bn, 0, none⟩) 8 8), (26, .int .i64 (i0 : Int)), (27, .pointer (some ⟨bn, i0, none⟩)), (28, .int .i64 x0), (29, u29), (30, .bool true), (31, .bool false)] aa a0 hst.size hst.defs (by
        intro p hp
        simp only [List.mem_cons, List.not_mem_nil, or_false] at hp
        rcases hp with rfl | rfl | rfl | rfl | rfl | rfl | rfl | rfl | rfl | rfl | rfl | rfl
        · exact hst.get (i := 0) (by decide) (hall 0 (by decide)) rfl
        · exact hst.get (i := 1) (by decide) (hall 1 (by decide)) rfl
        · exact hst.get (i := 2) (by decide) (hall 2 (by decide)) rfl
        · exact hst.get (i := 3) (by decide) (hall 3 (by decide)) rfl
        · exact h24.symm
        · exact hst.get (i := 5) (by decide) (hall 5 (by decide)) rfl
        · exact hst.get (i := 6) (by decide) (hall 6 (by decide)) rfl
        · exact hst.get (i := 7) (by decide) (hall 7 (by decide)) rfl
        · exact hst.get (i := 8) (by decide) (hall 8 (by decide)) rfl
        · exact h29.symm
        · exact hst.get (i := 10) (by decide) (hall 10 (by decide)) rfl
        · exact hst.get (i := 11) (by decide) (hall 11 (by decide)) rfl
        ) (fun t ht => hst.kept t (fun i hi => by
          have h : i = 0 ∨ i = 1 ∨ i = 2 ∨ i = 3 ∨ i = 4 ∨ i = 5 ∨ i = 6 ∨ i = 7 ∨ i = 8 ∨ i = 9 ∨ i = 10 ∨ i = 11 := by omega
          rcases h with rfl | rfl | rfl | rfl | rfl | rfl | rfl | rfl | rfl | rfl | rfl | rfl
          · exact fun e => ht (by have e1 := Option.some.inj e; subst e1; simp)
          · exact fun e => ht (by have e1 := Option.some.inj e; subst e1; simp)
          · exact fun e => ht (by have e1 := Option.some.inj e; subst e1; simp)
          · exact fun e => ht (by have e1 := Option.some.inj e; subst e1; simp)
          · exact fun e => ht (by have e1 := Option.some.inj e; subst e1; simp)
          · exact fun e => ht (by have e1 := Option.some.inj e; subst e1; simp)
          · exact fun e => ht (by have e1 := Option.some.inj e; subst e1; simp)
          · exact fun e => ht (by have e1 := Option.some.inj e; subst e1; simp)
          · exact fun e => ht (by have e1 := Option.some.inj e; subst e1; simp)
          · exact fun e => ht (by have e1 := Option.some.inj e; subst e1; simp)
          · exact fun e => ht (by have e1 := Option.some.inj e; subst e1; simp)
          · exact fun e => ht (by have e1 := Option.some.inj e; subst e1; simp)))
      rw [hfr, ← ha0]
      clear hfr
      simp only [List.foldl_cons, List.foldl_nil]
      go_simp
      clear h24 h29 hst hall k1 k2 hsz ha0 hx0 hx
      have HR2 : Hid (Below w1.heap.size w1 W) := HR.out.trans (HJ.out.mono HR.out.size)
      go_wp2_with fail
      go_roundw
      case rel => exact ⟨i0 + 1, by omega, by go_num, HR2⟩
      case measure => simp [intOf]; omega
    · obtain rfl : i0 = 8 := by omega
      as_aux_lemma =>
      go_wp2_with (go_at_call 21; go_must (refine (num_gr _ _).mono ?_; rintro r w2 ⟨rfl, hg⟩; have HG1 := Lib.hid hg; clear hg; refine Hid.out ?_))
      refine Lib.hid ?_
      go_wp2_with (first
        | (go_at_call 21; go_must (refine (num_gr _ _).mono ?_; rintro r w3 ⟨rfl, hg⟩; have HG3 := Lib.hid (HG1.out.trans hg); clear hg; refine Hid.out ?_)))
      refine Lib.hid ?_
      refine (by assumption : ∀ (a : Act) (w : World), wpList _ _ _ _ a w → _) _ _ ?_
      refine wpList_run rfl (.agg #[.int .u8 2, .int .i64 0, .string ⟨#[97]⟩]) w3 (by kernel_rfl) ?_
      refine wpList_run rfl (.agg #[.int .u8 1, .int .i64 1, .string ⟨#[97]⟩]) w3 (by kernel_rfl) ?_
      go_simp
      refine wpList_bs5 rfl _ _ _ _ _ rfl rfl rfl rfl rfl rfl ?_
      obtain ⟨w4, hw4⟩ : ∃ w4, w4 = w3.alloc (.cells vals5 27) := ⟨_, rfl⟩
      have hb4 : Below w3.heap.size w3 w4 := by rw [hw4]; exact below_own _
      have HB4 : Hid (Below w1.heap.size w1 w4) := HR.out.trans ((HG3.out.below.trans (hb4.mono HG3.out.below.size)).mono HR.out.size)
      have HV4 : Hid (w4.heap[w3.heap.size]? = some (.cells vals5 27 (0, 0))) := by rw [hw4]; exact heap_alloc_new w3 _
      have HN4 := Lib.hid ((HB4.out.block _ (lt_of_heap HN1.out)).trans HN1.out)
      have HW4 := Lib.hid (HB1.out.trans (HB4.out.mono HB1.out.size))
      rw [← hw4]
      clear hw4 hb4 HB4 HG3 HG1 HR HB1 HN1
      generalize w3.heap.size = bv at *
      go_simp
      go_wp2_with fail
      clear HNu
      go_loopw [4] (fun i wr => ∃ k : Nat, k ≤ 6 ∧ i = .int .i64 k ∧ Hid (Below w4.heap.size w4 wr)) (fun i _ => 6 - (intOf i).toNat)
      case atStart => exact ⟨0, by omega, rfl, Below.refl _ _⟩
      case round =>
        as_aux_lemma =>
        obtain ⟨k0, hk0, rfl, HR⟩ := hrel
        by_cases hk6 : k0 < 6
        · as_aux_lemma =>
          go_wp2_with fail
          go_loopw [5] (fun i wr => ∃ j : Nat, j ≤ 8 ∧ i = .int .i64 j ∧ Hid (Below w4.heap.size w4 wr)) (fun i _ => 8 - (intOf i).toNat)
          case atStart => exact ⟨0, by omega, rfl, HR⟩
          case round =>
            as_aux_lemma =>
            clear HR
            obtain ⟨j0, hj0, rfl, HR⟩ := hrel
            by_cases hj8 : j0 < 8
            · as_aux_lemma =>
              go_wp2_with fail
              go_loopw [6] (fun i wr => ∃ m : Nat, m ≤ 25 ∧ i = .int .i64 m ∧ Hid (Below w4.heap.size w4 wr)) (fun i _ => 25 - (intOf i).toNat)
              case atStart => exact ⟨0, by omega, rfl, HR⟩
              case round =>
                as_aux_lemma =>
                clear HR
                obtain ⟨m0, hm0, rfl, HR⟩ := hrel
                by_cases hm25 : m0 < 25
                · as_aux_lemma =>
                  obtain ⟨x0, hx⟩ := nums8_at j0 hj8
                  obtain ⟨va, va1, va2, va3, va4⟩ := vals5_at (m0 / 5) (by omega)
                  have hbn : wr.heap[bn]? = some (.cells nums8 3 (0, 0)) := (HR.out.block _ (lt_of_heap HN4.out)).trans HN4.out
                  have hbv : wr.heap[bv]? = some (.cells vals5 27 (0, 0)) := (HR.out.block _ (lt_of_heap HV4.out)).trans HV4.out
                  have z0 : wr.cell? ⟨bn, j0, none⟩ = some (.int .i64 x0) := (Lib.cell_of_heap hbn j0).trans hx
                  have z1 : wr.cell? ⟨bv, m0 / 5 * 3, none⟩ = some (.int .u8 va.1) := (Lib.cell_of_heap hbv _).trans va1
                  have z2 : wr.cell? ⟨bv, m0 / 5 * 3 + 1, none⟩ = some (.int .i64 va.2.1) := (Lib.cell_of_heap hbv _).trans va2
                  have z3 : wr.cell? ⟨bv, m0 / 5 * 3 + 2, none⟩ = some (.string va.2.2) := (Lib.cell_of_heap hbv _).trans va3
                  have a0 : ∀ o, (wr.alloc o).cell? ⟨bn, j0, none⟩ = some (.int .i64 x0) := fun o => (across hbn o j0).trans hx
                  have a1 : ∀ o, (wr.alloc o).cell? ⟨bv, m0 / 5 * 3, none⟩ = some (.int .u8 va.1) := fun o => (across hbv o _).trans va1
                  have a2 : ∀ o, (wr.alloc o).cell? ⟨bv, m0 / 5 * 3 + 1, none⟩ = some (.int .i64 va.2.1) := fun o => (across hbv o _).trans va2
                  have a3 : ∀ o, (wr.alloc o).cell? ⟨bv, m0 / 5 * 3 + 2, none⟩ = some (.string va.2.2) := fun o => (across hbv o _).trans va3
                  have hkw : IntKind.u8.wrap (k0 : Int) = (k0 : Int) := by rw [IntKind.wrap_u8]; omega
                  have hj8' : (j0 : Int) < 8 := by omega
                  have hq5 : ((m0 / 5 : Nat) : Int) < 5 := by omega
                  clear hx va1 va2 va3
                  go_upto_region 17 with fail
                  go_region
                  clear z0 z1 z2 z3 a0 a1 a2 a3 hkw hj8' hq5
                  obtain ⟨w5, hw5⟩ : ∃ w5, w5 = (wr.alloc (.cells #[.int .u8 (k0 : Int), .int .i64 x0, .int .u8 va.1, .int .i64 va.2.1, .string va.2.2] 64)).drew := ⟨_, rfl⟩
                  have h75 : w5.heap[wr.heap.size]? = some (.cells #[.int .u8 (k0 : Int), .int .i64 x0, .int .u8 va.1, .int .i64 va.2.1, .string va.2.2] 64 (0, 0)) := by rw [hw5]; exact heap_alloc_new wr _
                  have hb5 : Below wr.heap.size wr w5 := by rw [hw5]; exact below_drew (below_own _)
                  rw [← hw5]
                  clear hw5
                  go_upto_region 18 with fail
                  refine wp_region_lit ?_
                  refine wpList_ldA rfl _ rfl _ rfl h75 ?_
                  refine wpList_run rfl (.agg #[.int .u8 2, .int .i64 1, .int .u8 0, .int .i64 0, .string ⟨#[]⟩]) w5 (by kernel_rfl) ?_
                  refine wpList_ldA rfl _ rfl _ rfl h75 ?_
                  go_simp
                  refine wpList_bs3 rfl _ _ _ rfl rfl rfl rfl ?_
                  obtain ⟨w6, hw6⟩ : ∃ w6, w6 = w5.alloc (.cells #[.int .u8 (k0 : Int), .int .i64 x0, .int .u8 va.1, .int .i64 va.2.1, .string va.2.2, .int .u8 2, .int .i64 1, .int .u8 0, .int .i64 0, .string ⟨#[]⟩, .int .u8 (k0 : Int), .int .i64 x0, .int .u8 va.1, .int .i64 va.2.1, .string va.2.2] 64) := ⟨_, rfl⟩
                  have hA6 : w6.heap[w5.heap.size]? = some (.cells #[.int .u8 (k0 : Int), .int .i64 x0, .int .u8 va.1, .int .i64 va.2.1, .string va.2.2, .int .u8 2, .int .i64 1, .int .u8 0, .int .i64 0, .string ⟨#[]⟩, .int .u8 (k0 : Int), .int .i64 x0, .int .u8 va.1, .int .i64 va.2.1, .string va.2.2] 64 (0, 0)) := by rw [hw6]; exact heap_alloc_new w5 _
                  have hb6 : Below w5.heap.size w5 w6 := by rw [hw6]; exact below_own _
                  rw [← hw6]
                  clear hw6
                  generalize w5.heap.size = gA at hA6 ⊢
                  go_simp
                  refine wpList_bdC rfl _ _ _ rfl rfl rfl rfl ?_
                  go_simp
                  refine wpList_run rfl (.pointer (some ⟨w6.heap.size, 0, none⟩)) (w6.alloc (.cells zeroC 33)) (by kernel_rfl) ?_
                  go_simp
                  refine wpList_stC rfl rfl _ _ rfl rfl rfl (heap_alloc_new w6 _) ?_
                  intro w7 hc7 hg7
                  have hb67 : Below w6.heap.size w6 w7 := (below_own (w := w6) (.cells zeroC 33)).grown hg7 (by simp) (fun k hk => by obtain rfl := Option.some.inj hk; exact Nat.le_refl _)
                  have hA7 := (hb67.block _ (lt_of_heap hA6)).trans hA6
                  have hb7 : Below wr.heap.size wr w7 := hb5.trans ((hb6.trans (hb67.mono hb6.size)).mono hb5.size)
                  clear hg7 hb67 hA6 hb6 hb5 h75
                  generalize w6.heap.size = gc at hc7 ⊢
                  refine wpList_nil ?_
                  go_upto_region 19 with fail
                  generalize ha0 : ({ tmps := _, defers := _ } : Act) = a0
                  have k3 : a0.eval (.tmp 3) = .slice (some ⟨bv, 0, none⟩) 5 5 := by rw [← ha0]; rfl
                  have k6 : a0.eval (.tmp 6) = .int .i64 (m0 : Int) := by rw [← ha0]; rfl
                  have hsz : a0.tmps.size = 161 := by rw [← ha0]; rfl
                  have hbv7 := (hb7.block _ (lt_of_heap hbv)).trans hbv
                  clear hbv hbn
                  obtain ⟨n5, hn⟩ : ∃ n : Nat, n = m0 % 5 := ⟨_, rfl⟩
                  have hn5 : n5 < 5 := by omega
                  obtain ⟨⟨v1, v2, v3⟩, vb1, vb2, vb3, vb4⟩ := vals5_at n5 hn5
                  have h5 : (m0 : Int) % 5 = (n5 : Int) := by omega
                  have h5t : (m0 : Int).tmod 5 = (n5 : Int) := by rw [Int.tmod_eq_emod_of_nonneg (by omega)]; exact h5
                  have hw5 : IntKind.i64.wrap (n5 : Int) = (n5 : Int) := by rw [IntKind.wrap_i64]; omega
                  clear hn
                  have hbv := lt_of_heap hbv7
                  have c0 : w7.cell? ⟨bv, n5 * 3, none⟩ = some (.int .u8 v1) := (Lib.cell_of_heap hbv7 _).trans vb1
                  have c1 : w7.cell? ⟨bv, n5 * 3 + 1, none⟩ = some (.int .i64 v2) := (Lib.cell_of_heap hbv7 _).trans vb2
                  have c2 : w7.cell? ⟨bv, n5 * 3 + 2, none⟩ = some (.string v3) := (Lib.cell_of_heap hbv7 _).trans vb3
                  refine wp_region_st fRD (fRF w7 bv n5 m0 v1 v2 v3) (fRJ w7 bv n5 m0 v1 v2 v3) 15 mixed (by kernel_rfl) rfl (by kernel_rfl) (by rw [hsz]; kernel_rfl) (below_drew (Below.refl _ _))
                    (fun ll aa ww i hi hs nl hw => by
                      have h : i = 0 ∨ i = 1 ∨ i = 2 ∨ i = 3 ∨ i = 4 ∨ i = 5 ∨ i = 6 ∨ i = 7 ∨ i = 8 ∨ i = 9 ∨ i = 10 ∨ i = 11 ∨ i = 12 ∨ i = 13 ∨ i = 14 := by omega
                      rcases h with rfl | rfl | rfl | rfl | rfl | rfl | rfl | rfl | rfl | rfl | rfl | rfl | rfl | rfl | rfl
                      · exact fR_s0 _ bv n5 m0 v1 v2 v3 k3 k6 h5 h5t hw5 hn5 hbv c0 c1 c2 (fun e => hs.ord 14 (by decide) e 13 (by kernel_rfl)) hs rfl nl 
                      · exact fR_s1 _ bv n5 m0 v1 v2 v3 k3 k6 h5 h5t hw5 hn5 hbv c0 c1 c2 (fun e => hs.ord 14 (by decide) e 13 (by kernel_rfl)) hs rfl nl 
                      · exact fR_s2 _ bv n5 m0 v1 v2 v3 k3 k6 h5 h5t hw5 hn5 hbv c0 c1 c2 (fun e => hs.ord 14 (by decide) e 13 (by kernel_rfl)) hs rfl nl (hw 1 (by kernel_rfl))
                      · exact fR_s3 _ bv n5 m0 v1 v2 v3 k3 k6 h5 h5t hw5 hn5 hbv c0 c1 c2 (fun e => hs.ord 14 (by decide) e 13 (by kernel_rfl)) hs rfl nl (hw 0 (by kernel_rfl)) (hw 2 (by kernel_rfl))
                      · exact fR_s4 _ bv n5 m0 v1 v2 v3 k3 k6 h5 h5t hw5 hn5 hbv c0 c1 c2 (fun e => hs.ord 14 (by decide) e 13 (by kernel_rfl)) hs rfl nl (hw 3 (by kernel_rfl))
                      · exact fR_s5 _ bv n5 m0 v1 v2 v3 k3 k6 h5 h5t hw5 hn5 hbv c0 c1 c2 (fun e => hs.ord 14 (by decide) e 13 (by kernel_rfl)) hs rfl nl 
                      · exact fR_s6 _ bv n5 m0 v1 v2 v3 k3 k6 h5 h5t hw5 hn5 hbv c0 c1 c2 (fun e => hs.ord 14 (by decide) e 13 (by kernel_rfl)) hs rfl nl 
                      · exact fR_s7 _ bv n5 m0 v1 v2 v3 k3 k6 h5 h5t hw5 hn5 hbv c0 c1 c2 (fun e => hs.ord 14 (by decide) e 13 (by kernel_rfl)) hs rfl nl 
                      · exact fR_s8 _ bv n5 m0 v1 v2 v3 k3 k6 h5 h5t hw5 hn5 hbv c0 c1 c2 (fun e => hs.ord 14 (by decide) e 13 (by kernel_rfl)) hs rfl nl (hw 7 (by kernel_rfl))
                      · exact fR_s9 _ bv n5 m0 v1 v2 v3 k3 k6 h5 h5t hw5 hn5 hbv c0 c1 c2 (fun e => hs.ord 14 (by decide) e 13 (by kernel_rfl)) hs rfl nl (hw 6 (by kernel_rfl)) (hw 8 (by kernel_rfl))
                      · exact fR_s10 _ bv n5 m0 v1 v2 v3 k3 k6 h5 h5t hw5 hn5 hbv c0 c1 c2 (fun e => hs.ord 14 (by decide) e 13 (by kernel_rfl)) hs rfl nl (hw 9 (by kernel_rfl))
                      · exact fR_s11 _ bv n5 m0 v1 v2 v3 k3 k6 h5 h5t hw5 hn5 hbv c0 c1 c2 (fun e => hs.ord 14 (by decide) e 13 (by kernel_rfl)) hs rfl nl (hw 4 (by kernel_rfl)) (hw 5 (by kernel_rfl)) (hw 10 (by kernel_rfl))
                      · exact fR_s12 _ bv n5 m0 v1 v2 v3 k3 k6 h5 h5t hw5 hn5 hbv c0 c1 c2 (fun e => hs.ord 14 (by decide) e 13 (by kernel_rfl)) hs rfl nl (hw 11 (by kernel_rfl))
                      · exact fR_s13 _ bv n5 m0 v1 v2 v3 k3 k6 h5 h5t hw5 hn5 hbv c0 c1 c2 (fun e => hs.ord 14 (by decide) e 13 (by kernel_rfl)) hs rfl nl 
                      · exact fR_s14 _ bv n5 m0 v1 v2 v3 k3 k6 h5 h5t hw5 hn5 hbv c0 c1 c2 (fun e => hs.ord 14 (by decide) e 13 (by kernel_rfl)) hs rfl nl (hw 0 (by kernel_rfl)) (hw 1 (by kernel_rfl)) (hw 2 (by kernel_rfl)) (hw 3 (by kernel_rfl)) (hw 4 (by kernel_rfl)) (hw 5 (by kernel_rfl)) (hw 6 (by kernel_rfl)) (hw 7 (by kernel_rfl)) (hw 8 (by kernel_rfl)) (hw 9 (by kernel_rfl)) (hw 10 (by kernel_rfl)) (hw 11 (by kernel_rfl)) (hw 12 (by kernel_rfl)) (hw 13 (by kernel_rfl)))
                    ?_
                  intro ll aa W hall hst
                  have HJ : Below w7.heap.size w7 W := hst.j
                  obtain ⟨gf, h9, -, -, hz9⟩ := (show fRF w7 bv n5 m0 v1 v2 v3 ll 13 W (aa.eval (.tmp 9)) from hst.get (i := 13) (by decide) (hall 13 (by decide)) rfl)
                  obtain ⟨gV, hfb, hVW⟩ := hz9 (hall 14 (by decide))
                  obtain ⟨u80, h80⟩ : ∃ u, u = aa.eval (.tmp 80) := ⟨_, rfl⟩
                  obtain ⟨u81, h81⟩ : ∃ u, u = aa.eval (.tmp 81) := ⟨_, rfl⟩
                  refine (by assumption : ∀ (a : Act) (w : World), Code.wp _ _ _ a w → _) _ W ?_
                  have hfr := frame_end [(69, .slice (some ⟨bv, 0, none⟩) 5 5), (70, .int .i64 m0), (71, .int .i64 (n5 : Int)), (72, .pointer (some ⟨bv, n5 * 3, none⟩)), (73, .agg #[.int .u8 v1, .int .i64 v2, .string v3]), (74, .agg #[.int .u8 1, .int .i64 2, .string ⟨#[]⟩]), (75, .slice (some ⟨bv, 0, none⟩) 5 5), (76, .int .i64 m0), (77, .int .i64 (n5 : Int)), (78, .pointer (some ⟨bv, n5 * 3, none⟩)), (79, .agg #[.int .u8 v1, .int .i64 v2, .string v3]), (80, u80), (81, u81), (9, .pointer (some ⟨gf, 0, none⟩))] aa a0 hst.size hst.defs (by
                    intro p hp
                    simp only [List.mem_cons, List.not_mem_nil, or_false] at hp
                    rcases hp with rfl | rfl | rfl | rfl | rfl | rfl | rfl | rfl | rfl | rfl | rfl | rfl | rfl | rfl
                    · exact hst.get (i := 0) (by decide) (hall 0 (by decide)) rfl
                    · exact hst.get (i := 1) (by decide) (hall 1 (by decide)) rfl
                    · exact hst.get (i := 2) (by decide) (hall 2 (by decide)) rfl
                    · exact hst.get (i := 3) (by decide) (hall 3 (by decide)) rfl
                    · exact hst.get (i := 4) (by decide) (hall 4 (by decide)) rfl
                    · exact hst.get (i := 5) (by decide) (hall 5 (by decide)) rfl
                    · exact hst.get (i := 6) (by decide) (hall 6 (by decide)) rfl
                    · exact hst.get (i := 7) (by decide) (hall 7 (by decide)) rfl
                    · exact hst.get (i := 8) (by decide) (hall 8 (by decide)) rfl
                    · exact hst.get (i := 9) (by decide) (hall 9 (by decide)) rfl
                    · exact hst.get (i := 10) (by decide) (hall 10 (by decide)) rfl
                    · exact h80.symm
                    · exact h81.symm
                    · exact h9
                    ) (fun t ht => hst.kept t (fun i hi => by
                      have h : i = 0 ∨ i = 1 ∨ i = 2 ∨ i = 3 ∨ i = 4 ∨ i = 5 ∨ i = 6 ∨ i = 7 ∨ i = 8 ∨ i = 9 ∨ i = 10 ∨ i = 11 ∨ i = 12 ∨ i = 13 ∨ i = 14 := by omega
                      rcases h with rfl | rfl | rfl | rfl | rfl | rfl | rfl | rfl | rfl | rfl | rfl | rfl | rfl | rfl | rfl
                      · exact fun e => ht (by have e1 := Option.some.inj e; subst e1; simp)
                      · exact fun e => ht (by have e1 := Option.some.inj e; subst e1; simp)
                      · exact fun e => ht (by have e1 := Option.some.inj e; subst e1; simp)
                      · exact fun e => ht (by have e1 := Option.some.inj e; subst e1; simp)
                      · exact fun e => ht (by have e1 := Option.some.inj e; subst e1; simp)
                      · exact fun e => ht (by have e1 := Option.some.inj e; subst e1; simp)
                      · exact fun e => ht (by have e1 := Option.some.inj e; subst e1; simp)
                      · exact fun e => ht (by have e1 := Option.some.inj e; subst e1; simp)
                      · exact fun e => ht (by have e1 := Option.some.inj e; subst e1; simp)
                      · exact fun e => ht (by have e1 := Option.some.inj e; subst e1; simp)
                      · exact fun e => ht (by have e1 := Option.some.inj e; subst e1; simp)
                      · exact fun e => ht (by have e1 := Option.some.inj e; subst e1; simp)
                      · exact fun e => ht (by have e1 := Option.some.inj e; subst e1; simp)
                      · exact fun e => ht (by have e1 := Option.some.inj e; subst e1; simp)
                      · exact fun e => by cases e))
                  rw [hfr, ← ha0]
                  clear hfr
                  simp only [List.foldl_cons, List.foldl_nil]
                  go_simp
                  clear h80 h81 h9 hz9 hst hall k3 k6 hsz ha0 c0 c1 c2 hbv hbv7 hw5 h5 h5t vb1 vb2 vb3
                  have hAW := (HJ.block _ (lt_of_heap hA7)).trans hA7
                  have hcb := (HJ.block _ (lt_of_heap hc7)).trans hc7
                  have HR2 : Hid (Below w4.heap.size w4 W) := HR.out.trans ((hb7.trans (HJ.mono hb7.size)).mono HR.out.size)
                  clear HJ hA7 hc7 hb7
                  go_upto_region 20 with fail
                  generalize ha0 : ({ tmps := _, defers := _ } : Act) = a0
                  have k8 : a0.eval (.tmp 8) = .pointer (some ⟨gc, 0, none⟩) := by rw [← ha0]; rfl
                  have k9 : a0.eval (.tmp 9) = .pointer (some ⟨gf, 0, none⟩) := by rw [← ha0]; rfl
                  have hsz : a0.tmps.size = 161 := by rw [← ha0]; rfl
                  have hPM := fun W' (hb : Below W.heap.size W W') g1 g2 bs vs A1 A2 h1 h2 e1 e2 l1 l2 hs => pm_any W' gA gV k0 x0 va.1 va.2.1 v1 v2 va.2.2 v3 vb4 ((hb.block _ (lt_of_heap hAW)).trans hAW) ((hb.block _ (lt_of_heap hVW)).trans hVW) g1 g2 bs vs A1 A2 h1 h2 e1 e2 l1 l2 hs
                  refine wp_region_st mRD (mRF W gc gf gA gV) (mRJ W gc gf gA gV) 34 mixed (by kernel_rfl) rfl (by kernel_rfl) (by rw [hsz]; kernel_rfl) (below_drew (Below.refl _ _))
                    (fun ll aa ww i hi hs nl hw => by
                      have h : i = 0 ∨ i = 1 ∨ i = 2 ∨ i = 3 ∨ i = 4 ∨ i = 5 ∨ i = 6 ∨ i = 7 ∨ i = 8 ∨ i = 9 ∨ i = 10 ∨ i = 11 ∨ i = 12 ∨ i = 13 ∨ i = 14 ∨ i = 15 ∨ i = 16 ∨ i = 17 ∨ i = 18 ∨ i = 19 ∨ i = 20 ∨ i = 21 ∨ i = 22 ∨ i = 23 ∨ i = 24 ∨ i = 25 ∨ i = 26 ∨ i = 27 ∨ i = 28 ∨ i = 29 ∨ i = 30 ∨ i = 31 ∨ i = 32 ∨ i = 33 := by omega
                      rcases h with rfl | rfl | rfl | rfl | rfl | rfl | rfl | rfl | rfl | rfl | rfl | rfl | rfl | rfl | rfl | rfl | rfl | rfl | rfl | rfl | rfl | rfl | rfl | rfl | rfl | rfl | rfl | rfl | rfl | rfl | rfl | rfl | rfl | rfl
                      · exact mR_s0 _ gc gf gA gV k8 k9 hcb hfb hPM hs rfl nl 
                      · exact mR_s1 _ gc gf gA gV k8 k9 hcb hfb hPM hs rfl nl 
                      · exact mR_s2 _ gc gf gA gV k8 k9 hcb hfb hPM hs rfl nl 
                      · exact mR_s3 _ gc gf gA gV k8 k9 hcb hfb hPM hs rfl nl 
                      · exact mR_s4 _ gc gf gA gV k8 k9 hcb hfb hPM hs rfl nl 
                      · exact mR_s5 _ gc gf gA gV k8 k9 hcb hfb hPM hs rfl nl (hw 3 (by kernel_rfl)) (hw 4 (by kernel_rfl))
                      · exact mR_s6 _ gc gf gA gV k8 k9 hcb hfb hPM hs rfl nl (hw 0 (by kernel_rfl)) (hw 1 (by kernel_rfl)) (hw 2 (by kernel_rfl)) (hw 3 (by kernel_rfl)) (hw 5 (by kernel_rfl))
                      · exact mR_s7 _ gc gf gA gV k8 k9 hcb hfb hPM hs rfl nl (hw 6 (by kernel_rfl))
                      · exact mR_s8 _ gc gf gA gV k8 k9 hcb hfb hPM hs rfl nl (hw 6 (by kernel_rfl)) (hw 7 (by kernel_rfl))
                      · exact mR_s9 _ gc gf gA gV k8 k9 hcb hfb hPM hs rfl (wantedB_of rfl (yieldsB_of (b := false) rfl rfl (hs.get (i := 8) (by decide) (hw 8 (by kernel_rfl)) rfl))) nl (hw 8 (by kernel_rfl))
                      · exact mR_s10 _ gc gf gA gV k8 k9 hcb hfb hPM hs rfl (wantedB_of rfl (yieldsB_of (b := false) rfl rfl (hs.get (i := 8) (by decide) (hw 8 (by kernel_rfl)) rfl))) nl (hw 8 (by kernel_rfl))
                      · exact mR_s11 _ gc gf gA gV k8 k9 hcb hfb hPM hs rfl (wantedB_of rfl (yieldsB_of (b := false) rfl rfl (hs.get (i := 8) (by decide) (hw 8 (by kernel_rfl)) rfl))) nl (hw 8 (by kernel_rfl))
                      · exact mR_s12 _ gc gf gA gV k8 k9 hcb hfb hPM hs rfl (wantedB_of rfl (yieldsB_of (b := false) rfl rfl (hs.get (i := 8) (by decide) (hw 8 (by kernel_rfl)) rfl))) nl (hw 8 (by kernel_rfl))
                      · exact mR_s13 _ gc gf gA gV k8 k9 hcb hfb hPM hs rfl (wantedB_of rfl (yieldsB_of (b := false) rfl rfl (hs.get (i := 8) (by decide) (hw 8 (by kernel_rfl)) rfl))) nl (hw 8 (by kernel_rfl)) (hw 9 (by kernel_rfl)) (hw 10 (by kernel_rfl)) (hw 11 (by kernel_rfl)) (hw 12 (by kernel_rfl))
                      · exact mR_s14 _ gc gf gA gV k8 k9 hcb hfb hPM hs rfl (wantedB_of rfl (yieldsB_of (b := false) rfl rfl (hs.get (i := 8) (by decide) (hw 8 (by kernel_rfl)) rfl))) nl (hw 8 (by kernel_rfl)) (hw 13 (by kernel_rfl))
                      · exact mR_s15 _ gc gf gA gV k8 k9 hcb hfb hPM hs rfl nl (hw 8 (by kernel_rfl)) (hw 14 (by kernel_rfl))
                      · exact mR_s16 _ gc gf gA gV k8 k9 hcb hfb hPM hs rfl nl (hw 13 (by kernel_rfl)) (hw 15 (by kernel_rfl))
                      · exact mR_s17 _ gc gf gA gV k8 k9 hcb hfb hPM hs rfl (wantedB_of rfl (yieldsB_of (b := false) rfl rfl (hs.get (i := 16) (by decide) (hw 16 (by kernel_rfl)) rfl))) nl (hw 16 (by kernel_rfl))
                      · exact mR_s18 _ gc gf gA gV k8 k9 hcb hfb hPM hs rfl (wantedB_of rfl (yieldsB_of (b := false) rfl rfl (hs.get (i := 16) (by decide) (hw 16 (by kernel_rfl)) rfl))) nl (hw 16 (by kernel_rfl))
                      · exact mR_s19 _ gc gf gA gV k8 k9 hcb hfb hPM hs rfl (wantedB_of rfl (yieldsB_of (b := false) rfl rfl (hs.get (i := 16) (by decide) (hw 16 (by kernel_rfl)) rfl))) nl (hw 16 (by kernel_rfl))
                      · exact mR_s20 _ gc gf gA gV k8 k9 hcb hfb hPM hs rfl (wantedB_of rfl (yieldsB_of (b := false) rfl rfl (hs.get (i := 16) (by decide) (hw 16 (by kernel_rfl)) rfl))) nl (hw 16 (by kernel_rfl))
                      · exact mR_s21 _ gc gf gA gV k8 k9 hcb hfb hPM hs rfl (wantedB_of rfl (yieldsB_of (b := false) rfl rfl (hs.get (i := 16) (by decide) (hw 16 (by kernel_rfl)) rfl))) nl (hw 16 (by kernel_rfl)) (hw 20 (by kernel_rfl))
                      · exact mR_s22 _ gc gf gA gV k8 k9 hcb hfb hPM hs rfl (wantedB_of rfl (yieldsB_of (b := false) rfl rfl (hs.get (i := 16) (by decide) (hw 16 (by kernel_rfl)) rfl))) nl (hw 16 (by kernel_rfl)) (hw 20 (by kernel_rfl)) (hw 21 (by kernel_rfl))
                      · exact mR_s23 _ gc gf gA gV k8 k9 hcb hfb hPM hs rfl (wantedB_of rfl (yieldsB_of (b := false) rfl rfl (hs.get (i := 16) (by decide) (hw 16 (by kernel_rfl)) rfl))) nl (hw 16 (by kernel_rfl)) (hw 17 (by kernel_rfl)) (hw 18 (by kernel_rfl)) (hw 19 (by kernel_rfl)) (hw 21 (by kernel_rfl)) (hw 22 (by kernel_rfl))
                      · exact mR_s24 _ gc gf gA gV k8 k9 hcb hfb hPM hs rfl (wantedB_of rfl (yieldsB_of (b := false) rfl rfl (hs.get (i := 16) (by decide) (hw 16 (by kernel_rfl)) rfl))) nl (hw 16 (by kernel_rfl)) (hw 23 (by kernel_rfl))
                      · exact mR_s25 _ gc gf gA gV k8 k9 hcb hfb hPM hs rfl nl (hw 16 (by kernel_rfl)) (hw 24 (by kernel_rfl))
                      · exact mR_s26 _ gc gf gA gV k8 k9 hcb hfb hPM hs rfl nl (hw 23 (by kernel_rfl)) (hw 25 (by kernel_rfl))
                      · exact mR_s27 _ gc gf gA gV k8 k9 hcb hfb hPM hs rfl (wantedB_of rfl (yieldsB_of (b := false) rfl rfl (hs.get (i := 26) (by decide) (hw 26 (by kernel_rfl)) rfl))) nl (hw 26 (by kernel_rfl))
                      · exact mR_s28 _ gc gf gA gV k8 k9 hcb hfb hPM hs rfl (wantedB_of rfl (yieldsB_of (b := false) rfl rfl (hs.get (i := 26) (by decide) (hw 26 (by kernel_rfl)) rfl))) nl (hw 26 (by kernel_rfl))
                      · exact mR_s29 _ gc gf gA gV k8 k9 hcb hfb hPM hs rfl (wantedB_of rfl (yieldsB_of (b := false) rfl rfl (hs.get (i := 26) (by decide) (hw 26 (by kernel_rfl)) rfl))) nl (hw 26 (by kernel_rfl))
                      · exact mR_s30 _ gc gf gA gV k8 k9 hcb hfb hPM hs rfl (wantedB_of rfl (yieldsB_of (b := false) rfl rfl (hs.get (i := 26) (by decide) (hw 26 (by kernel_rfl)) rfl))) nl (hw 26 (by kernel_rfl))
                      · exact mR_s31 _ gc gf gA gV k8 k9 hcb hfb hPM hs rfl (wantedB_of rfl (yieldsB_of (b := false) rfl rfl (hs.get (i := 26) (by decide) (hw 26 (by kernel_rfl)) rfl))) nl (hw 26 (by kernel_rfl)) (hw 27 (by kernel_rfl)) (hw 28 (by kernel_rfl)) (hw 29 (by kernel_rfl)) (hw 30 (by kernel_rfl))
                      · exact mR_s32 _ gc gf gA gV k8 k9 hcb hfb hPM hs rfl (wantedB_of rfl (yieldsB_of (b := false) rfl rfl (hs.get (i := 26) (by decide) (hw 26 (by kernel_rfl)) rfl))) nl (hw 26 (by kernel_rfl)) (hw 31 (by kernel_rfl))
                      · exact mR_s33 _ gc gf gA gV k8 k9 hcb hfb hPM hs rfl nl (hw 26 (by kernel_rfl)) (hw 32 (by kernel_rfl)))
                    ?_
                  intro ll aa W2 hall hst
                  have HJ := Lib.hid (show Below W.heap.size W W2 from hst.j)
                  obtain ⟨u84, h84⟩ : ∃ u, u = aa.eval (.tmp 84) := ⟨_, rfl⟩
                  obtain ⟨u87, h87⟩ : ∃ u, u = aa.eval (.tmp 87) := ⟨_, rfl⟩
                  obtain ⟨u93, h93⟩ : ∃ u, u = aa.eval (.tmp 93) := ⟨_, rfl⟩
                  obtain ⟨u94, h94⟩ : ∃ u, u = aa.eval (.tmp 94) := ⟨_, rfl⟩
                  obtain ⟨u101, h101⟩ : ∃ u, u = aa.eval (.tmp 101) := ⟨_, rfl⟩
                  obtain ⟨u104, h104⟩ : ∃ u, u = aa.eval (.tmp 104) := ⟨_, rfl⟩
                  obtain ⟨u111, h111⟩ : ∃ u, u = aa.eval (.tmp 111) := ⟨_, rfl⟩
                  obtain ⟨u112, h112⟩ : ∃ u, u = aa.eval (.tmp 112) := ⟨_, rfl⟩
                  refine (by assumption : ∀ (a : Act) (w : World), Code.wp _ _ _ a w → _) _ W2 ?_
                  have hfr := frame_end [(82, .agg #[.int .u8 2, .int .i64 (-7), .slice (some ⟨gA, 0, none⟩) 3 3, .int .u8 0, .int .u8 0, .int .i64 0, .string ⟨#[]⟩, .int .i64 0, .int .u8 0, .slice none 0 0]), (83, .agg #[.int .i64 3, .int .i64 (-7), .slice (some ⟨gV, 0, none⟩) 3 3]), (84, u84), (85, .agg #[.int .u8 1, .int .i64 1, .string ⟨#[]⟩]), (86, .agg #[.int .u8 0, .int .i64 0, .string ⟨#[]⟩]), (87, u87), (88, .bool true), (89, .bool false), (90, .bool false), (91, .agg #[.int .u8 2, .int .i64 (-7), .slice (some ⟨gA, 0, none⟩) 3 3, .int .u8 0, .int .u8 0, .int .i64 0, .string ⟨#[]⟩, .int .i64 0, .int .u8 0, .slice none 0 0]), (92, .agg #[.int .i64 3, .int .i64 (-7), .slice (some ⟨gV, 0, none⟩) 3 3]), (93, u93), (94, u94), (95, .bool true), (96, .bool false), (97, .bool false), (98, .bool false), (99, .agg #[.int .u8 2, .int .i64 (-7), .slice (some ⟨gA, 0, none⟩) 3 3, .int .u8 0, .int .u8 0, .int .i64 0, .string ⟨#[]⟩, .int .i64 0, .int .u8 0, .slice none 0 0]), (100, .agg #[.int .i64 3, .int .i64 (-7), .slice (some ⟨gV, 0, none⟩) 3 3]), (101, u101), (102, .agg #[.int .u8 1, .int .i64 1, .string ⟨#[]⟩]), (103, .agg #[.int .u8 1, .int .i64 1, .string ⟨#[]⟩]), (104, u104), (105, .bool true), (106, .bool false), (107, .bool false), (108, .bool false), (109, .agg #[.int .u8 2, .int .i64 (-7), .slice (some ⟨gA, 0, none⟩) 3 3, .int .u8 0, .int .u8 0, .int .i64 0, .string ⟨#[]⟩, .int .i64 0, .int .u8 0, .slice none 0 0]), (110, .agg #[.int .i64 3, .int .i64 (-7), .slice (some ⟨gV, 0, none⟩) 3 3]), (111, u111), (112, u112), (113, .bool true), (114, .bool false), (115, .bool false)] aa a0 hst.size hst.defs (by
                    intro p hp
                    simp only [List.mem_cons, List.not_mem_nil, or_false] at hp
                    rcases hp with rfl | rfl | rfl | rfl | rfl | rfl | rfl | rfl | rfl | rfl | rfl | rfl | rfl | rfl | rfl | rfl | rfl | rfl | rfl | rfl | rfl | rfl | rfl | rfl | rfl | rfl | rfl | rfl | rfl | rfl | rfl | rfl | rfl | rfl
                    · exact hst.get (i := 0) (by decide) (hall 0 (by decide)) rfl
                    · exact hst.get (i := 1) (by decide) (hall 1 (by decide)) rfl
                    · exact h84.symm
                    · exact hst.get (i := 3) (by decide) (hall 3 (by decide)) rfl
                    · exact hst.get (i := 4) (by decide) (hall 4 (by decide)) rfl
                    · exact h87.symm
                    · exact hst.get (i := 6) (by decide) (hall 6 (by decide)) rfl
                    · exact hst.get (i := 7) (by decide) (hall 7 (by decide)) rfl
                    · exact hst.get (i := 8) (by decide) (hall 8 (by decide)) rfl
                    · exact hst.get (i := 9) (by decide) (hall 9 (by decide)) rfl
                    · exact hst.get (i := 10) (by decide) (hall 10 (by decide)) rfl
                    · exact h93.symm
                    · exact h94.symm
                    · exact hst.get (i := 13) (by decide) (hall 13 (by decide)) rfl
                    · exact hst.get (i := 14) (by decide) (hall 14 (by decide)) rfl
                    · exact hst.get (i := 15) (by decide) (hall 15 (by decide)) rfl
                    · exact hst.get (i := 16) (by decide) (hall 16 (by decide)) rfl
                    · exact hst.get (i := 17) (by decide) (hall 17 (by decide)) rfl
                    · exact hst.get (i := 18) (by decide) (hall 18 (by decide)) rfl
                    · exact h101.symm
                    · exact hst.get (i := 20) (by decide) (hall 20 (by decide)) rfl
                    · exact hst.get (i := 21) (by decide) (hall 21 (by decide)) rfl
                    · exact h104.symm
                    · exact hst.get (i := 23) (by decide) (hall 23 (by decide)) rfl
                    · exact hst.get (i := 24) (by decide) (hall 24 (by decide)) rfl
                    · exact hst.get (i := 25) (by decide) (hall 25 (by decide)) rfl
                    · exact hst.get (i := 26) (by decide) (hall 26 (by decide)) rfl
                    · exact hst.get (i := 27) (by decide) (hall 27 (by decide)) rfl
                    · exact hst.get (i := 28) (by decide) (hall 28 (by decide)) rfl
                    · exact h111.symm
                    · exact h112.symm
                    · exact hst.get (i := 31) (by decide) (hall 31 (by decide)) rfl
                    · exact hst.get (i := 32) (by decide) (hall 32 (by decide)) rfl
                    · exact hst.get (i := 33) (by decide) (hall 33 (by decide)) rfl
                    ) (fun t ht => hst.kept t (fun i hi => by
                      have h : i = 0 ∨ i = 1 ∨ i = 2 ∨ i = 3 ∨ i = 4 ∨ i = 5 ∨ i = 6 ∨ i = 7 ∨ i = 8 ∨ i = 9 ∨ i = 10 ∨ i = 11 ∨ i = 12 ∨ i = 13 ∨ i = 14 ∨ i = 15 ∨ i = 16 ∨ i = 17 ∨ i = 18 ∨ i = 19 ∨ i = 20 ∨ i = 21 ∨ i = 22 ∨ i = 23 ∨ i = 24 ∨ i = 25 ∨ i = 26 ∨ i = 27 ∨ i = 28 ∨ i = 29 ∨ i = 30 ∨ i = 31 ∨ i = 32 ∨ i = 33 := by omega
                      rcases h with rfl | rfl | rfl | rfl | rfl | rfl | rfl | rfl | rfl | rfl | rfl | rfl | rfl | rfl | rfl | rfl | rfl | rfl | rfl | rfl | rfl | rfl | rfl | rfl | rfl | rfl | rfl | rfl | rfl | rfl | rfl | rfl | rfl | rfl
                      · exact fun e => ht (by have e1 := Option.some.inj e; subst e1; simp)
                      · exact fun e => ht (by have e1 := Option.some.inj e; subst e1; simp)
                      · exact fun e => ht (by have e1 := Option.some.inj e; subst e1; simp)
                      · exact fun e => ht (by have e1 := Option.some.inj e; subst e1; simp)
                      · exact fun e => ht (by have e1 := Option.some.inj e; subst e1; simp)
                      · exact fun e => ht (by have e1 := Option.some.inj e; subst e1; simp)
                      · exact fun e => ht (by have e1 := Option.some.inj e; subst e1; simp)
                      · exact fun e => ht (by have e1 := Option.some.inj e; subst e1; simp)
                      · exact fun e => ht (by have e1 := Option.some.inj e; subst e1; simp)
                      · exact fun e => ht (by have e1 := Option.some.inj e; subst e1; simp)
                      · exact fun e => ht (by have e1 := Option.some.inj e; subst e1; simp)
                      · exact fun e => ht (by have e1 := Option.some.inj e; subst e1; simp)
                      · exact fun e => ht (by have e1 := Option.some.inj e; subst e1; simp)
                      · exact fun e => ht (by have e1 := Option.some.inj e; subst e1; simp)
                      · exact fun e => ht (by have e1 := Option.some.inj e; subst e1; simp)
                      · exact fun e => ht (by have e1 := Option.some.inj e; subst e1; simp)
                      · exact fun e => ht (by have e1 := Option.some.inj e; subst e1; simp)
                      · exact fun e => ht (by have e1 := Option.some.inj e; subst e1; simp)
                      · exact fun e => ht (by have e1 := Option.some.inj e; subst e1; simp)
                      · exact fun e => ht (by have e1 := Option.some.inj e; subst e1; simp)
                      · exact fun e => ht (by have e1 := Option.some.inj e; subst e1; simp)
                      · exact fun e => ht (by have e1 := Option.some.inj e; subst e1; simp)
                      · exact fun e => ht (by have e1 := Option.some.inj e; subst e1; simp)
                      · exact fun e => ht (by have e1 := Option.some.inj e; subst e1; simp)
                      · exact fun e => ht (by have e1 := Option.some.inj e; subst e1; simp)
                      · exact fun e => ht (by have e1 := Option.some.inj e; subst e1; simp)
                      · exact fun e => ht (by have e1 := Option.some.inj e; subst e1; simp)
                      · exact fun e => ht (by have e1 := Option.some.inj e; subst e1; simp)
                      · exact fun e => ht (by have e1 := Option.some.inj e; subst e1; simp)
                      · exact fun e => ht (by have e1 := Option.some.inj e; subst e1; simp)
                      · exact fun e => ht (by have e1 := Option.some.inj e; subst e1; simp)
                      · exact fun e => ht (by have e1 := Option.some.inj e; subst e1; simp)
                      · exact fun e => ht (by have e1 := Option.some.inj e; subst e1; simp)
                      · exact fun e => ht (by have e1 := Option.some.inj e; subst e1; simp)))
                  rw [hfr, ← ha0]
                  clear hfr
                  simp only [List.foldl_cons, List.foldl_nil]
                  go_simp
                  clear h84 h87 h93 h94 h101 h104 h111 h112 hst hall k8 k9 hsz ha0 hPM hcb hfb hAW hVW
                  have HR3 : Hid (Below w4.heap.size w4 W2) := HR2.out.trans (HJ.out.mono HR2.out.size)
                  go_wp2_with fail
                  go_roundw
                  case rel => exact ⟨m0 + 1, by omega, by simp⟩
                  case measure => simp [intOf]; omega
                · obtain rfl : m0 = 25 := by omega
                  as_aux_lemma =>
                  go_wp2_with fail
                  go_roundw
                  case rel => exact ⟨j0 + 1, by omega, by go_num, HR⟩
                  case measure => simp [intOf]; omega
            · obtain rfl : j0 = 8 := by omega
              as_aux_lemma =>
              go_wp2_with fail
              go_roundw
              case rel => exact ⟨k0 + 1, by omega, by go_num, HR⟩
              case measure => simp [intOf]; omega
        · obtain rfl : k0 = 6 := by omega
          as_aux_lemma =>
          go_upto_region 22 with fail
          refine wp_region_lit ?_
          refine wpList_run rfl (.agg #[.int .u8 1, .int .i64 0, .int .u8 0, .int .i64 0, .string ⟨#[]⟩]) wr (by kernel_rfl) ?_
          go_simp
          refine wpList_bs1A rfl _ rfl rfl ?_
          obtain ⟨w6, hw6⟩ : ∃ w6, w6 = wr.alloc (.cells #[.int .u8 1, .int .i64 0, .int .u8 0, .int .i64 0, .string ⟨#[]⟩] 64) := ⟨_, rfl⟩
          have hA6 : w6.heap[wr.heap.size]? = some (.cells #[.int .u8 1, .int .i64 0, .int .u8 0, .int .i64 0, .string ⟨#[]⟩] 64 (0, 0)) := by rw [hw6]; exact heap_alloc_new wr _
          have hb6 : Below wr.heap.size wr w6 := by rw [hw6]; exact below_own _
          rw [← hw6]
          clear hw6
          generalize wr.heap.size = gA at hA6 ⊢
          go_simp
          go_wp2_with (go_at_call 21; go_must (refine (num_gr _ _).mono ?_; rintro r w7 ⟨rfl, hg⟩; have HG7 := Lib.hid hg; clear hg; refine Hid.out ?_))
          refine Lib.hid ?_
          refine (by assumption : ∀ (a : Act) (w : World), wpList _ _ _ _ a w → _) _ _ ?_
          refine wpList_bs1V rfl _ rfl rfl ?_
          obtain ⟨w8, hw8⟩ : ∃ w8, w8 = w7.alloc (.cells #[.int .u8 1, .int .i64 1, .string ⟨#[]⟩] 27) := ⟨_, rfl⟩
          have hb8 : Below w7.heap.size w7 w8 := by rw [hw8]; exact below_own _
          have HV8 : Hid (w8.heap[w7.heap.size]? = some (.cells #[.int .u8 1, .int .i64 1, .string ⟨#[]⟩] 27 (0, 0))) := by rw [hw8]; exact heap_alloc_new w7 _
          have hb78 : Below w6.heap.size w6 w8 := HG7.out.below.trans (hb8.mono HG7.out.below.size)
          have HA8 : Hid (w8.heap[gA]? = some (.cells #[.int .u8 1, .int .i64 0, .int .u8 0, .int .i64 0, .string ⟨#[]⟩] 64 (0, 0))) := (hb78.block _ (lt_of_heap hA6)).trans hA6
          have HB8 : Hid (Below w.heap.size w w8) := HW4.out.trans ((HR.out.trans ((hb6.trans (hb78.mono hb6.size)).mono HR.out.size)).mono HW4.out.size)
          rw [← hw8]
          clear hw8 hb8 hb78 HG7 hA6 hb6 HR HW4 HN4 HV4
          generalize w7.heap.size = gV at HV8 ⊢
          go_simp
          go_wp2_with fail
          go_loopw [12] (fun i wr => ∃ k : Nat, k ≤ 5 ∧ i = .int .i64 k ∧ Hid (Below w8.heap.size w8 wr)) (fun i _ => 5 - (intOf i).toNat)
          case atStart => exact ⟨0, by omega, rfl, Below.refl _ _⟩
          case round =>
            as_aux_lemma =>
            obtain ⟨q0, hq0, rfl, HR⟩ := hrel
            by_cases hq5 : q0 < 5
            · as_aux_lemma =>
              go_upto_region 27 with fail
              generalize ha0 : ({ tmps := _, defers := _ } : Act) = a0
              have k10 : a0.eval (.tmp 10) = .slice (some ⟨gA, 0, none⟩) 1 1 := by rw [← ha0]; rfl
              have k11 : a0.eval (.tmp 11) = .slice (some ⟨gV, 0, none⟩) 1 1 := by rw [← ha0]; rfl
              have k12 : a0.eval (.tmp 12) = .int .i64 (q0 : Int) := by rw [← ha0]; rfl
              have hsz : a0.tmps.size = 161 := by rw [← ha0]; rfl
              have hkw : IntKind.u8.wrap (q0 : Int) = (q0 : Int) := by rw [IntKind.wrap_u8]; omega
              have hA := (HR.out.block _ (lt_of_heap HA8.out)).trans HA8.out
              have hV := (HR.out.block _ (lt_of_heap HV8.out)).trans HV8.out
              have hP1 := fun W' (hb : Below wr.heap.size wr W') (ct : Int) => pm_free W' (q0 : Int) ct [⟨1, 0, zeroT⟩] (some ⟨gA, 0, none⟩) [numT 1] (some ⟨gV, 0, none⟩) (sl_block (n := 1) ((hb.block _ (lt_of_heap hA)).trans hA) rfl (by decide)) (sl_block (n := 1) ((hb.block _ (lt_of_heap hV)).trans hV) rfl (by decide)) (fun u hu => by simp at hu; subst hu; decide)
              have hP0 := fun W' (hb : Below wr.heap.size wr W') => pm_free W' (q0 : Int) 0 [⟨1, 0, zeroT⟩] (some ⟨gA, 0, none⟩) [] none (sl_block (n := 1) ((hb.block _ (lt_of_heap hA)).trans hA) rfl (by decide)) (sl_none W') (fun u hu => by cases hu)
              refine wp_region_stq xRD (xRF wr gA gV q0) (xRJ wr gA gV q0) 27 (by kernel_rfl) rfl (by kernel_rfl) (by rw [hsz]; kernel_rfl) (Below.refl _ _)
                (fun ll aa ww i hi hs nl hw => by
                  have h : i = 0 ∨ i = 1 ∨ i = 2 ∨ i = 3 ∨ i = 4 ∨ i = 5 ∨ i = 6 ∨ i = 7 ∨ i = 8 ∨ i = 9 ∨ i = 10 ∨ i = 11 ∨ i = 12 ∨ i = 13 ∨ i = 14 ∨ i = 15 ∨ i = 16 ∨ i = 17 ∨ i = 18 ∨ i = 19 ∨ i = 20 ∨ i = 21 ∨ i = 22 ∨ i = 23 ∨ i = 24 ∨ i = 25 ∨ i = 26 := by omega
                  rcases h with rfl | rfl | rfl | rfl | rfl | rfl | rfl | rfl | rfl | rfl | rfl | rfl | rfl | rfl | rfl | rfl | rfl | rfl | rfl | rfl | rfl | rfl | rfl | rfl | rfl | rfl | rfl
                  · exact xR_s0 _ gA gV q0 k10 k11 k12 hkw hP1 hP0 hs rfl nl 
                  · exact xR_s1 _ gA gV q0 k10 k11 k12 hkw hP1 hP0 hs rfl nl (hw 0 (by kernel_rfl))
                  · exact xR_s2 _ gA gV q0 k10 k11 k12 hkw hP1 hP0 hs rfl nl 
                  · exact xR_s3 _ gA gV q0 k10 k11 k12 hkw hP1 hP0 hs rfl nl (hw 1 (by kernel_rfl)) (hw 2 (by kernel_rfl))
                  · exact xR_s4 _ gA gV q0 k10 k11 k12 hkw hP1 hP0 hs rfl nl 
                  · exact xR_s5 _ gA gV q0 k10 k11 k12 hkw hP1 hP0 hs rfl nl (hw 4 (by kernel_rfl))
                  · exact xR_s6 _ gA gV q0 k10 k11 k12 hkw hP1 hP0 hs rfl nl (hw 3 (by kernel_rfl)) (hw 5 (by kernel_rfl))
                  · exact xR_s7 _ gA gV q0 k10 k11 k12 hkw hP1 hP0 hs rfl nl (hw 6 (by kernel_rfl))
                  · exact xR_s8 _ gA gV q0 k10 k11 k12 hkw hP1 hP0 hs rfl nl (hw 6 (by kernel_rfl)) (hw 7 (by kernel_rfl))
                  · exact xR_s9 _ gA gV q0 k10 k11 k12 hkw hP1 hP0 hs rfl (wantedB_of rfl (yieldsB_of (b := false) rfl rfl (hs.get (i := 8) (by decide) (hw 8 (by kernel_rfl)) rfl))) nl (hw 8 (by kernel_rfl))
                  · exact xR_s10 _ gA gV q0 k10 k11 k12 hkw hP1 hP0 hs rfl (wantedB_of rfl (yieldsB_of (b := false) rfl rfl (hs.get (i := 8) (by decide) (hw 8 (by kernel_rfl)) rfl))) nl (hw 8 (by kernel_rfl)) (hw 9 (by kernel_rfl))
                  · exact xR_s11 _ gA gV q0 k10 k11 k12 hkw hP1 hP0 hs rfl (wantedB_of rfl (yieldsB_of (b := false) rfl rfl (hs.get (i := 8) (by decide) (hw 8 (by kernel_rfl)) rfl))) nl (hw 8 (by kernel_rfl))
                  · exact xR_s12 _ gA gV q0 k10 k11 k12 hkw hP1 hP0 hs rfl (wantedB_of rfl (yieldsB_of (b := false) rfl rfl (hs.get (i := 8) (by decide) (hw 8 (by kernel_rfl)) rfl))) nl (hw 8 (by kernel_rfl)) (hw 10 (by kernel_rfl)) (hw 11 (by kernel_rfl))
                  · exact xR_s13 _ gA gV q0 k10 k11 k12 hkw hP1 hP0 hs rfl (wantedB_of rfl (yieldsB_of (b := false) rfl rfl (hs.get (i := 8) (by decide) (hw 8 (by kernel_rfl)) rfl))) nl (hw 8 (by kernel_rfl))
                  · exact xR_s14 _ gA gV q0 k10 k11 k12 hkw hP1 hP0 hs rfl (wantedB_of rfl (yieldsB_of (b := false) rfl rfl (hs.get (i := 8) (by decide) (hw 8 (by kernel_rfl)) rfl))) nl (hw 8 (by kernel_rfl)) (hw 12 (by kernel_rfl)) (hw 13 (by kernel_rfl))
                  · exact xR_s15 _ gA gV q0 k10 k11 k12 hkw hP1 hP0 hs rfl (wantedB_of rfl (yieldsB_of (b := false) rfl rfl (hs.get (i := 8) (by decide) (hw 8 (by kernel_rfl)) rfl))) nl (hw 8 (by kernel_rfl)) (hw 14 (by kernel_rfl))
                  · exact xR_s16 _ gA gV q0 k10 k11 k12 hkw hP1 hP0 hs rfl nl (hw 8 (by kernel_rfl)) (hw 15 (by kernel_rfl))
                  · exact xR_s17 _ gA gV q0 k10 k11 k12 hkw hP1 hP0 hs rfl nl (hw 14 (by kernel_rfl)) (hw 16 (by kernel_rfl))
                  · exact xR_s18 _ gA gV q0 k10 k11 k12 hkw hP1 hP0 hs rfl (wantedB_of rfl (yieldsB_of (b := false) rfl rfl (hs.get (i := 17) (by decide) (hw 17 (by kernel_rfl)) rfl))) nl (hw 17 (by kernel_rfl))
                  · exact xR_s19 _ gA gV q0 k10 k11 k12 hkw hP1 hP0 hs rfl (wantedB_of rfl (yieldsB_of (b := false) rfl rfl (hs.get (i := 17) (by decide) (hw 17 (by kernel_rfl)) rfl))) nl (hw 17 (by kernel_rfl)) (hw 18 (by kernel_rfl))
                  · exact xR_s20 _ gA gV q0 k10 k11 k12 hkw hP1 hP0 hs rfl (wantedB_of rfl (yieldsB_of (b := false) rfl rfl (hs.get (i := 17) (by decide) (hw 17 (by kernel_rfl)) rfl))) nl (hw 17 (by kernel_rfl))
                  · exact xR_s21 _ gA gV q0 k10 k11 k12 hkw hP1 hP0 hs rfl (wantedB_of rfl (yieldsB_of (b := false) rfl rfl (hs.get (i := 17) (by decide) (hw 17 (by kernel_rfl)) rfl))) nl (hw 17 (by kernel_rfl)) (hw 19 (by kernel_rfl)) (hw 20 (by kernel_rfl))
                  · exact xR_s22 _ gA gV q0 k10 k11 k12 hkw hP1 hP0 hs rfl (wantedB_of rfl (yieldsB_of (b := false) rfl rfl (hs.get (i := 17) (by decide) (hw 17 (by kernel_rfl)) rfl))) nl (hw 17 (by kernel_rfl))
                  · exact xR_s23 _ gA gV q0 k10 k11 k12 hkw hP1 hP0 hs rfl (wantedB_of rfl (yieldsB_of (b := false) rfl rfl (hs.get (i := 17) (by decide) (hw 17 (by kernel_rfl)) rfl))) nl (hw 17 (by kernel_rfl)) (hw 22 (by kernel_rfl))
                  · exact xR_s24 _ gA gV q0 k10 k11 k12 hkw hP1 hP0 hs rfl (wantedB_of rfl (yieldsB_of (b := false) rfl rfl (hs.get (i := 17) (by decide) (hw 17 (by kernel_rfl)) rfl))) nl (hw 17 (by kernel_rfl)) (hw 21 (by kernel_rfl)) (hw 23 (by kernel_rfl))
                  · exact xR_s25 _ gA gV q0 k10 k11 k12 hkw hP1 hP0 hs rfl (wantedB_of rfl (yieldsB_of (b := false) rfl rfl (hs.get (i := 17) (by decide) (hw 17 (by kernel_rfl)) rfl))) nl (hw 17 (by kernel_rfl)) (hw 24 (by kernel_rfl))
                  · exact xR_s26 _ gA gV q0 k10 k11 k12 hkw hP1 hP0 hs rfl nl (hw 17 (by kernel_rfl)) (hw 25 (by kernel_rfl)))
                ?_
              intro ll aa W hall hst
              have HJ := Lib.hid (show Below wr.heap.size wr W from hst.j)
              refine (by assumption : ∀ (a : Act) (w : World), Code.wp _ _ _ a w → _) _ W ?_
              clear hkw
              have hfr := frame_end [(124, .int .i64 (q0 : Int)), (125, .int .u8 (q0 : Int)), (126, .slice (some ⟨gA, 0, none⟩) 1 1), (127, .agg #[.int .u8 (q0 : Int), .int .i64 0, .slice (some ⟨gA, 0, none⟩) 1 1, .int .u8 0, .int .u8 0, .int .i64 0, .string ⟨#[]⟩, .int .i64 0, .int .u8 0, .slice none 0 0]), (128, .slice (some ⟨gV, 0, none⟩) 1 1), (129, .agg #[.int .i64 0, .int .i64 0, .slice (some ⟨gV, 0, none⟩) 1 1]), (130, .bool true), (131, .bool false), (132, .bool false), (133, .int .i64 (q0 : Int)), (134, .int .u8 (q0 : Int)), (135, .slice (some ⟨gA, 0, none⟩) 1 1), (136, .agg #[.int .u8 (q0 : Int), .int .i64 0, .slice (some ⟨gA, 0, none⟩) 1 1, .int .u8 0, .int .u8 0, .int .i64 0, .string ⟨#[]⟩, .int .i64 0, .int .u8 0, .slice none 0 0]), (137, .agg #[.int .i64 0, .int .i64 0, .slice none 0 0]), (138, .bool true), (139, .bool false), (140, .bool false), (141, .bool false), (142, .int .i64 (q0 : Int)), (143, .int .u8 (q0 : Int)), (144, .slice (some ⟨gA, 0, none⟩) 1 1), (145, .agg #[.int .u8 (q0 : Int), .int .i64 1, .slice (some ⟨gA, 0, none⟩) 1 1, .int .u8 0, .int .u8 0, .int .i64 0, .string ⟨#[]⟩, .int .i64 0, .int .u8 0, .slice none 0 0]), (146, .slice (some ⟨gV, 0, none⟩) 1 1), (147, .agg #[.int .i64 0, .int .i64 0, .slice (some ⟨gV, 0, none⟩) 1 1]), (148, .bool true), (149, .bool false), (150, .bool false)] aa a0 hst.size hst.defs (by
                intro p hp
                simp only [List.mem_cons, List.not_mem_nil, or_false] at hp
                rcases hp with rfl | rfl | rfl | rfl | rfl | rfl | rfl | rfl | rfl | rfl | rfl | rfl | rfl | rfl | rfl | rfl | rfl | rfl | rfl | rfl | rfl | rfl | rfl | rfl | rfl | rfl | rfl
                · exact hst.get (i := 0) (by decide) (hall 0 (by decide)) rfl
                · exact hst.get (i := 1) (by decide) (hall 1 (by decide)) rfl
                · exact hst.get (i := 2) (by decide) (hall 2 (by decide)) rfl
                · exact hst.get (i := 3) (by decide) (hall 3 (by decide)) rfl
                · exact hst.get (i := 4) (by decide) (hall 4 (by decide)) rfl
                · exact hst.get (i := 5) (by decide) (hall 5 (by decide)) rfl
                · exact hst.get (i := 6) (by decide) (hall 6 (by decide)) rfl
                · exact hst.get (i := 7) (by decide) (hall 7 (by decide)) rfl
                · exact hst.get (i := 8) (by decide) (hall 8 (by decide)) rfl
                · exact hst.get (i := 9) (by decide) (hall 9 (by decide)) rfl
                · exact hst.get (i := 10) (by decide) (hall 10 (by decide)) rfl
                · exact hst.get (i := 11) (by decide) (hall 11 (by decide)) rfl
                · exact hst.get (i := 12) (by decide) (hall 12 (by decide)) rfl
                · exact hst.get (i := 13) (by decide) (hall 13 (by decide)) rfl
                · exact hst.get (i := 14) (by decide) (hall 14 (by decide)) rfl
                · exact hst.get (i := 15) (by decide) (hall 15 (by decide)) rfl
                · exact hst.get (i := 16) (by decide) (hall 16 (by decide)) rfl
                · exact hst.get (i := 17) (by decide) (hall 17 (by decide)) rfl
                · exact hst.get (i := 18) (by decide) (hall 18 (by decide)) rfl
                · exact hst.get (i := 19) (by decide) (hall 19 (by decide)) rfl
                · exact hst.get (i := 20) (by decide) (hall 20 (by decide)) rfl
                · exact hst.get (i := 21) (by decide) (hall 21 (by decide)) rfl
                · exact hst.get (i := 22) (by decide) (hall 22 (by decide)) rfl
                · exact hst.get (i := 23) (by decide) (hall 23 (by decide)) rfl
                · exact hst.get (i := 24) (by decide) (hall 24 (by decide)) rfl
                · exact hst.get (i := 25) (by decide) (hall 25 (by decide)) rfl
                · exact hst.get (i := 26) (by decide) (hall 26 (by decide)) rfl
                ) (fun t ht => hst.kept t (fun i hi => by
                  have h : i = 0 ∨ i = 1 ∨ i = 2 ∨ i = 3 ∨ i = 4 ∨ i = 5 ∨ i = 6 ∨ i = 7 ∨ i = 8 ∨ i = 9 ∨ i = 10 ∨ i = 11 ∨ i = 12 ∨ i = 13 ∨ i = 14 ∨ i = 15 ∨ i = 16 ∨ i = 17 ∨ i = 18 ∨ i = 19 ∨ i = 20 ∨ i = 21 ∨ i = 22 ∨ i = 23 ∨ i = 24 ∨ i = 25 ∨ i = 26 := by omega
                  rcases h with rfl | rfl | rfl | rfl | rfl | rfl | rfl | rfl | rfl | rfl | rfl | rfl | rfl | rfl | rfl | rfl | rfl | rfl | rfl | rfl | rfl | rfl | rfl | rfl | rfl | rfl | rfl
                  · exact fun e => ht (by have e1 := Option.some.inj e; subst e1; simp)
                  · exact fun e => ht (by have e1 := Option.some.inj e; subst e1; simp)
                  · exact fun e => ht (by have e1 := Option.some.inj e; subst e1; simp)
                  · exact fun e => ht (by have e1 := Option.some.inj e; subst e1; simp)
                  · exact fun e => ht (by have e1 := Option.some.inj e; subst e1; simp)
                  · exact fun e => ht (by have e1 := Option.some.inj e; subst e1; simp)
                  · exact fun e => ht (by have e1 := Option.some.inj e; subst e1; simp)
                  · exact fun e => ht (by have e1 := Option.some.inj e; subst e1; simp)
                  · exact fun e => ht (by have e1 := Option.some.inj e; subst e1; simp)
                  · exact fun e => ht (by have e1 := Option.some.inj e; subst e1; simp)
                  · exact fun e => ht (by have e1 := Option.some.inj e; subst e1; simp)
                  · exact fun e => ht (by have e1 := Option.some.inj e; subst e1; simp)
                  · exact fun e => ht (by have e1 := Option.some.inj e; subst e1; simp)
                  · exact fun e => ht (by have e1 := Option.some.inj e; subst e1; simp)
                  · exact fun e => ht (by have e1 := Option.some.inj e; subst e1; simp)
                  · exact fun e => ht (by have e1 := Option.some.inj e; subst e1; simp)
                  · exact fun e => ht (by have e1 := Option.some.inj e; subst e1; simp)
                  · exact fun e => ht (by have e1 := Option.some.inj e; subst e1; simp)
                  · exact fun e => ht (by have e1 := Option.some.inj e; subst e1; simp)
                  · exact fun e => ht (by have e1 := Option.some.inj e; subst e1; simp)
                  · exact fun e => ht (by have e1 := Option.some.inj e; subst e1; simp)
                  · exact fun e => ht (by have e1 := Option.some.inj e; subst e1; simp)
                  · exact fun e => ht (by have e1 := Option.some.inj e; subst e1; simp)
                  · exact fun e => ht (by have e1 := Option.some.inj e; subst e1; simp)
                  · exact fun e => ht (by have e1 := Option.some.inj e; subst e1; simp)
                  · exact fun e => ht (by have e1 := Option.some.inj e; subst e1; simp)
                  · exact fun e => ht (by have e1 := Option.some.inj e; subst e1; simp)))
              rw [hfr, ← ha0]
              clear hfr
              simp only [List.foldl_cons, List.foldl_nil]
              go_simp
              clear hst hall k10 k11 k12 hsz ha0 hP1 hP0 hA hV
              have HR2 : Hid (Below w8.heap.size w8 W) := HR.out.trans (HJ.out.mono HR.out.size)
              go_wp2_with fail
              go_roundw
              case rel => first | exact ⟨q0 + 1, by omega, by simp, HR2⟩ | exact ⟨q0 + 1, by omega, by simp⟩
              case measure => simp [intOf]; omega
            · obtain rfl : q0 = 5 := by omega
              as_aux_lemma =>
              go_upto_region 29 with fail
              generalize ha0 : ({ tmps := _, defers := _ } : Act) = a0
              have hsz : a0.tmps.size = 161 := by rw [← ha0]; rfl
              have hP2 := fun W' (hb : Below wr.heap.size wr W') => pm_free W' 1 0 [] none [] none (sl_none W') (sl_none W') (fun u hu => by cases hu)
              have hPS := fun W' (hb : Below wr.heap.size wr W') => patternSome_any (w := W') (c := ⟨2, 0, [], noX⟩) (ao := none) (ac := 0) (xo := none) (xc := 0) (e := ([], [])) (ho := none) (hc := 0) (vo := none) (vc := 0) [] none 0 (sl_none W') ⟨sl_none W', sl_none W'⟩ (facts_none W')
              refine wp_region_stq yRD (yRF wr) (yRJ wr) 11 (by kernel_rfl) rfl (by kernel_rfl) (by rw [hsz]; kernel_rfl) (Below.refl _ _)
                (fun ll aa ww i hi hs nl hw => by
                  have h : i = 0 ∨ i = 1 ∨ i = 2 ∨ i = 3 ∨ i = 4 ∨ i = 5 ∨ i = 6 ∨ i = 7 ∨ i = 8 ∨ i = 9 ∨ i = 10 := by omega
                  rcases h with rfl | rfl | rfl | rfl | rfl | rfl | rfl | rfl | rfl | rfl | rfl
                  · exact yR_s0 _ hP2 hPS hs rfl nl 
                  · exact yR_s1 _ hP2 hPS hs rfl nl 
                  · exact yR_s2 _ hP2 hPS hs rfl nl (hw 0 (by kernel_rfl)) (hw 1 (by kernel_rfl))
                  · exact yR_s3 _ hP2 hPS hs rfl nl (hw 2 (by kernel_rfl))
                  · exact yR_s4 _ hP2 hPS hs rfl (wantedB_of rfl (yieldsB_of (b := true) rfl rfl (hs.get (i := 3) (by decide) (hw 3 (by kernel_rfl)) rfl))) nl (hw 3 (by kernel_rfl))
                  · exact yR_s5 _ hP2 hPS hs rfl (wantedB_of rfl (yieldsB_of (b := true) rfl rfl (hs.get (i := 3) (by decide) (hw 3 (by kernel_rfl)) rfl))) nl (hw 3 (by kernel_rfl)) (hw 4 (by kernel_rfl))
                  · exact yR_s6 _ hP2 hPS hs rfl nl (hw 3 (by kernel_rfl)) (hw 5 (by kernel_rfl))
                  · exact yR_s7 _ hP2 hPS hs rfl nl (hw 5 (by kernel_rfl)) (hw 6 (by kernel_rfl))
                  · exact yR_s8 _ hP2 hPS hs rfl (wantedB_of rfl (yieldsB_of (b := true) rfl rfl (hs.get (i := 7) (by decide) (hw 7 (by kernel_rfl)) rfl))) nl (hw 7 (by kernel_rfl))
                  · exact yR_s9 _ hP2 hPS hs rfl nl (hw 7 (by kernel_rfl)) (hw 8 (by kernel_rfl))
                  · exact yR_s10 _ hP2 hPS hs rfl nl (hw 0 (by kernel_rfl)) (hw 1 (by kernel_rfl)) (hw 2 (by kernel_rfl)) (hw 3 (by kernel_rfl)) (hw 4 (by kernel_rfl)) (hw 5 (by kernel_rfl)) (hw 6 (by kernel_rfl)) (hw 7 (by kernel_rfl)) (hw 8 (by kernel_rfl)) (hw 9 (by kernel_rfl)))
                ?_
              intro ll aa W hall hst
              have HJ := Lib.hid (show Below wr.heap.size wr W from hst.j)
              refine (by assumption : ∀ (a : Act) (w : World), Code.wp _ _ _ a w → _) _ W ?_
              have hfr := frame_end [(151, .agg #[.int .u8 1, .int .i64 0, .slice none 0 0, .int .u8 0, .int .u8 0, .int .i64 0, .string ⟨#[]⟩, .int .i64 0, .int .u8 0, .slice none 0 0]), (152, .agg #[.int .i64 0, .int .i64 0, .slice none 0 0]), (153, .bool true), (154, .bool true), (155, .agg #[.int .u8 2, .int .i64 0, .slice none 0 0, .int .u8 0, .int .u8 0, .int .i64 0, .string ⟨#[]⟩, .int .i64 0, .int .u8 0, .slice none 0 0]), (156, .bool true), (157, .bool true), (158, .bool true), (159, .bool true), (160, .bool true), (0, .bool true)] aa a0 hst.size hst.defs (by
                intro p hp
                simp only [List.mem_cons, List.not_mem_nil, or_false] at hp
                rcases hp with rfl | rfl | rfl | rfl | rfl | rfl | rfl | rfl | rfl | rfl | rfl
                · exact hst.get (i := 0) (by decide) (hall 0 (by decide)) rfl
                · exact hst.get (i := 1) (by decide) (hall 1 (by decide)) rfl
                · exact hst.get (i := 2) (by decide) (hall 2 (by decide)) rfl
                · exact hst.get (i := 3) (by decide) (hall 3 (by decide)) rfl
                · exact hst.get (i := 4) (by decide) (hall 4 (by decide)) rfl
                · exact hst.get (i := 5) (by decide) (hall 5 (by decide)) rfl
                · exact hst.get (i := 6) (by decide) (hall 6 (by decide)) rfl
                · exact hst.get (i := 7) (by decide) (hall 7 (by decide)) rfl
                · exact hst.get (i := 8) (by decide) (hall 8 (by decide)) rfl
                · exact hst.get (i := 9) (by decide) (hall 9 (by decide)) rfl
                · exact hst.get (i := 10) (by decide) (hall 10 (by decide)) rfl
                ) (fun t ht => hst.kept t (fun i hi => by
                  have h : i = 0 ∨ i = 1 ∨ i = 2 ∨ i = 3 ∨ i = 4 ∨ i = 5 ∨ i = 6 ∨ i = 7 ∨ i = 8 ∨ i = 9 ∨ i = 10 := by omega
                  rcases h with rfl | rfl | rfl | rfl | rfl | rfl | rfl | rfl | rfl | rfl | rfl
                  · exact fun e => ht (by have e1 := Option.some.inj e; subst e1; simp)
                  · exact fun e => ht (by have e1 := Option.some.inj e; subst e1; simp)
                  · exact fun e => ht (by have e1 := Option.some.inj e; subst e1; simp)
                  · exact fun e => ht (by have e1 := Option.some.inj e; subst e1; simp)
                  · exact fun e => ht (by have e1 := Option.some.inj e; subst e1; simp)
                  · exact fun e => ht (by have e1 := Option.some.inj e; subst e1; simp)
                  · exact fun e => ht (by have e1 := Option.some.inj e; subst e1; simp)
                  · exact fun e => ht (by have e1 := Option.some.inj e; subst e1; simp)
                  · exact fun e => ht (by have e1 := Option.some.inj e; subst e1; simp)
                  · exact fun e => ht (by have e1 := Option.some.inj e; subst e1; simp)
                  · exact fun e => ht (by have e1 := Option.some.inj e; subst e1; simp)))
              rw [hfr, ← ha0]
              clear hfr
              simp only [List.foldl_cons, List.foldl_nil]
              go_simp
              clear hst hall hsz ha0 hP2 hPS
              have HE : Hid (Below w.heap.size w W) := HB8.out.trans ((HR.out.trans (HJ.out.mono HR.out.size)).mono HB8.out.size)
              go_wp2_with fail
              go_ret
              exact ⟨rfl, HE.out⟩

end Go.Proofs.YtnnhgbncghpecaaGreat
