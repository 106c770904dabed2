/- The chapter's examples: awake answers yes. -/
import Derived.Test.YtlkmabnjmklkpaaDoorAwB14
import Derived.Test.YtlkmabnjmklkpaaDoorOf14
namespace Go.Proofs.YtlkmabnjmklkpaaDoor
open Go.RowKit
set_option maxRecDepth 100000

abbrev wTk (w : World) (k a : Int) : World := (w.alloc (.cells #[.int .i64 a] 3)).alloc (.cells #[.int .i64 k, .slice (some ⟨w.heap.size, 0, none⟩) 1 1] 24)
abbrev wTk2 (w : World) (k1 a1 k2 a2 : Int) : World := ((wTk w k1 a1).alloc (.cells #[.int .i64 a2] 3)).alloc (.cells #[.int .i64 k2, .slice (some ⟨w.heap.size + 1 + 1, 0, none⟩) 1 1] 24)
abbrev wRow1 (w : World) (k a : Int) : World := (wTk w k a).alloc (.cells #[.int .i64 k, .slice (some ⟨w.heap.size, 0, none⟩) 1 1] 24)
abbrev wRow2 (w : World) (k1 a1 k2 a2 : Int) : World := (wTk2 w k1 a1 k2 a2).alloc (.cells #[.int .i64 k1, .slice (some ⟨w.heap.size, 0, none⟩) 1 1, .int .i64 k2, .slice (some ⟨w.heap.size + 1 + 1, 0, none⟩) 1 1] 24)
theorem lit0 (w : World) (k a : Int) : SlG (wTk w k a).heap.size (wTk w k a) (some ⟨w.heap.size, 0, none⟩) (icells [a]) ∧ Below w.heap.size w (wTk w k a) :=
  ⟨(lits_at [a] w).up (below_own _) (below_own _).size, below_two _ _ _⟩
theorem lit2 (w : World) (k1 a1 k2 a2 : Int) : SlG (wTk2 w k1 a1 k2 a2).heap.size (wTk2 w k1 a1 k2 a2) (some ⟨w.heap.size, 0, none⟩) (icells [a1]) ∧ SlG (wTk2 w k1 a1 k2 a2).heap.size (wTk2 w k1 a1 k2 a2) (some ⟨w.heap.size + 1 + 1, 0, none⟩) (icells [a2]) ∧ Below w.heap.size w (wTk2 w k1 a1 k2 a2) := by
  have h1 := lit0 w k1 a1
  have h2 : SlG (wTk2 w k1 a1 k2 a2).heap.size (wTk2 w k1 a1 k2 a2) (some ⟨(wTk w k1 a1).heap.size, 0, none⟩) (icells [a2]) := (lits_at [a2] (wTk w k1 a1)).up (below_own _) (below_own _).size
  rw [show (wTk w k1 a1).heap.size = w.heap.size + 1 + 1 by simp] at h2
  exact ⟨h1.1.up (below_two _ _ _) (below_two _ _ _).size, h2, h1.2.trans ((below_two _ _ _).mono h1.2.size)⟩
theorem lits1 (w : World) (k a : Int) : SlTkC (wRow1 w k a).heap.size (wRow1 w k a) (some ⟨w.heap.size + 1 + 1, 0, none⟩) [(k, [a])] ∧ Below w.heap.size w (wRow1 w k a) := by
  have h1 := lit0 w k a
  refine ⟨⟨[((k, [a]), .slice (some ⟨w.heap.size, 0, none⟩) 1 1)], rfl, fun _ => ⟨w.heap.size + 1 + 1, 0, rfl, by simp, fun j u hu => ?_⟩, fun p hp => ?_⟩, below_new h1.2 _⟩
  · rw [Nat.zero_add]
    have := cells_made (wTk w k a) #[.int .i64 k, .slice (some ⟨w.heap.size, 0, none⟩) 1 1] 24 j u (by simpa [cellsTk] using hu)
    rwa [show (wTk w k a).heap.size = w.heap.size + 1 + 1 by simp] at this
  · obtain rfl := List.mem_singleton.1 hp
    exact ⟨_, 1, rfl, h1.1.up (below_own _) (below_own _).size, (fun e => by cases e), Nat.le_refl _⟩
theorem lits2 (w : World) (k1 a1 k2 a2 : Int) : SlTkC (wRow2 w k1 a1 k2 a2).heap.size (wRow2 w k1 a1 k2 a2) (some ⟨w.heap.size + 1 + 1 + 1 + 1, 0, none⟩) [(k1, [a1]), (k2, [a2])] ∧ Below w.heap.size w (wRow2 w k1 a1 k2 a2) := by
  have h1 := lit2 w k1 a1 k2 a2
  refine ⟨⟨[((k1, [a1]), .slice (some ⟨w.heap.size, 0, none⟩) 1 1), ((k2, [a2]), .slice (some ⟨w.heap.size + 1 + 1, 0, none⟩) 1 1)], rfl, fun _ => ⟨w.heap.size + 1 + 1 + 1 + 1, 0, rfl, by simp, fun j u hu => ?_⟩, fun p hp => ?_⟩, below_new h1.2.2 _⟩
  · rw [Nat.zero_add]
    have := cells_made (wTk2 w k1 a1 k2 a2) #[.int .i64 k1, .slice (some ⟨w.heap.size, 0, none⟩) 1 1, .int .i64 k2, .slice (some ⟨w.heap.size + 1 + 1, 0, none⟩) 1 1] 24 j u (by simpa [cellsTk] using hu)
    rwa [show (wTk2 w k1 a1 k2 a2).heap.size = w.heap.size + 1 + 1 + 1 + 1 by simp] at this
  · simp only [List.mem_cons, List.not_mem_nil, or_false] at hp
    rcases hp with rfl | rfl
    · exact ⟨_, 1, rfl, h1.1.up (below_own _) (below_own _).size, (fun e => by cases e), Nat.le_refl _⟩
    · exact ⟨_, 1, rfl, h1.2.1.up (below_own _) (below_own _).size, (fun e => by cases e), Nat.le_refl _⟩

set_option maxHeartbeats 16000000 in
theorem awake_tells : AwakeTells := by
  intro w ht
  have mixed : Tryd.prog.follows .mixedOrders = true := by kernel_rfl
  have HT := Lib.hid ht
  have HB0 := Lib.hid (below_own (w := w) (.cells #[.int .i64 0, .int .i64 5] 3))
  have KO := Lib.hid (of_any [0, 5] (some ⟨w.heap.size, 0, none⟩) 2 (by decide) _ (lits_at [0, 5] w))
  clear ht
  go_enter Tryd.func5, Tryd.ntmps5
  go_wp2_with (go_at_call 12; refine KO.out.mono ?_; rintro e w1 ⟨v, rfl, ho, hb⟩; obtain ⟨ro, rc, rfl⟩ := owns_slice ho; have HO := Lib.hid ho; have HB1 := Lib.hid hb; clear ho hb; dsimp only [List.length_cons, List.length_nil, Nat.zero_add, Nat.reduceAdd])
  obtain ⟨hcap, hnone⟩ := owns_cap HO.out
  have HSl := Lib.hid (owns_slG HO.out)
  have HBw : Hid (Below w.heap.size w w1) := HB0.out.trans (HB1.out.mono HB0.out.size)
  have HQ : Hid ((w1.alloc (.cells #[.slice none 0 0, .slice ro 2 rc] 44)).heap[w1.heap.size]? = some (.cells #[.slice none 0 0, .slice ro 2 rc] 44 (0, 0))) := heap_alloc_new w1 _
  have HBb : Hid (Below w1.heap.size w1 (w1.alloc (.cells #[.slice none 0 0, .slice ro 2 rc] 44))) := below_own _
  clear HO HB1 HB0 KO
  generalize (w1.alloc (.cells #[.slice none 0 0, .slice ro 2 rc] 44)) = W1 at HQ HBb ⊢
  generalize ha0 : ({ tmps := _, defers := _ } : Act) = a0
  have e_1 : a0.eval (.tmp 1) = .pointer (some ⟨w1.heap.size, 0, none⟩) := by rw [← ha0]; rfl
  have hsz : a0.tmps.size = 139 := by rw [← ha0]; rfl
  have hm : ∀ Z, Below W1.heap.size W1 Z → Z.heap[w1.heap.size]? = some (.cells #[.slice none 0 0, .slice ro 2 rc] 44 (0, 0)) := fun Z hZ => (hZ.block _ (lt_of_heap HQ.out)).trans HQ.out
  have hup : ∀ Z, Below W1.heap.size W1 Z → Below w1.heap.size w1 Z := fun Z hZ => HBb.out.trans (hZ.mono HBb.out.size)
  have hBt : ∀ (x y : TK) (ao1 ao2 : Option Addr) (c1 c2 : Nat) (Z : World), Below W1.heap.size W1 Z → x.2.length ≤ 1000000 → y.2.length ≤ 1000000 → SlG Z.heap.size Z ao1 (icells x.2) → SlG Z.heap.size Z ao2 (icells y.2) → (ao1 = none → c1 = 0) → (ao2 = none → c2 = 0) → x.2.length ≤ c1 → y.2.length ≤ c2 → better14 [0, 5] x y = true → Calls Tryd.prog 13 #[.agg #[.slice none 0 0, .slice ro 2 rc], aggK x.1 ao1 x.2.length c1, aggK y.1 ao2 y.2.length c2] Z (SaysP true Z) := fun x y ao1 ao2 c1 c2 Z hZ l1 l2 h1 h2 n1 n2 k1 k2 hb => by
    have := better_tells [0, 5] x y ro ao1 ao2 rc c1 c2 Z (by decide) l1 l2 (HSl.out.up (hup Z hZ) (hup Z hZ).size) h1 h2 hnone n1 n2 hcap k1 k2
    rwa [hb] at this
  refine wp_region_st awD (awF W1 w1.heap.size ro rc) (awJ W1 w1.heap.size ro rc) 34 mixed (by kernel_rfl) rfl (by kernel_rfl) (by rw [hsz]; kernel_rfl) (below_drew (Below.refl _ _))
      (fun ll aa ww i hi hs nl hw => by
        have h : i = 0 ∨ i = 1 ∨ i = 2 ∨ i = 3 ∨ i = 4 ∨ i = 5 ∨ i = 6 ∨ i = 7 ∨ i = 8 ∨ i = 9 ∨ i = 10 ∨ i = 11 ∨ i = 12 ∨ i = 13 ∨ i = 14 ∨ i = 15 ∨ i = 16 ∨ i = 17 ∨ i = 18 ∨ i = 19 ∨ i = 20 ∨ i = 21 ∨ i = 22 ∨ i = 23 ∨ i = 24 ∨ i = 25 ∨ i = 26 ∨ i = 27 ∨ i = 28 ∨ i = 29 ∨ i = 30 ∨ i = 31 ∨ i = 32 ∨ i = 33 := by omega
        rcases h with rfl | rfl | rfl | rfl | rfl | rfl | rfl | rfl | rfl | rfl | rfl | rfl | rfl | rfl | rfl | rfl | rfl | rfl | rfl | rfl | rfl | rfl | rfl | rfl | rfl | rfl | rfl | rfl | rfl | rfl | rfl | rfl | rfl | rfl
        · exact aw_s0 _ w1.heap.size ro rc e_1 hm hBt hs rfl nl 
        · exact aw_s1 _ w1.heap.size ro rc e_1 hm hBt hs rfl nl 
        · exact aw_s2 _ w1.heap.size ro rc e_1 hm hBt hs rfl nl (hw 1 (by kernel_rfl))
        · exact aw_s3 _ w1.heap.size ro rc e_1 hm hBt hs rfl nl 
        · exact aw_s4 _ w1.heap.size ro rc e_1 hm hBt hs rfl nl (hw 2 (by kernel_rfl)) (hw 3 (by kernel_rfl))
        · exact aw_s5 _ w1.heap.size ro rc e_1 hm hBt hs rfl nl (hw 0 (by kernel_rfl)) (hw 2 (by kernel_rfl)) (hw 4 (by kernel_rfl))
        · exact aw_s6 _ w1.heap.size ro rc e_1 hm hBt hs rfl nl (hw 5 (by kernel_rfl))
        · exact aw_s7 _ w1.heap.size ro rc e_1 hm hBt hs rfl nl (hw 5 (by kernel_rfl)) (hw 6 (by kernel_rfl))
        · exact aw_s8 _ w1.heap.size ro rc e_1 hm hBt hs rfl (wantedB_of rfl (yieldsB_of (b := false) rfl rfl (hs.get (i := 7) (by decide) (hw 7 (by kernel_rfl)) rfl))) nl (hw 7 (by kernel_rfl))
        · exact aw_s9 _ w1.heap.size ro rc e_1 hm hBt hs rfl (wantedB_of rfl (yieldsB_of (b := false) rfl rfl (hs.get (i := 7) (by decide) (hw 7 (by kernel_rfl)) rfl))) nl (hw 7 (by kernel_rfl))
        · exact aw_s10 _ w1.heap.size ro rc e_1 hm hBt hs rfl (wantedB_of rfl (yieldsB_of (b := false) rfl rfl (hs.get (i := 7) (by decide) (hw 7 (by kernel_rfl)) rfl))) nl (hw 7 (by kernel_rfl)) (hw 9 (by kernel_rfl))
        · exact aw_s11 _ w1.heap.size ro rc e_1 hm hBt hs rfl (wantedB_of rfl (yieldsB_of (b := false) rfl rfl (hs.get (i := 7) (by decide) (hw 7 (by kernel_rfl)) rfl))) nl (hw 7 (by kernel_rfl))
        · exact aw_s12 _ w1.heap.size ro rc e_1 hm hBt hs rfl (wantedB_of rfl (yieldsB_of (b := false) rfl rfl (hs.get (i := 7) (by decide) (hw 7 (by kernel_rfl)) rfl))) nl (hw 7 (by kernel_rfl)) (hw 10 (by kernel_rfl)) (hw 11 (by kernel_rfl))
        · exact aw_s13 _ w1.heap.size ro rc e_1 hm hBt hs rfl (wantedB_of rfl (yieldsB_of (b := false) rfl rfl (hs.get (i := 7) (by decide) (hw 7 (by kernel_rfl)) rfl))) nl (hw 7 (by kernel_rfl)) (hw 8 (by kernel_rfl)) (hw 10 (by kernel_rfl)) (hw 12 (by kernel_rfl))
        · exact aw_s14 _ w1.heap.size ro rc e_1 hm hBt hs rfl (wantedB_of rfl (yieldsB_of (b := false) rfl rfl (hs.get (i := 7) (by decide) (hw 7 (by kernel_rfl)) rfl))) nl (hw 7 (by kernel_rfl)) (hw 13 (by kernel_rfl))
        · exact aw_s15 _ w1.heap.size ro rc e_1 hm hBt hs rfl nl (hw 7 (by kernel_rfl)) (hw 14 (by kernel_rfl))
        · exact aw_s16 _ w1.heap.size ro rc e_1 hm hBt hs rfl nl (hw 13 (by kernel_rfl)) (hw 15 (by kernel_rfl))
        · exact aw_s17 _ w1.heap.size ro rc e_1 hm hBt hs rfl (wantedB_of rfl (yieldsB_of (b := false) rfl rfl (hs.get (i := 16) (by decide) (hw 16 (by kernel_rfl)) rfl))) nl (hw 16 (by kernel_rfl))
        · exact aw_s18 _ w1.heap.size ro rc e_1 hm hBt hs rfl (wantedB_of rfl (yieldsB_of (b := false) rfl rfl (hs.get (i := 16) (by decide) (hw 16 (by kernel_rfl)) rfl))) nl (hw 16 (by kernel_rfl))
        · exact aw_s19 _ w1.heap.size ro rc e_1 hm hBt hs rfl (wantedB_of rfl (yieldsB_of (b := false) rfl rfl (hs.get (i := 16) (by decide) (hw 16 (by kernel_rfl)) rfl))) nl (hw 16 (by kernel_rfl)) (hw 18 (by kernel_rfl))
        · exact aw_s20 _ w1.heap.size ro rc e_1 hm hBt hs rfl (wantedB_of rfl (yieldsB_of (b := false) rfl rfl (hs.get (i := 16) (by decide) (hw 16 (by kernel_rfl)) rfl))) nl (hw 16 (by kernel_rfl))
        · exact aw_s21 _ w1.heap.size ro rc e_1 hm hBt hs rfl (wantedB_of rfl (yieldsB_of (b := false) rfl rfl (hs.get (i := 16) (by decide) (hw 16 (by kernel_rfl)) rfl))) nl (hw 16 (by kernel_rfl)) (hw 19 (by kernel_rfl)) (hw 20 (by kernel_rfl))
        · exact aw_s22 _ w1.heap.size ro rc e_1 hm hBt hs rfl (wantedB_of rfl (yieldsB_of (b := false) rfl rfl (hs.get (i := 16) (by decide) (hw 16 (by kernel_rfl)) rfl))) nl (hw 16 (by kernel_rfl)) (hw 17 (by kernel_rfl)) (hw 19 (by kernel_rfl)) (hw 21 (by kernel_rfl))
        · exact aw_s23 _ w1.heap.size ro rc e_1 hm hBt hs rfl (wantedB_of rfl (yieldsB_of (b := false) rfl rfl (hs.get (i := 16) (by decide) (hw 16 (by kernel_rfl)) rfl))) nl (hw 16 (by kernel_rfl)) (hw 22 (by kernel_rfl))
        · exact aw_s24 _ w1.heap.size ro rc e_1 hm hBt hs rfl nl (hw 16 (by kernel_rfl)) (hw 23 (by kernel_rfl))
        · exact aw_s25 _ w1.heap.size ro rc e_1 hm hBt hs rfl nl (hw 22 (by kernel_rfl)) (hw 24 (by kernel_rfl))
        · exact aw_s26 _ w1.heap.size ro rc e_1 hm hBt hs rfl (wantedB_of rfl (yieldsB_of (b := false) rfl rfl (hs.get (i := 25) (by decide) (hw 25 (by kernel_rfl)) rfl))) nl (hw 25 (by kernel_rfl))
        · exact aw_s27 _ w1.heap.size ro rc e_1 hm hBt hs rfl (wantedB_of rfl (yieldsB_of (b := false) rfl rfl (hs.get (i := 25) (by decide) (hw 25 (by kernel_rfl)) rfl))) nl (hw 25 (by kernel_rfl))
        · exact aw_s28 _ w1.heap.size ro rc e_1 hm hBt hs rfl (wantedB_of rfl (yieldsB_of (b := false) rfl rfl (hs.get (i := 25) (by decide) (hw 25 (by kernel_rfl)) rfl))) nl (hw 25 (by kernel_rfl)) (hw 27 (by kernel_rfl))
        · exact aw_s29 _ w1.heap.size ro rc e_1 hm hBt hs rfl (wantedB_of rfl (yieldsB_of (b := false) rfl rfl (hs.get (i := 25) (by decide) (hw 25 (by kernel_rfl)) rfl))) nl (hw 25 (by kernel_rfl))
        · exact aw_s30 _ w1.heap.size ro rc e_1 hm hBt hs rfl (wantedB_of rfl (yieldsB_of (b := false) rfl rfl (hs.get (i := 25) (by decide) (hw 25 (by kernel_rfl)) rfl))) nl (hw 25 (by kernel_rfl)) (hw 28 (by kernel_rfl)) (hw 29 (by kernel_rfl))
        · exact aw_s31 _ w1.heap.size ro rc e_1 hm hBt hs rfl (wantedB_of rfl (yieldsB_of (b := false) rfl rfl (hs.get (i := 25) (by decide) (hw 25 (by kernel_rfl)) rfl))) nl (hw 25 (by kernel_rfl)) (hw 26 (by kernel_rfl)) (hw 28 (by kernel_rfl)) (hw 30 (by kernel_rfl))
        · exact aw_s32 _ w1.heap.size ro rc e_1 hm hBt hs rfl (wantedB_of rfl (yieldsB_of (b := false) rfl rfl (hs.get (i := 25) (by decide) (hw 25 (by kernel_rfl)) rfl))) nl (hw 25 (by kernel_rfl)) (hw 31 (by kernel_rfl))
        · exact aw_s33 _ w1.heap.size ro rc e_1 hm hBt hs rfl nl (hw 25 (by kernel_rfl)) (hw 32 (by kernel_rfl)))
    ?_
  intro ll aa W2 hall hst
  have HU2 := Lib.hid (hup W2 hst.j)
  have hq2 := hm W2 hst.j
  obtain ⟨u6, h6⟩ : ∃ v, v = aa.eval (.tmp 6) := ⟨_, rfl⟩
  obtain ⟨u7, h7⟩ : ∃ v, v = aa.eval (.tmp 7) := ⟨_, rfl⟩
  obtain ⟨u8, h8⟩ : ∃ v, v = aa.eval (.tmp 8) := ⟨_, rfl⟩
  obtain ⟨u9, h9⟩ : ∃ v, v = aa.eval (.tmp 9) := ⟨_, rfl⟩
  obtain ⟨u14, h14⟩ : ∃ v, v = aa.eval (.tmp 14) := ⟨_, rfl⟩
  obtain ⟨u15, h15⟩ : ∃ v, v = aa.eval (.tmp 15) := ⟨_, rfl⟩
  obtain ⟨u16, h16⟩ : ∃ v, v = aa.eval (.tmp 16) := ⟨_, rfl⟩
  obtain ⟨u17, h17⟩ : ∃ v, v = aa.eval (.tmp 17) := ⟨_, rfl⟩
  obtain ⟨u23, h23⟩ : ∃ v, v = aa.eval (.tmp 23) := ⟨_, rfl⟩
  obtain ⟨u24, h24⟩ : ∃ v, v = aa.eval (.tmp 24) := ⟨_, rfl⟩
  obtain ⟨u25, h25⟩ : ∃ v, v = aa.eval (.tmp 25) := ⟨_, rfl⟩
  obtain ⟨u26, h26⟩ : ∃ v, v = aa.eval (.tmp 26) := ⟨_, rfl⟩
  obtain ⟨u32, h32⟩ : ∃ v, v = aa.eval (.tmp 32) := ⟨_, rfl⟩
  obtain ⟨u33, h33⟩ : ∃ v, v = aa.eval (.tmp 33) := ⟨_, rfl⟩
  obtain ⟨u34, h34⟩ : ∃ v, v = aa.eval (.tmp 34) := ⟨_, rfl⟩
  obtain ⟨u35, h35⟩ : ∃ v, v = aa.eval (.tmp 35) := ⟨_, rfl⟩
  have hfr := frame_end [(5, .agg #[.slice none 0 0, .slice ro 2 rc]), (6, u6), (7, u7), (8, u8), (9, u9), (10, .bool true), (11, .bool false), (12, .bool false), (13, .agg #[.slice none 0 0, .slice ro 2 rc]), (14, u14), (15, u15), (16, u16), (17, u17), (18, .bool true), (19, .bool false), (20, .bool false), (21, .bool false), (22, .agg #[.slice none 0 0, .slice ro 2 rc]), (23, u23), (24, u24), (25, u25), (26, u26), (27, .bool true), (28, .bool false), (29, .bool false), (30, .bool false), (31, .agg #[.slice none 0 0, .slice ro 2 rc]), (32, u32), (33, u33), (34, u34), (35, u35), (36, .bool true), (37, .bool false), (38, .bool false)] aa a0 hst.size hst.defs (by
    intro p hp
    simp only [List.mem_cons, List.not_mem_nil, or_false] at hp
    rcases hp with rfl | rfl | rfl | rfl | rfl | rfl | rfl | rfl | rfl | rfl | rfl | rfl | rfl | rfl | rfl | rfl | rfl | rfl | rfl | rfl | rfl | rfl | rfl | rfl | rfl | rfl | rfl | rfl | rfl | rfl | rfl | rfl | rfl | rfl
    · exact hst.get (i := 0) (by decide) (hall 0 (by decide)) rfl
    · exact h6.symm
    · exact h7.symm
    · exact h8.symm
    · exact h9.symm
    · exact hst.get (i := 5) (by decide) (hall 5 (by decide)) rfl
    · exact hst.get (i := 6) (by decide) (hall 6 (by decide)) rfl
    · exact hst.get (i := 7) (by decide) (hall 7 (by decide)) rfl
    · exact hst.get (i := 8) (by decide) (hall 8 (by decide)) rfl
    · exact h14.symm
    · exact h15.symm
    · exact h16.symm
    · exact h17.symm
    · exact hst.get (i := 13) (by decide) (hall 13 (by decide)) rfl
    · exact hst.get (i := 14) (by decide) (hall 14 (by decide)) rfl
    · exact hst.get (i := 15) (by decide) (hall 15 (by decide)) rfl
    · exact hst.get (i := 16) (by decide) (hall 16 (by decide)) rfl
    · exact hst.get (i := 17) (by decide) (hall 17 (by decide)) rfl
    · exact h23.symm
    · exact h24.symm
    · exact h25.symm
    · exact h26.symm
    · exact hst.get (i := 22) (by decide) (hall 22 (by decide)) rfl
    · exact hst.get (i := 23) (by decide) (hall 23 (by decide)) rfl
    · exact hst.get (i := 24) (by decide) (hall 24 (by decide)) rfl
    · exact hst.get (i := 25) (by decide) (hall 25 (by decide)) rfl
    · exact hst.get (i := 26) (by decide) (hall 26 (by decide)) rfl
    · exact h32.symm
    · exact h33.symm
    · exact h34.symm
    · exact h35.symm
    · exact hst.get (i := 31) (by decide) (hall 31 (by decide)) rfl
    · exact hst.get (i := 32) (by decide) (hall 32 (by decide)) rfl
    · exact hst.get (i := 33) (by decide) (hall 33 (by decide)) rfl
    ) (fun t ht => hst.kept t (fun i hi => by
      have h : i = 0 ∨ i = 1 ∨ i = 2 ∨ i = 3 ∨ i = 4 ∨ i = 5 ∨ i = 6 ∨ i = 7 ∨ i = 8 ∨ i = 9 ∨ i = 10 ∨ i = 11 ∨ i = 12 ∨ i = 13 ∨ i = 14 ∨ i = 15 ∨ i = 16 ∨ i = 17 ∨ i = 18 ∨ i = 19 ∨ i = 20 ∨ i = 21 ∨ i = 22 ∨ i = 23 ∨ i = 24 ∨ i = 25 ∨ i = 26 ∨ i = 27 ∨ i = 28 ∨ i = 29 ∨ i = 30 ∨ i = 31 ∨ i = 32 ∨ i = 33 := by omega
      rcases h with rfl | rfl | rfl | rfl | rfl | rfl | rfl | rfl | rfl | rfl | rfl | rfl | rfl | rfl | rfl | rfl | rfl | rfl | rfl | rfl | rfl | rfl | rfl | rfl | rfl | rfl | rfl | rfl | rfl | rfl | rfl | rfl | rfl | rfl
      · exact fun e => ht (by have e1 := Option.some.inj e; subst e1; simp)
      · exact fun e => ht (by have e1 := Option.some.inj e; subst e1; simp)
      · exact fun e => ht (by have e1 := Option.some.inj e; subst e1; simp)
      · exact fun e => ht (by have e1 := Option.some.inj e; subst e1; simp)
      · exact fun e => ht (by have e1 := Option.some.inj e; subst e1; simp)
      · exact fun e => ht (by have e1 := Option.some.inj e; subst e1; simp)
      · exact fun e => ht (by have e1 := Option.some.inj e; subst e1; simp)
      · exact fun e => ht (by have e1 := Option.some.inj e; subst e1; simp)
      · exact fun e => ht (by have e1 := Option.some.inj e; subst e1; simp)
      · exact fun e => ht (by have e1 := Option.some.inj e; subst e1; simp)
      · exact fun e => ht (by have e1 := Option.some.inj e; subst e1; simp)
      · exact fun e => ht (by have e1 := Option.some.inj e; subst e1; simp)
      · exact fun e => ht (by have e1 := Option.some.inj e; subst e1; simp)
      · exact fun e => ht (by have e1 := Option.some.inj e; subst e1; simp)
      · exact fun e => ht (by have e1 := Option.some.inj e; subst e1; simp)
      · exact fun e => ht (by have e1 := Option.some.inj e; subst e1; simp)
      · exact fun e => ht (by have e1 := Option.some.inj e; subst e1; simp)
      · exact fun e => ht (by have e1 := Option.some.inj e; subst e1; simp)
      · exact fun e => ht (by have e1 := Option.some.inj e; subst e1; simp)
      · exact fun e => ht (by have e1 := Option.some.inj e; subst e1; simp)
      · exact fun e => ht (by have e1 := Option.some.inj e; subst e1; simp)
      · exact fun e => ht (by have e1 := Option.some.inj e; subst e1; simp)
      · exact fun e => ht (by have e1 := Option.some.inj e; subst e1; simp)
      · exact fun e => ht (by have e1 := Option.some.inj e; subst e1; simp)
      · exact fun e => ht (by have e1 := Option.some.inj e; subst e1; simp)
      · exact fun e => ht (by have e1 := Option.some.inj e; subst e1; simp)
      · exact fun e => ht (by have e1 := Option.some.inj e; subst e1; simp)
      · exact fun e => ht (by have e1 := Option.some.inj e; subst e1; simp)
      · exact fun e => ht (by have e1 := Option.some.inj e; subst e1; simp)
      · exact fun e => ht (by have e1 := Option.some.inj e; subst e1; simp)
      · exact fun e => ht (by have e1 := Option.some.inj e; subst e1; simp)
      · exact fun e => ht (by have e1 := Option.some.inj e; subst e1; simp)
      · exact fun e => ht (by have e1 := Option.some.inj e; subst e1; simp)
      · exact fun e => ht (by have e1 := Option.some.inj e; subst e1; simp)))
  rw [hfr, ← ha0]
  clear hfr
  simp only [List.foldl_cons, List.foldl_nil]
  go_simp

  clear hst hall hm hBt e_1 hsz ha0 hup HQ HBb h6 h7 h8 h9 h14 h15 h16 h17 h23 h24 h25 h26 h32 h33 h34 h35
  have c0 : W2.cell? ⟨w1.heap.size, 0, none⟩ = some (.slice none 0 0) := Lib.cell_of_heap hq2 0
  have c1 : W2.cell? ⟨w1.heap.size, 1, none⟩ = some (.slice ro 2 rc) := Lib.cell_of_heap hq2 1
  have hB2 : Below w.heap.size w W2 := HBw.out.trans (HU2.out.mono HBw.out.size)
  have HB2 := Lib.hid hB2
  have KN := Lib.hid (new_tells [0, 5] ro rc W2 (by decide) (HSl.out.up HU2.out HU2.out.size) hnone hcap)
  clear hB2 hq2 HU2 HBw hcap hnone HSl
  go_wp2_with (go_at_call 14; refine KN.out.mono ?_; rintro e v0 ⟨db, bs, rfl, hp, hb, hbs⟩; have HS0 : Hid (Stt w.heap.size w [0, 5] db [] [] v0) := ⟨HB2.out.trans (hb.mono HB2.out.size), Nat.le_refl _, bs, hp, fun b h => Nat.le_trans HB2.out.size (hbs b h)⟩; clear hp hb hbs; refine Hid.out ?_)
  refine Lib.hid ?_
  clear KN c0 c1 HB2
  have K1 := Lib.hid (set_yes [(0, [1]), (1, [1])] [false, false] [0, 5] [] [] db (some ⟨v0.heap.size + 1 + 1 + 1 + 1, 0, none⟩) 2 w (wRow2 v0 0 1 1 1) (by decide) (by decide) (by decide) (fun t ht => by simp only [List.mem_cons, List.not_mem_nil, or_false] at ht; rcases ht with rfl | rfl <;> exact fit_lit _ _ ⟨by decide, by decide⟩ ⟨by decide, by decide⟩) (HS0.out.on (lits2 v0 0 1 1 1).2) (lits2 v0 0 1 1 1).1 (fun e => by cases e) (by decide) HT.out ⟨by decide, by decide⟩ (by decide))
  go_wp2_with (first
    | (go_at_call 16; refine (tok_any _ _ _ _ _).mono ?_; rintro e wt ⟨rfl, rfl⟩)
    | (go_at_call 7; refine K1.out.mono ?_; rintro e v1 ⟨rfl, hs⟩; have HS1 := Lib.hid hs; clear hs; refine Hid.out ?_))
  refine Lib.hid ?_
  clear K1 HS0
  have K2 := Lib.hid (first_at (1, [1]) [0, 5] [(0, [1]), (1, [1])] [false, false] db (some ⟨v1.heap.size, 0, none⟩) 1 w (wTk v1 1 1) (by decide) (by decide) (by decide) (HS1.out.on (lit0 v1 1 1).2) (lit0 v1 1 1).1 (by decide))
  go_wp2_with (first
    | (go_at_call 16; refine (tok_any _ _ _ _ _).mono ?_; rintro e wt ⟨rfl, rfl⟩)
    | (go_at_call 17; refine K2.out.mono ?_; rintro e v2 ⟨rfl, hs⟩; have HS2 := Lib.hid hs; clear hs; refine Hid.out ?_))
  refine Lib.hid ?_
  clear K2 HS1
  have K3 := Lib.hid (fire_at (1, [1]) 0 [false, true] [0, 5] [(0, [1]), (1, [1])] [false, false] db (some ⟨v2.heap.size, 0, none⟩) 1 w (wTk v2 1 1) (by decide) (by decide) (by decide) (HS2.out.on (lit0 v2 1 1).2) (lit0 v2 1 1).1 (fun e => by cases e) (by decide) HT.out (by decide) (by decide))
  go_wp2_with (first
    | (go_at_call 16; refine (tok_any _ _ _ _ _).mono ?_; rintro e wt ⟨rfl, rfl⟩)
    | (go_at_call 9; refine K3.out.mono ?_; rintro e v3 ⟨rfl, hs⟩; have HS3 := Lib.hid hs; clear hs; refine Hid.out ?_))
  refine Lib.hid ?_
  clear K3 HS2
  have K4 := Lib.hid (first_at (0, [1]) [0, 5] [(0, [1]), (1, [1])] [false, true] db (some ⟨v3.heap.size, 0, none⟩) 1 w (wTk v3 0 1) (by decide) (by decide) (by decide) (HS3.out.on (lit0 v3 0 1).2) (lit0 v3 0 1).1 (by decide))
  go_wp2_with (first
    | (go_at_call 16; refine (tok_any _ _ _ _ _).mono ?_; rintro e wt ⟨rfl, rfl⟩)
    | (go_at_call 17; refine K4.out.mono ?_; rintro e v4 ⟨rfl, hs⟩; have HS4 := Lib.hid hs; clear hs; refine Hid.out ?_))
  refine Lib.hid ?_
  clear K4 HS3
  have K5 := Lib.hid (fired_at 1 [0, 5] [(0, [1]), (1, [1])] [false, true] db w v4 (by decide) (by decide) HS4.out (by decide) (by decide))
  go_wp2_with (first
    | (go_at_call 16; refine (tok_any _ _ _ _ _).mono ?_; rintro e wt ⟨rfl, rfl⟩)
    | (go_at_call 10; refine K5.out.mono ?_; rintro e v5 ⟨ao5, c5, rfl, hs⟩; have HS5 := Lib.hid hs; clear hs; refine Hid.out ?_))
  refine Lib.hid ?_
  clear K5 HS4
  have K6 := Lib.hid (set_yes [(1, [1]), (0, [1])] [true, false] [0, 5] [(0, [1]), (1, [1])] [false, true] db (some ⟨v5.heap.size + 1 + 1 + 1 + 1, 0, none⟩) 2 w (wRow2 v5 1 1 0 1) (by decide) (by decide) (by decide) (fun t ht => by simp only [List.mem_cons, List.not_mem_nil, or_false] at ht; rcases ht with rfl | rfl <;> exact fit_lit _ _ ⟨by decide, by decide⟩ ⟨by decide, by decide⟩) (HS5.out.on (lits2 v5 1 1 0 1).2) (lits2 v5 1 1 0 1).1 (fun e => by cases e) (by decide) HT.out ⟨by decide, by decide⟩ (by decide))
  go_wp2_with (first
    | (go_at_call 16; refine (tok_any _ _ _ _ _).mono ?_; rintro e wt ⟨rfl, rfl⟩)
    | (go_at_call 7; refine K6.out.mono ?_; rintro e v6 ⟨rfl, hs⟩; have HS6 := Lib.hid hs; clear hs; refine Hid.out ?_))
  refine Lib.hid ?_
  clear K6 HS5
  have K7 := Lib.hid (first_at (0, [1]) [0, 5] [(1, [1]), (0, [1])] [true, false] db (some ⟨v6.heap.size, 0, none⟩) 1 w (wTk v6 0 1) (by decide) (by decide) (by decide) (HS6.out.on (lit0 v6 0 1).2) (lit0 v6 0 1).1 (by decide))
  go_wp2_with (first
    | (go_at_call 16; refine (tok_any _ _ _ _ _).mono ?_; rintro e wt ⟨rfl, rfl⟩)
    | (go_at_call 17; refine K7.out.mono ?_; rintro e v7 ⟨rfl, hs⟩; have HS7 := Lib.hid hs; clear hs; refine Hid.out ?_))
  refine Lib.hid ?_
  clear K7 HS6
  have K8 := Lib.hid (set_yes [(0, [1])] [false] [0, 5] [(1, [1]), (0, [1])] [true, false] db (some ⟨v7.heap.size + 1 + 1, 0, none⟩) 1 w (wRow1 v7 0 1) (by decide) (by decide) (by decide) (fun t ht => by simp only [List.mem_cons, List.not_mem_nil, or_false] at ht; rcases ht with rfl <;> exact fit_lit _ _ ⟨by decide, by decide⟩ ⟨by decide, by decide⟩) (HS7.out.on (lits1 v7 0 1).2) (lits1 v7 0 1).1 (fun e => by cases e) (by decide) HT.out ⟨by decide, by decide⟩ (by decide))
  go_wp2_with (first
    | (go_at_call 16; refine (tok_any _ _ _ _ _).mono ?_; rintro e wt ⟨rfl, rfl⟩)
    | (go_at_call 7; refine K8.out.mono ?_; rintro e v8 ⟨rfl, hs⟩; have HS8 := Lib.hid hs; clear hs; refine Hid.out ?_))
  refine Lib.hid ?_
  clear K8 HS7
  have K9 := Lib.hid (set_yes [(0, [1]), (1, [1])] [false, false] [0, 5] [(0, [1])] [false] db (some ⟨v8.heap.size + 1 + 1 + 1 + 1, 0, none⟩) 2 w (wRow2 v8 0 1 1 1) (by decide) (by decide) (by decide) (fun t ht => by simp only [List.mem_cons, List.not_mem_nil, or_false] at ht; rcases ht with rfl | rfl <;> exact fit_lit _ _ ⟨by decide, by decide⟩ ⟨by decide, by decide⟩) (HS8.out.on (lits2 v8 0 1 1 1).2) (lits2 v8 0 1 1 1).1 (fun e => by cases e) (by decide) HT.out ⟨by decide, by decide⟩ (by decide))
  go_wp2_with (first
    | (go_at_call 16; refine (tok_any _ _ _ _ _).mono ?_; rintro e wt ⟨rfl, rfl⟩)
    | (go_at_call 7; refine K9.out.mono ?_; rintro e v9 ⟨rfl, hs⟩; have HS9 := Lib.hid hs; clear hs; refine Hid.out ?_))
  refine Lib.hid ?_
  clear K9 HS8
  have K10 := Lib.hid (first_at (1, [1]) [0, 5] [(0, [1]), (1, [1])] [false, false] db (some ⟨v9.heap.size, 0, none⟩) 1 w (wTk v9 1 1) (by decide) (by decide) (by decide) (HS9.out.on (lit0 v9 1 1).2) (lit0 v9 1 1).1 (by decide))
  go_wp2_with (first
    | (go_at_call 16; refine (tok_any _ _ _ _ _).mono ?_; rintro e wt ⟨rfl, rfl⟩)
    | (go_at_call 17; refine K10.out.mono ?_; rintro e v10 ⟨rfl, hs⟩; have HS10 := Lib.hid hs; clear hs; refine Hid.out ?_))
  refine Lib.hid ?_
  clear K10 HS9
  have K11 := Lib.hid (set_no [(2, [1])] [0, 5] [(0, [1]), (1, [1])] [false, false] db (some ⟨v10.heap.size + 1 + 1, 0, none⟩) 1 w (wRow1 v10 2 1) (by decide) (by decide) (by decide) (fun t ht => by simp only [List.mem_cons, List.not_mem_nil, or_false] at ht; rcases ht with rfl <;> exact fit_lit _ _ ⟨by decide, by decide⟩ ⟨by decide, by decide⟩) (HS10.out.on (lits1 v10 2 1).2) (lits1 v10 2 1).1 (fun e => by cases e) (by decide) HT.out (fun h => absurd h.1 (by decide)))
  go_wp2_with (first
    | (go_at_call 16; refine (tok_any _ _ _ _ _).mono ?_; rintro e wt ⟨rfl, rfl⟩)
    | (go_at_call 7; refine K11.out.mono ?_; rintro e v11 ⟨rfl, hs⟩; have HS11 := Lib.hid hs; clear hs; refine Hid.out ?_))
  refine Lib.hid ?_
  clear K11 HS10
  have K12 := Lib.hid (set_no [(0, [1]), (0, [1])] [0, 5] [(0, [1]), (1, [1])] [false, false] db (some ⟨v11.heap.size + 1 + 1 + 1 + 1, 0, none⟩) 2 w (wRow2 v11 0 1 0 1) (by decide) (by decide) (by decide) (fun t ht => by simp only [List.mem_cons, List.not_mem_nil, or_false] at ht; rcases ht with rfl | rfl <;> exact fit_lit _ _ ⟨by decide, by decide⟩ ⟨by decide, by decide⟩) (HS11.out.on (lits2 v11 0 1 0 1).2) (lits2 v11 0 1 0 1).1 (fun e => by cases e) (by decide) HT.out (fun h => absurd h.2 (by decide)))
  go_wp2_with (first
    | (go_at_call 16; refine (tok_any _ _ _ _ _).mono ?_; rintro e wt ⟨rfl, rfl⟩)
    | (go_at_call 7; refine K12.out.mono ?_; rintro e v12 ⟨rfl, hs⟩; have HS12 := Lib.hid hs; clear hs; refine Hid.out ?_))
  refine Lib.hid ?_
  clear K12 HS11
  have K13 := Lib.hid (fire_at (0, [2]) 6 [false, false] [0, 5] [(0, [1]), (1, [1])] [false, false] db (some ⟨v12.heap.size, 0, none⟩) 1 w (wTk v12 0 2) (by decide) (by decide) (by decide) (HS12.out.on (lit0 v12 0 2).2) (lit0 v12 0 2).1 (fun e => by cases e) (by decide) HT.out (by decide) (by decide))
  go_wp2_with (first
    | (go_at_call 16; refine (tok_any _ _ _ _ _).mono ?_; rintro e wt ⟨rfl, rfl⟩)
    | (go_at_call 9; refine K13.out.mono ?_; rintro e v13 ⟨rfl, hs⟩; have HS13 := Lib.hid hs; clear hs))
  clear K13 HS12
  go_ret
  exact ⟨rfl, HS13.out.1⟩
end Go.Proofs.YtlkmabnjmklkpaaDoor
