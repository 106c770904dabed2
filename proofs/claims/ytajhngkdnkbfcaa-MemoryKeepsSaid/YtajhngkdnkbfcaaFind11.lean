/- Find: which fact says so. -/
import Derived.Test.YtajhngkdnkbfcaaPlainM11
namespace Go.Proofs.Ytajhngkdnkbfcaa
open Go.RowKit

def SaysP11 (v : Value) (w : World) (e : Ending) (w' : World) : Prop := e = .returned v ∧ Below w.heap.size w w'
set_option maxRecDepth 100000 in
set_option maxHeartbeats 4000000 in
theorem find_bad (p : Option Addr) (kind : Int) (vs : List V3) (vo : Option Addr) (vc : Nat) (w : World) (hs : Sl10 w.heap.size w vs.length vo vc (cellsV vs)) (hx : ∀ v ∈ vs, v.2.2.size ≤ 140737488355328) (hn : vs.length ≤ 100000) (h : mayB kind vs = false) :
    Calls Try.prog 10 #[.pointer p, .int .i64 kind, .slice vo vs.length vc] w (SaysP11 (.tuple #[.int .i64 0, .bool false]) w) := by
  have HSay := Lib.hid (say_any kind vs vo vc w hs (fun v hv => Nat.le_trans (hx v hv) (by unfold maxLen; decide)) hn)
  unfold SayP at HSay
  rw [sayA_no h] at HSay
  clear hs hx hn
  generalize vs.length = n at *
  have HL : Hid ((sayL 0 0 zeros6).length = 20) := rfl
  have HL1 := Lib.hid (sayL_one 0 0 zeros6)
  generalize hLL : sayL 0 0 zeros6 = L at HSay HL HL1
  clear hLL h
  unfold SaysP11
  go_enter Try.func10, Try.ntmps10
  go_upto_region 2 with (first
    | (go_at_call 25; refine (HSay.out).mono ?_; rintro e w3 ⟨rfl, hb⟩; have HB := Lib.hid hb; clear hb)
    | (refine wpList_store_mid rfl 64 (.tmp 8) (.tmp 14) rfl w3.heap.size 0 L.toArray rfl rfl ((Box.new w3 64 (sayL 0 0 zeros6)).there 0 L.toArray.size (by show 0 + L.length ≤ 20; rw [HL.out]; decide)) (say_info HL.out) (all_oneCell_toArray HL1.out) ?_))
  have hb3 := (Box.new w3 64 (sayL 0 0 zeros6)).setAll L (by rw [HL.out]; rfl)
  have hl3 : Below w.heap.size w ((w3.alloc (.cells (sayL 0 0 zeros6).toArray 64)).setCells w3.heap.size 0 L) := (below_new HB.out _).grown (grownBy_setCells _ _ _ _) (below_new HB.out (.cells (sayL 0 0 zeros6).toArray 64)).size (fun j hj => by cases hj; exact HB.out.size)
  have H3 := Lib.hid hb3
  have HL3 := Lib.hid hl3
  clear hb3 hl3
  generalize hW4 : World.setCells _ _ _ _ = W4
  have HB4 : Hid (Box W4 w3.heap.size 64 L) := by rw [← hW4]; exact H3.out
  have HW4 : Hid (Below w.heap.size w W4) := by rw [← hW4]; exact HL3.out
  clear hW4 H3 HL3 HB HSay
  generalize w3.heap.size = sb at *
  go_wp2_with fail
  go_ret2
  exact ⟨rfl, HW4.out⟩
set_option maxRecDepth 100000 in
set_option maxHeartbeats 4000000 in
theorem find_good (kind : Int) (vs : List V3) (vo : Option Addr) (vc : Nat) (mb rb : Nat) (ao : Option Addr) (c : Nat) (l : List F11) (nx : Int) (w : World) (hM : Mm w mb rb ao c l nx) (hs : Sl10 w.heap.size w vs.length vo vc (cellsV vs)) (hx : ∀ v ∈ vs, v.2.2.size ≤ 140737488355328) (hn : vs.length ≤ 100000) (h : mayB kind vs = true) :
    Calls Try.prog 10 #[.pointer (some ⟨mb, 0, none⟩), .int .i64 kind, .slice vo vs.length vc] w (SaysP11 (whoA l kind vs) w) := by
  have HSay := Lib.hid (say_any kind vs vo vc w hs (fun v hv => Nat.le_trans (hx v hv) (by unfold maxLen; decide)) hn)
  unfold SayP at HSay
  rw [sayA_yes h] at HSay
  have h6 : vs.length ≤ 6 := may_six h
  have HWho := Lib.hid (fun W (b : Below w.heap.size w W) => who_any kind vs h6 rb ao c l nx W (hM.row.old b))
  unfold WhoP at HWho
  have HL : Hid ((sayL kind vs.length (pad6 vs)).length = 20) := by show _ = _; rw [sayL_length, pad6_length h6]
  have HL1 := Lib.hid (sayL_one kind vs.length (pad6 vs))
  have HPtr := Lib.hid (fun W (b : Below w.heap.size w W) => Mp.get (hM.ptr.old b))
  have HMade := Lib.hid (fun W (b : Below w.heap.size w W) => made_any mb rb W (hM.ptr.old b))
  clear hM hs hx hn h h6
  generalize sayL kind vs.length (pad6 vs) = L at *
  obtain ⟨x, b, hxb⟩ : ∃ (x : Int) (b : Bool), whoA l kind vs = .tuple #[.int .i64 x, .bool b] := by
    unfold whoA
    cases whoF l kind vs with
    | none => exact ⟨_, _, rfl⟩
    | some i => exact ⟨_, _, rfl⟩
  rw [hxb] at HWho ⊢
  clear hxb
  generalize vs.length = n at *
  unfold SaysP11
  go_enter Try.func10, Try.ntmps10
  go_upto_region 2 with (first
    | (go_at_call 25; refine (HSay.out).mono ?_; rintro e w3 ⟨rfl, hb⟩; have HB := Lib.hid hb; clear hb)
    | (refine wpList_store_mid rfl 64 (.tmp 8) (.tmp 14) rfl w3.heap.size 0 L.toArray rfl rfl ((Box.new w3 64 (sayL 0 0 zeros6)).there 0 L.toArray.size (by show 0 + L.length ≤ 20; rw [HL.out]; decide)) (say_info HL.out) (all_oneCell_toArray HL1.out) ?_))
  have hb3 := (Box.new w3 64 (sayL 0 0 zeros6)).setAll L (by rw [HL.out]; rfl)
  have hl3 : Below w.heap.size w ((w3.alloc (.cells (sayL 0 0 zeros6).toArray 64)).setCells w3.heap.size 0 L) := (below_new HB.out _).grown (grownBy_setCells _ _ _ _) (below_new HB.out (.cells (sayL 0 0 zeros6).toArray 64)).size (fun j hj => by cases hj; exact HB.out.size)
  have H3 := Lib.hid hb3
  have HL3 := Lib.hid hl3
  clear hb3 hl3
  generalize hW4 : World.setCells _ _ _ _ = W4
  have HB4 : Hid (Box W4 w3.heap.size 64 L) := by rw [← hW4]; exact H3.out
  have HW4 : Hid (Below w.heap.size w W4) := by rw [← hW4]; exact HL3.out
  clear hW4 H3 HL3 HB HSay
  generalize w3.heap.size = sb at *
  go_upto_region 4 with (go_at_call 24; refine (HMade.out W4 HW4.out).mono ?_; rintro e w2 ⟨rfl, rfl⟩)
  have hmT : ∀ W, Below W4.heap.size W4 W → Below w.heap.size w W := fun W hW => HW4.out.trans (hW.mono HW4.out.size)
  have hW : ∀ W, Below W4.heap.size W4 W → Calls Try.prog 26 #[.pointer (some ⟨rb, 0, none⟩), .agg L.toArray] W fun e w' => e = .returned (.tuple #[.int .i64 x, .bool b]) ∧ Below W.heap.size W w' := fun W hW => HWho.out W (hmT W hW)
  have hm : ∀ W, Below W4.heap.size W4 W → W.cell? ⟨mb, 0, none⟩ = some (.pointer (some ⟨rb, 0, none⟩)) ∧ W.rangeAt sb 0 L := fun W hW => ⟨HPtr.out W (hmT W hW), (HB4.out.old hW).range⟩
  have hL := HL.out
  generalize ha0 : ({ tmps := _, defers := _ } : Act) = a0
  have k0 : a0.eval (.tmp 0) = .pointer (some ⟨mb, 0, none⟩) := by rw [← ha0]; rfl
  have k8 : a0.eval (.tmp 8) = .pointer (some ⟨sb, 0, none⟩) := by rw [← ha0]; rfl
  have hsz : a0.tmps.size = 31 := by rw [← ha0]; rfl
  refine wp_region_st findRD (findRF W4 mb rb sb L x b) (findRJ W4 mb rb sb L x b) 10 (by kernel_rfl) (by kernel_rfl) rfl (by kernel_rfl) (by rw [hsz]; kernel_rfl) (below_drew (Below.refl _ _))
      (fun ll aa ww i hi hs nl hw => by
        have h : i = 0 ∨ i = 1 ∨ i = 2 ∨ i = 3 ∨ i = 4 ∨ i = 5 ∨ i = 6 ∨ i = 7 ∨ i = 8 ∨ i = 9 := by omega
        rcases h with rfl | rfl | rfl | rfl | rfl | rfl | rfl | rfl | rfl | rfl
        · exact findR_s0 _ mb rb _ L _ _ hL hm hW k0 k8 hs rfl nl 
        · exact findR_s1 _ mb rb _ L _ _ hL hm hW k0 k8 hs rfl nl (hw 0 (by kernel_rfl))
        · exact findR_s2 _ mb rb _ L _ _ hL hm hW k0 k8 hs rfl nl (hw 1 (by kernel_rfl))
        · exact findR_s3 _ mb rb _ L _ _ hL hm hW k0 k8 hs rfl nl (hw 2 (by kernel_rfl))
        · exact findR_s4 _ mb rb _ L _ _ hL hm hW k0 k8 hs rfl nl 
        · exact findR_s5 _ mb rb _ L _ _ hL hm hW k0 k8 hs rfl nl (hw 3 (by kernel_rfl)) (hw 4 (by kernel_rfl))
        · exact findR_s6 _ mb rb _ L _ _ hL hm hW k0 k8 hs rfl nl (hw 5 (by kernel_rfl))
        · exact findR_s7 _ mb rb _ L _ _ hL hm hW k0 k8 hs rfl nl (hw 5 (by kernel_rfl))
        · exact findR_s8 _ mb rb _ L _ _ hL hm hW k0 k8 hs rfl nl (hw 0 (by kernel_rfl)) (hw 1 (by kernel_rfl)) (hw 2 (by kernel_rfl)) (hw 3 (by kernel_rfl)) (hw 4 (by kernel_rfl)) (hw 5 (by kernel_rfl)) (hw 6 (by kernel_rfl)) (hw 7 (by kernel_rfl))
        · exact findR_s9 _ mb rb _ L _ _ hL hm hW k0 k8 hs rfl nl (hw 0 (by kernel_rfl)) (hw 1 (by kernel_rfl)) (hw 2 (by kernel_rfl)) (hw 3 (by kernel_rfl)) (hw 4 (by kernel_rfl)) (hw 5 (by kernel_rfl)) (hw 6 (by kernel_rfl)) (hw 7 (by kernel_rfl)) (hw 8 (by kernel_rfl)))
    ?_
  intro ll aa W5 hall hst
  have hJ := Lib.hid hst.j
  have hfr := frame_end [(23, .pointer (some ⟨mb, 0, none⟩)), (24, .pointer (some ⟨mb, 0, none⟩)), (25, .pointer (some ⟨mb, 0, none⟩)), (26, .pointer (some ⟨rb, 0, none⟩)), (27, .agg L.toArray), (28, .tuple #[.int .i64 x, .bool b]), (29, .int .i64 x), (30, .bool b), (6, .int .i64 x), (7, .bool b)] aa a0 hst.size hst.defs (by
    intro p hp
    simp only [List.mem_cons, List.not_mem_nil, or_false] at hp
    rcases hp with rfl | rfl | rfl | rfl | rfl | rfl | rfl | rfl | rfl | rfl
    · exact hst.get (i := 0) (by decide) (hall 0 (by decide)) rfl
    · exact hst.get (i := 1) (by decide) (hall 1 (by decide)) rfl
    · exact hst.get (i := 2) (by decide) (hall 2 (by decide)) rfl
    · exact hst.get (i := 3) (by decide) (hall 3 (by decide)) rfl
    · exact hst.get (i := 4) (by decide) (hall 4 (by decide)) rfl
    · exact hst.get (i := 5) (by decide) (hall 5 (by decide)) rfl
    · exact hst.get (i := 6) (by decide) (hall 6 (by decide)) rfl
    · exact hst.get (i := 7) (by decide) (hall 7 (by decide)) rfl
    · exact hst.get (i := 8) (by decide) (hall 8 (by decide)) rfl
    · exact hst.get (i := 9) (by decide) (hall 9 (by decide)) rfl
    ) (fun t ht => hst.kept t (fun i hi => by
      have h : i = 0 ∨ i = 1 ∨ i = 2 ∨ i = 3 ∨ i = 4 ∨ i = 5 ∨ i = 6 ∨ i = 7 ∨ i = 8 ∨ i = 9 := by omega
      rcases h with rfl | rfl | rfl | rfl | rfl | rfl | rfl | rfl | rfl | rfl
      · exact fun e => ht (by have e1 := Option.some.inj e; subst e1; simp)
      · exact fun e => ht (by have e1 := Option.some.inj e; subst e1; simp)
      · exact fun e => ht (by have e1 := Option.some.inj e; subst e1; simp)
      · exact fun e => ht (by have e1 := Option.some.inj e; subst e1; simp)
      · exact fun e => ht (by have e1 := Option.some.inj e; subst e1; simp)
      · exact fun e => ht (by have e1 := Option.some.inj e; subst e1; simp)
      · exact fun e => ht (by have e1 := Option.some.inj e; subst e1; simp)
      · exact fun e => ht (by have e1 := Option.some.inj e; subst e1; simp)
      · exact fun e => ht (by have e1 := Option.some.inj e; subst e1; simp)
      · exact fun e => ht (by have e1 := Option.some.inj e; subst e1; simp)))
  rw [hfr, ← ha0]
  clear hfr
  simp only [List.foldl_cons, List.foldl_nil, Act.put, List.setIfInBounds_toArray, List.set_cons_succ, List.set_cons_zero]
  have HW5 := Lib.hid (hmT _ hJ.out)
  clear hJ hst hall hL hm hW hmT k0 k8 hsz ha0 HW4 HB4 HWho HMade HPtr
  go_wp2_with fail
  go_ret2
  exact ⟨rfl, HW5.out⟩
theorem find_any (kind : Int) (vs : List V3) (vo : Option Addr) (vc : Nat) (mb rb : Nat) (ao : Option Addr) (c : Nat) (l : List F11) (nx : Int) (w : World) (hM : Mm w mb rb ao c l nx) (hs : Sl10 w.heap.size w vs.length vo vc (cellsV vs)) (hx : ∀ v ∈ vs, v.2.2.size ≤ 140737488355328) (hn : vs.length ≤ 100000) :
    Calls Try.prog 10 #[.pointer (some ⟨mb, 0, none⟩), .int .i64 kind, .slice vo vs.length vc] w (SaysP11 (findA l kind vs) w) := by
  cases h : mayB kind vs with
  | true =>
    have e : findA l kind vs = whoA l kind vs := by unfold findA; rw [if_neg (by rw [h]; decide)]
    rw [e]
    exact find_good kind vs vo vc mb rb ao c l nx w hM hs hx hn h
  | false =>
    have e : findA l kind vs = .tuple #[.int .i64 0, .bool false] := by unfold findA; rw [if_pos h]
    rw [e]
    exact find_bad _ kind vs vo vc w hs hx hn h
end Go.Proofs.Ytajhngkdnkbfcaa
