/- say: whether a fact may be, and what it says. -/
import Derived.Test.YtajhngkdnkbfcaaBox11
namespace Go.Proofs.Ytajhngkdnkbfcaa
open Go.RowKit

/-- What say tells. -/
def sayA (kind : Int) (vs : List V3) : Value := if mayB kind vs then .tuple #[.agg (sayL kind vs.length (pad6 vs)).toArray, .bool true] else .tuple #[.agg (sayL 0 0 zeros6).toArray, .bool false]
theorem sayA_yes {kind : Int} {vs : List V3} (h : mayB kind vs = true) : sayA kind vs = .tuple #[.agg (sayL kind vs.length (pad6 vs)).toArray, .bool true] := by unfold sayA; rw [if_pos h]
theorem sayA_no {kind : Int} {vs : List V3} (h : mayB kind vs = false) : sayA kind vs = .tuple #[.agg (sayL 0 0 zeros6).toArray, .bool false] := by unfold sayA; rw [if_neg (by rw [h]; decide)]
theorem zeros_len : (sayL 0 0 zeros6).length = 20 := rfl
theorem say_info {cs : List Value} (h : cs.length = 20) : (Try.prog.info? 64).map (·.size) = some cs.toArray.size := by
  rw [List.size_toArray, h]; kernel_rfl
theorem say_infoL {cs : List Value} (h : cs.length = 20) : (Try.prog.info? 64).map (·.size) = some cs.length := by
  rw [h]; kernel_rfl
def SayP (kind : Int) (vs : List V3) (w : World) (e : Ending) (w' : World) : Prop := e = .returned (sayA kind vs) ∧ Below w.heap.size w w'
theorem Sl10.vget11 {B : Nat} {w : World} {l : List V3} {ao : Option Addr} {c : Nat} (h : Sl10 B w l.length ao c (cellsV l)) {j : Nat} (hj : j < l.length) : ∃ g o, ao = some ⟨g, o, none⟩ ∧ g < B ∧ w.cell? ⟨g, o + j * 3, none⟩ = some (.int .u8 (l.getD j zeroT).1) ∧ w.cell? ⟨g, o + j * 3 + 1, none⟩ = some (.int .i64 (l.getD j zeroT).2.1) ∧ w.cell? ⟨g, o + j * 3 + 2, none⟩ = some (.string (l.getD j zeroT).2.2) := by
  obtain ⟨q0, q1, q2⟩ := cellsV_get l j hj
  obtain ⟨sb, off, e, lt, hc⟩ := h.row (fun hn => by rw [hn] at q0; cases q0)
  exact ⟨sb, off, e, lt, hc _ _ q0, hc _ _ q1, hc _ _ q2⟩
/-- A call that tells that no such fact may be. -/
theorem say_no0 {a : Act} {W : World} {g : Nat} {kind : Int} {vs : List V3} {w : World} (hp : a.tmps[4]?.getD undef = .pointer (some ⟨g, 0, none⟩)) (he : a.tmps[5]?.getD undef = .bool false) (hd : a.defers = []) (h : Box W g 64 (sayL 0 0 zeros6)) (hm : mayB kind vs = false) (hb : Below w.heap.size w W) : bodyPost Try.prog Try.f25 (SayP kind vs w) .ret a W :=
  say_end rfl hp he hd h zeros_len ⟨by rw [sayA_no hm], hb⟩
set_option maxRecDepth 100000 in
set_option maxHeartbeats 4000000 in
theorem say_bad (kind : Int) (vs : List V3) (ao : Option Addr) (c : Nat) (w : World) (hn : vs.length ≤ 100000) (h : kind < 0 ∨ 32 ≤ kind ∨ 6 < vs.length) :
    Calls Try.prog 25 #[.int .i64 kind, .slice ao vs.length c] w (SayP kind vs w) := by
  have hm : mayB kind vs = false := by
    rcases h with h | h | h
    · exact may_kind0 h
    · exact may_kind1 h
    · exact may_many h
  have HM := Lib.hid hm
  clear hm
  have hB : Box (w.alloc (.cells (sayL 0 0 zeros6).toArray 64)) w.heap.size 64 (sayL 0 0 zeros6) := Box.new _ _ _
  have HB := Lib.hid hB
  clear hB
  generalize hlen : vs.length = n at *
  clear hlen
  have done : ∀ (a : Act), a.tmps[4]?.getD undef = .pointer (some ⟨w.heap.size, 0, none⟩) → a.tmps[5]?.getD undef = .bool false → a.defers = [] → bodyPost Try.prog Try.f25 (SayP kind vs w) .ret a ((w.alloc (.cells (sayL 0 0 zeros6).toArray 64)).setCells w.heap.size 0 (sayL 0 0 zeros6)) := fun a h1 h2 h3 =>
    say_no0 h1 h2 h3 (HB.out.setAll _ rfl) HM.out (((below_own _)).grown (grownBy_setCells _ _ _ _) (by simp) (fun k hk => by cases hk; exact Nat.le_refl _))
  have HD := Lib.hid done
  have HT := Lib.hid (HB.out.there 0 20 (by decide))
  have hn' : ¬ (n : Int) < 0 := by omega
  clear done hn
  by_cases h0 : kind < 0
  · have h1 : decide (kind < 0) = true := decide_eq_true h0
    go_enter Try.func25, Try.ntmps25
    go_wp2_with (refine wpList_store_mid rfl 64 (.tmp 4) (.tmp 19) rfl w.heap.size 0 (sayL 0 0 zeros6).toArray rfl rfl HT.out (say_info zeros_len) (all_oneCell_toArray (sayL_one _ _ _)) ?_)
    exact HD.out _ rfl rfl rfl
  · have h1 : decide (kind < 0) = false := decide_eq_false h0
    by_cases h2 : 32 ≤ kind
    · have h3 : decide (32 ≤ kind) = true := decide_eq_true h2
      go_enter Try.func25, Try.ntmps25
      go_wp2_with (refine wpList_store_mid rfl 64 (.tmp 4) (.tmp 19) rfl w.heap.size 0 (sayL 0 0 zeros6).toArray rfl rfl HT.out (say_info zeros_len) (all_oneCell_toArray (sayL_one _ _ _)) ?_)
      exact HD.out _ rfl rfl rfl
    · have h3 : ¬ 32 ≤ kind := h2
      have h4 : (6 : Int) < (n : Int) := by omega
      go_enter Try.func25, Try.ntmps25
      go_wp2_with (refine wpList_store_mid rfl 64 (.tmp 4) (.tmp 19) rfl w.heap.size 0 (sayL 0 0 zeros6).toArray rfl rfl HT.out (say_info zeros_len) (all_oneCell_toArray (sayL_one _ _ _)) ?_)
      exact HD.out _ rfl rfl rfl
theorem litZ_eq (a b : Int) : (#[.int .i64 a, .int .i64 b, .int .u8 0, .int .i64 0, .string ⟨#[]⟩, .int .u8 0, .int .i64 0, .string ⟨#[]⟩, .int .u8 0, .int .i64 0, .string ⟨#[]⟩, .int .u8 0, .int .i64 0, .string ⟨#[]⟩, .int .u8 0, .int .i64 0, .string ⟨#[]⟩, .int .u8 0, .int .i64 0, .string ⟨#[]⟩] : Array Value) = (sayL a b zeros6).toArray := rfl
theorem sayz_len (a b : Int) : (sayL a b zeros6).length = 20 := rfl
theorem new_two (w : World) (c1 : Array Value) (T : TypeId) (o : Obj) (j : Nat) (u : Value) (h : c1[j]? = some u) : ((w.alloc (.cells c1 T)).alloc o).cell? ⟨w.heap.size, j, none⟩ = some u := by
  have := alloc_keep (alloc_at (w := w) rfl (.cells c1 T)) o
  rw [Lib.cell_of_heap this j]
  exact h
/-- On the way through the values. -/
structure Says (kind : Int) (vs : List V3) (g : Nat) (k : Nat) (w W : World) : Prop where
  box : Box W g 64 (sayL kind vs.length (part6 vs k))
  bel : Below g w W
  good : ∀ j, j < k → rightV (vs.getD j zeroT) = true
  sz : g = w.heap.size
theorem part6_length {vs : List V3} {k : Nat} (h : vs.length ≤ 6) : (part6 vs k).length = 6 := by
  unfold part6
  exact pad6_length (by simp; omega)
theorem Says.old {kind : Int} {vs : List V3} {g k : Nat} {w W W' : World} (h : Says kind vs g k w W) (b : Below W.heap.size W W') : Says kind vs g k w W' := ⟨h.box.old b, h.bel.trans (b.mono (Nat.le_of_lt h.box.lt)), h.good, h.sz⟩
theorem Says.low {kind : Int} {vs : List V3} {g k : Nat} {w W : World} (h : Says kind vs g k w W) : Below w.heap.size w W := by rw [← h.sz]; exact h.bel
theorem Says.next {kind : Int} {vs : List V3} {g k : Nat} {w W : World} (h : Says kind vs g k w W) (h6 : vs.length ≤ 6) (hk : k < vs.length) (hr : rightV (vs.getD k zeroT) = true) :
    Says kind vs g (k + 1) w (W.setCells g (2 + k * 3) [.int .u8 (vs.getD k zeroT).1, .int .i64 (vs.getD k zeroT).2.1, .string (vs.getD k zeroT).2.2]) := by
  refine ⟨?_, h.bel.grown (grownBy_setCells _ _ _ _) (Nat.le_of_lt h.box.lt) (fun j hj => by cases hj; exact Nat.le_refl _), fun j hj => ?_, h.sz⟩
  · have := h.box.setCells [.int .u8 (vs.getD k zeroT).1, .int .i64 (vs.getD k zeroT).2.1, .string (vs.getD k zeroT).2.2] (2 + k * 3)
    rw [part6_succ hk h6, sayL_set]
    exact this
  · rcases Nat.lt_or_ge j k with h1 | h1
    · exact h.good j h1
    · obtain rfl : j = k := by omega
      exact hr
theorem Says.zero {kind : Int} {vs : List V3} {g k : Nat} {w W : World} (h : Says kind vs g k w W) (h6 : vs.length ≤ 6) : Box (W.setCells g 0 (sayL 0 0 zeros6)) g 64 (sayL 0 0 zeros6) ∧ Below w.heap.size w (W.setCells g 0 (sayL 0 0 zeros6)) :=
  ⟨h.box.setAll _ (by rw [sayL_length, sayL_length, part6_length h6]; rfl), by rw [← h.sz]; exact h.bel.grown (grownBy_setCells _ _ _ _) (Nat.le_of_lt h.box.lt) (fun j hj => by cases hj; exact Nat.le_refl _)⟩
theorem Says.there {kind : Int} {vs : List V3} {g k : Nat} {w W : World} (h : Says kind vs g k w W) (h6 : vs.length ≤ 6) : W.there g 0 20 := h.box.there 0 20 (by rw [sayL_length, part6_length h6]; decide)
theorem Says.there3 {kind : Int} {vs : List V3} {g k : Nat} {w W : World} (h : Says kind vs g k w W) (h6 : vs.length ≤ 6) (hk : k < vs.length) : W.there g (2 + k * 3) 3 := h.box.there _ 3 (by rw [sayL_length, part6_length h6]; omega)
theorem oneV3 (a b : Int) (c : ByteArray) : (#[.int .u8 a, .int .i64 b, .string c] : Array Value).all (·.oneCell') = true := all_oneCell_toArray (cellsV_one [(a, b, c)])
theorem infoV3 (a b : Value) (c : Value) : (Try.prog.info? 33).map (·.size) = some (#[a, b, c] : Array Value).size := by
  show _ = some 3
  kernel_rfl
theorem getD_mem {l : List V3} {k : Nat} (h : k < l.length) : l.getD k zeroT ∈ l := by
  rw [List.getD_eq_getElem?_getD, List.getElem?_eq_getElem h]
  exact List.getElem_mem h
set_option maxRecDepth 100000 in
set_option maxHeartbeats 4000000 in
theorem say_good (kind : Int) (vs : List V3) (ao : Option Addr) (c : Nat) (w : World) (hs : Sl10 w.heap.size w vs.length ao c (cellsV vs)) (hx : ∀ v ∈ vs, v.2.2.size ≤ maxLen) (h0 : 0 ≤ kind) (h1 : kind < 32) (h6 : vs.length ≤ 6) :
    Calls Try.prog 25 #[.int .i64 kind, .slice ao vs.length c] w (SayP kind vs w) := by
  have HS := Lib.hid hs
  have HX := Lib.hid hx
  have hk0 : ¬ kind < 0 := by omega
  have hk1 : ¬ 32 ≤ kind := by omega
  have hk2 : ¬ (6 : Int) < (vs.length : Int) := by omega
  have hB : Box (w.alloc (.cells (sayL 0 0 zeros6).toArray 64)) w.heap.size 64 (sayL 0 0 zeros6) := Box.new _ _ _
  have HT := Lib.hid (hB.there 0 20 (by decide))
  have hst : Says kind vs w.heap.size 0 w ((w.alloc (.cells (sayL 0 0 zeros6).toArray 64)).setCells w.heap.size 0 (sayL kind vs.length zeros6)) := ⟨by rw [part6_zero]; exact hB.setAll _ rfl, (below_own _).grown (grownBy_setCells _ _ _ _) (by simp) (fun k hk => by cases hk; exact Nat.le_refl _), fun j hj => absurd hj (Nat.not_lt_zero _), rfl⟩
  have HST := Lib.hid hst
  have H6 := Lib.hid h6
  have HY : Hid ((∀ k, k < vs.length → rightV (vs.getD k zeroT) = true) → mayB kind vs = true) := fun h => may_yes h0 h1 h6 h
  have hn : vs.length ≤ 9223372036854775807 := by omega
  clear hB hst hs hx h6 h0 h1
  have HN : Hid (∃ n, n = vs.length) := ⟨_, rfl⟩
  obtain ⟨n, hnn⟩ := HN.out
  rw [← hnn] at hk2 hn ⊢
  have HNN := Lib.hid hnn
  have HT2 : Hid ((w.alloc (.cells (sayL 0 0 zeros6).toArray 64)).there w.heap.size 0 (sayL kind n zeros6).toArray.size) := by
    show World.there _ _ _ (List.length _)
    exact HT.out
  have HI := Lib.hid (say_info (sayz_len kind n))
  have HA := Lib.hid (all_oneCell_toArray (sayL_one kind n zeros6))
  clear hnn HN HT
  go_enter Try.func25, Try.ntmps25
  go_upto_region 3 with fail
  go_upto_region 4 with (refine wpList_store_mid rfl 64 (.tmp 4) (.tmp 23) rfl w.heap.size 0 (sayL kind n zeros6).toArray rfl (by exact congrArg Value.agg (litZ_eq kind n)) HT2.out HI.out HA.out ?_)
  generalize hW1 : World.setCells _ _ _ _ = W1
  have HS1 : Hid (Says kind vs w.heap.size 0 w W1) := by
    rw [← hW1, HNN.out]
    exact HST.out
  clear hW1 HST HT2 HI HA
  have hgoal : SayP kind vs w = SayP kind vs w := rfl
  clear hgoal
  generalize w.heap.size = g at HS1 ⊢
  go_wp2_with fail
  go_loopw [26] (fun i wr => ∃ k : Nat, k ≤ n ∧ i = .int .i64 k ∧ Hid (Says kind vs g k w wr)) (fun i _ => n - (intOf i).toNat)
  case atStart => exact ⟨0, Nat.zero_le _, rfl, HS1⟩
  case round =>
    obtain ⟨k, hk, rfl, HSk⟩ := hrel
    by_cases hlt : k < n
    · have hkv : k < vs.length := by rw [← HNN.out]; exact hlt
      obtain ⟨b, o, rfl, lb, x1, x2, x3⟩ := (HS.out.up HSk.out.low (Nat.le_refl _)).vget11 hkv
      have HX1 := Lib.hid (HX.out _ (getD_mem hkv))
      have HNx := Lib.hid (fun W (hW : Says kind vs g k w W) => hW.next H6.out hkv)
      have HZ := Lib.hid (fun W (hW : Says kind vs g k w W) => hW.zero H6.out)
      have HTh := Lib.hid (fun W (hW : Says kind vs g k w W) => hW.there H6.out)
      have HTh3 := Lib.hid (fun W (hW : Says kind vs g k w W) => hW.there3 H6.out hkv)
      have HMw : Hid (rightV (vs.getD k zeroT) = false → mayB kind vs = false) := fun h => may_wrong hkv h
      have hkv6 : k < 6 := by have := H6.out; omega
      have hkn : (k : Int) < (n : Int) := by omega
      have hkn6 : (k : Int) < 6 := by omega
      have HOld := Lib.hid (fun W (b : Below wr.heap.size wr W) => HSk.out.old b)
      have hgl : g < wr.heap.size := HSk.out.box.lt
      have hv3 := fun (W : World) => right_any (vs.getD k zeroT).1 (vs.getD k zeroT).2.1 (vs.getD k zeroT).2.2 W HX1.out
      have HR := Lib.hid hv3
      clear hv3 HS HX HSk
      cases hr : rightV (vs.getD k zeroT) with
      | false =>
        have HN2 := Lib.hid (HMw.out hr)
        have hr' : rightB (vs.getD k zeroT).1 (vs.getD k zeroT).2.1 (vs.getD k zeroT).2.2 = false := hr
        rw [hr'] at HR
        generalize vs.getD k zeroT = v at *
        obtain ⟨v1, v2, v3⟩ := v
        simp only at x1 x2 x3 HR
        clear hr hr' HNx HTh3
        go_wp2_with (first
          | (go_at_call 34; refine (HR.out _).mono ?_; rintro e w2 ⟨rfl, hw2⟩; have HO2 := Lib.hid (HOld.out w2 (by rw [← hw2]; exact below_new (below_own _) _)); clear hw2)
          | (refine wpList_store_mid rfl 64 (.tmp 4) (.tmp 34) rfl g 0 (sayL 0 0 zeros6).toArray rfl rfl (HTh.out _ HO2.out) (say_info zeros_len) (all_oneCell_toArray (sayL_one _ _ _)) ?_))
        exact say_no0 rfl rfl rfl (HZ.out _ HO2.out).1 HN2.out (HZ.out _ HO2.out).2
      | true =>
        have HNx2 := Lib.hid (fun W hW => HNx.out W hW hr)
        have hr' : rightB (vs.getD k zeroT).1 (vs.getD k zeroT).2.1 (vs.getD k zeroT).2.2 = true := hr
        rw [hr'] at HR
        generalize vs.getD k zeroT = v at *
        obtain ⟨v1, v2, v3⟩ := v
        simp only at x1 x2 x3 HR HNx2
        clear hr hr' HNx HMw HZ HTh
        go_wp2_with (first
          | (go_at_call 34; refine (HR.out _).mono ?_; rintro e w2 ⟨rfl, hw2⟩; have HO2 := Lib.hid (HOld.out w2 (by rw [← hw2]; exact below_new (below_own _) _)); have y0 : w2.cell? ⟨wr.heap.size, 0, none⟩ = some (.int .u8 v1) := (by rw [← hw2]; exact new_two _ _ _ _ 0 _ rfl); have y1 : w2.cell? ⟨wr.heap.size, 1, none⟩ = some (.int .i64 v2) := (by rw [← hw2]; exact new_two _ _ _ _ 1 _ rfl); have y2 : w2.cell? ⟨wr.heap.size, 2, none⟩ = some (.string v3) := (by rw [← hw2]; exact new_two _ _ _ _ 2 _ rfl); clear hw2)
          | (refine wpList_store_mid rfl 33 (.tmp 38) (.tmp 36) rfl g (2 + k * 3) #[.int .u8 v1, .int .i64 v2, .string v3] rfl rfl (HTh3.out _ HO2.out) (infoV3 _ _ _) (oneV3 _ _ _) ?_))
        have HN3 := Lib.hid (HNx2.out _ HO2.out)
        clear HNx2 HTh3 HO2 y0 y1 y2 HR HX1 x1 x2 x3
        go_roundw
        case rel => exact ⟨k + 1, by omega, by go_num, HN3⟩
        case measure => simp [intOf]; omega
    · obtain rfl : k = n := by omega
      have HK : Hid (k = vs.length) := HNN
      have hbx : Box wr g 64 (sayL kind vs.length (pad6 vs)) := by
        have := HSk.out.box
        rwa [HK.out, part6_all] at this
      have hl20 : (sayL kind vs.length (pad6 vs)).length = 20 := by rw [sayL_length, pad6_length H6.out]
      have HL := Lib.hid hl20
      have HBx := Lib.hid hbx
      have HTr := Lib.hid (hbx.there 0 (sayL kind vs.length (pad6 vs)).toArray.size (by simp))
      have HM1 : Hid (mayB kind vs = true) := HY.out (fun j hj => HSk.out.good j (by rw [HK.out]; exact hj))
      have HBl : Hid (Below w.heap.size w (wr.setCells g 0 (sayL kind vs.length (pad6 vs)))) := by
        have := HSk.out.bel.grown (grownBy_setCells g (sayL kind vs.length (pad6 vs)) 0 wr) (Nat.le_of_lt hbx.lt) (fun j hj => by cases hj; exact Nat.le_refl _)
        rwa [HSk.out.sz] at this ⊢
      have HS1 := Lib.hid (sayL_one kind vs.length (pad6 vs))
      have HP := Lib.hid (sayA_yes HM1.out)
      generalize hLL : sayL kind vs.length (pad6 vs) = L at *
      clear hl20 hbx hLL
      clear HS HX HSk HK
      go_wp2_with (first
        | (refine wpList_load_mid rfl 64 (.tmp 4) rfl g 0 rfl L _ HBx.out.range Try.underlying64 rfl (say_infoL HL.out) ?_)
        | (refine wpList_store_mid rfl 64 (.tmp 4) (.tmp 40) rfl g 0 L.toArray rfl rfl HTr.out (say_info HL.out) (all_oneCell_toArray HS1.out) ?_))
      exact say_end rfl rfl rfl rfl (HBx.out.setAll L rfl) HL.out ⟨by rw [HP.out], HBl.out⟩
theorem say_any (kind : Int) (vs : List V3) (ao : Option Addr) (c : Nat) (w : World) (hs : Sl10 w.heap.size w vs.length ao c (cellsV vs)) (hx : ∀ v ∈ vs, v.2.2.size ≤ maxLen) (hn : vs.length ≤ 100000) :
    Calls Try.prog 25 #[.int .i64 kind, .slice ao vs.length c] w (SayP kind vs w) := by
  by_cases h0 : kind < 0
  · exact say_bad _ _ _ _ _ hn (Or.inl h0)
  · by_cases h1 : 32 ≤ kind
    · exact say_bad _ _ _ _ _ hn (Or.inr (Or.inl h1))
    · by_cases h2 : 6 < vs.length
      · exact say_bad _ _ _ _ _ hn (Or.inr (Or.inr h2))
      · exact say_good _ _ _ _ _ hs hx (by omega) (by omega) (by omega)
end Go.Proofs.Ytajhngkdnkbfcaa
