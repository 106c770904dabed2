/- own, args, tell: what is told is new memory. -/
import Derived.Test.YtajhngkdnkbfcaaSay11
import Derived.Test.YtajhngkdnkbfcaaShelf
namespace Go.Proofs.Ytajhngkdnkbfcaa
open Go.RowKit

theorem cloneS_any (s : ByteArray) (w : World) (hs : s.size ≤ 281474976710656) : Calls Try.prog 42 #[.string s] w fun e w' => e = .returned (.string s) ∧ Below w.heap.size w w' := by
  have HC := Lib.hid (fun W => Try.stringslite_Clone s W hs)
  clear hs
  go_enter Try.func42, Try.ntmps42
  go_wp2_with (go_at_call 46; refine (HC.out _).mono ?_; rintro e w1 ⟨rfl, hb⟩; have HB := Lib.hid hb; clear hb)
  go_ret
  exact ⟨rfl, HB.out⟩
theorem six_of {l : List V3} (h : l.length = 6) : ∃ a b c d e f, l = [a, b, c, d, e, f] := by
  match l, h with
  | [a, b, c, d, e, f], _ => exact ⟨a, b, c, d, e, f, rfl⟩
theorem index_run (l : List V3) (hl : l.length = 6) (k : Nat) (hk : k < 6) (W : World) : (Instr.index 62 (.agg (cellsV l).toArray) (.int .i64 (k : Int))).run Try.prog W = .ok (.agg #[.int .u8 (l.getD k zeroT).1, .int .i64 (l.getD k zeroT).2.1, .string (l.getD k zeroT).2.2]) W := by
  obtain ⟨a, b, c, d, e, f, rfl⟩ := six_of hl
  have h6 : k = 0 ∨ k = 1 ∨ k = 2 ∨ k = 3 ∨ k = 4 ∨ k = 5 := by omega
  clear hl hk
  rcases h6 with rfl | rfl | rfl | rfl | rfl | rfl
  all_goals (show Sem.run _ _ _ = _; kernel_rfl)
/-- own, on its way. -/
structure OwnW (g : Nat) (L : List Value) (w W : World) : Prop where
  box : Box W g 64 L
  res : Box W (g + 1) 64 (sayL 0 0 zeros6)
  bel : Below g w W
theorem OwnW.old {g : Nat} {L : List Value} {w W W' : World} (h : OwnW g L w W) (b : Below W.heap.size W W') : OwnW g L w W' := ⟨h.box.old b, h.res.old b, h.bel.trans (b.mono (Nat.le_of_lt h.box.lt))⟩
theorem OwnW.same {g : Nat} {L : List Value} {w W : World} (h : OwnW g L w W) (i : Nat) (v : Value) (hv : L[i]? = some v) : OwnW g L w (W.setCell ⟨g, i, none⟩ v) :=
  ⟨h.box.same i v hv, h.res.far (Lib.grownBy_setCell W g i v) (fun e => by have := Option.some.inj e; omega), h.bel.grown (Lib.grownBy_setCell W g i v) (Nat.le_of_lt h.box.lt) (fun j hj => by cases hj; exact Nat.le_refl _)⟩
theorem info6 (l : List V3) (hl : l.length = 6) : (Try.prog.info? 62).map (·.size) = some (cellsV l).length := by
  rw [cellsV_length, hl]; kernel_rfl
def SaysL (L : List Value) (w : World) (e : Ending) (w' : World) : Prop := e = .returned (.agg L.toArray) ∧ Below w.heap.size w w'
set_option maxRecDepth 100000 in
set_option maxHeartbeats 4000000 in
theorem own_any (kind n : Int) (l : List V3) (hl : l.length = 6) (hx : ∀ v ∈ l, v.2.2.size ≤ 281474976710656) (w : World) :
    Calls Try.prog 35 #[.agg (sayL kind n l).toArray] w (SaysL (sayL kind n l) w) := by
  have hb0 : OwnW w.heap.size (sayL kind n l) w ((w.alloc (.cells (sayL kind n l).toArray 64)).alloc (.cells (sayL 0 0 zeros6).toArray 64)) :=
    ⟨(Box.new _ _ _).keep _, alloc_at (by simp) _, below_new (below_own _) _⟩
  have HB0 := Lib.hid hb0
  have HX := Lib.hid hx
  have HL := Lib.hid hl
  have HR := Lib.hid (fun W (h : OwnW w.heap.size (sayL kind n l) w W) => h.box.rangeIn 2 (cellsV l) (fun j v hv => by rw [show 2 + j = j + 1 + 1 by omega]; exact hv))
  have HG := Lib.hid (fun k (hk : k < 6) => sayL_get kind n l k (by rw [hl]; exact hk))
  have HI := Lib.hid (fun k (hk : k < 6) W => index_run l hl k hk W)
  have HF := Lib.hid (info6 l hl)
  have HLn : Hid ((sayL kind n l).length = 20) := by show _ = _; rw [sayL_length, hl]
  have HO := Lib.hid (sayL_one kind n l)
  clear hb0 hl hx
  generalize hLL : sayL kind n l = L at *
  clear hLL
  generalize hcc : cellsV l = C at *
  clear hcc
  unfold SaysL
  generalize hg : w.heap.size = g at *
  go_enter Try.func35, Try.ntmps35
  go_upto_region 1 with fail
  generalize hW0 : World.alloc _ _ = W0
  have HB : Hid (OwnW g L w W0) := by
    rw [← hW0]
    exact HB0.out
  clear hW0 HB0
  go_wp2_with (refine wpList_load_mid rfl 62 (.tmp 5) rfl g 2 rfl C _ (HR.out _ HB.out) Try.underlying62 rfl HF.out ?_)
  go_loopw [7] (fun i wr => ∃ k : Nat, k ≤ 6 ∧ i = .int .i64 k ∧ Hid (OwnW g L w wr)) (fun i _ => 6 - (intOf i).toNat)
  case atStart => exact ⟨0, by omega, rfl, HB⟩
  case round =>
    obtain ⟨k, hk, rfl, HW⟩ := hrel
    by_cases hlt : k < 6
    · have hi := HI.out k hlt
      obtain ⟨-, -, q2⟩ := HG.out k hlt
      have hs := HX.out _ (getD_mem (l := l) (k := k) (by rw [HL.out]; exact hlt))
      generalize l.getD k zeroT = v at *
      obtain ⟨v1, v2, v3⟩ := v
      simp only at hi q2 hs
      have HC := Lib.hid (fun W => cloneS_any v3 W hs)
      have HOld := Lib.hid (fun W (b : Below wr.heap.size wr W) => HW.out.old b)
      have HSt := Lib.hid (fun W (h : OwnW g L w W) => h.same _ _ q2)
      have HQ := Lib.hid q2
      have hkn6 : (k : Int) < 6 := by omega
      clear hs q2
      go_wp2_with (go_at_call 42; refine (HC.out _).mono ?_; rintro e w2 ⟨rfl, hb2⟩; have HO2 := Lib.hid (HOld.out w2 ((below_own _).trans (hb2.mono (by simp)))); have y := (HO2.out.box.cell (2 + k * 3 + 2)).trans HQ.out; have z := HO2.out.box.frozen (2 + k * 3 + 2); clear hb2)
      have HN := Lib.hid (HSt.out _ HO2.out)
      clear HSt HO2 HC HOld hi y z
      go_roundw
      case rel => exact ⟨k + 1, by omega, by go_num, HN⟩
      case measure => simp [intOf]; omega
    · obtain rfl : k = 6 := by omega
      have HBx := Lib.hid HW.out.box
      have HTr := Lib.hid (HW.out.res.there 0 L.toArray.size (by show 0 + L.length ≤ 20; rw [HLn.out]; decide))
      have HRs := Lib.hid (HW.out.res.setAll L (by rw [HLn.out]; rfl))
      have HBl := Lib.hid (HW.out.bel.grown (grownBy_setCells (g + 1) L 0 wr) (Nat.le_of_lt HW.out.box.lt) (fun j hj => by cases hj; exact Nat.le_succ _))
      clear HW HR HG HI HX
      go_wp2_with (first
        | (refine wpList_load_mid rfl 64 (.tmp 1) rfl g 0 rfl L _ HBx.out.range Try.underlying64 rfl (say_infoL HLn.out) ?_)
        | (refine wpList_store_mid rfl 64 (.tmp 2) (.tmp 19) rfl (g + 1) 0 L.toArray rfl rfl HTr.out (say_info HLn.out) (all_oneCell_toArray HO.out) ?_))
      exact say_end1 rfl rfl rfl HRs.out HLn.out ⟨rfl, HBl.out⟩
theorem cellsV_take (l : List V3) (n : Nat) : (cellsV l).take (n * 3) = cellsV (l.take n) := by
  induction l generalizing n with
  | nil => simp [cellsV]
  | cons x l ih =>
    cases n with
    | zero => simp [cellsV]
    | succ n =>
      rw [show (n + 1) * 3 = n * 3 + 1 + 1 + 1 by omega, List.take_succ_cons]
      simp only [cellsV, List.take_succ_cons, ih]
theorem pad6_take (vs : List V3) : (pad6 vs).take vs.length = vs := by unfold pad6; simp
theorem pad6_texts {vs : List V3} {m : Nat} (h : ∀ v ∈ vs, v.2.2.size ≤ m) : ∀ v ∈ pad6 vs, v.2.2.size ≤ m := by
  intro v hv
  unfold pad6 at hv
  rcases List.mem_append.1 hv with h1 | h1
  · exact h v h1
  · rw [List.eq_of_mem_replicate h1]
    exact Nat.zero_le _
/-- A row of values of its own. -/
def ArgsP (vs : List V3) (w : World) (e : Ending) (w' : World) : Prop := ∃ ao c, e = .returned (.slice ao vs.length c) ∧ w'.ownsRow w.heap.size 33 3 (.slice ao vs.length c) vs.length (cellsV vs) ∧ Below w.heap.size w w'
set_option maxRecDepth 100000 in
set_option maxHeartbeats 4000000 in
theorem args_any (kind : Int) (vs : List V3) (h6 : vs.length ≤ 6) (hx : ∀ v ∈ vs, v.2.2.size ≤ 281474976710656) (w : World) :
    Calls Try.prog 39 #[.agg (sayL kind vs.length (pad6 vs)).toArray] w (ArgsP vs w) := by
  obtain ⟨i0, hi, hz0, hz1, hz2⟩ := info_parts infoV
  have HO := Lib.hid (fun W => own_any kind vs.length (pad6 vs) (pad6_length h6) (pad6_texts hx) W)
  have HLn : Hid ((sayL kind vs.length (pad6 vs)).length = 20) := by show _ = _; rw [sayL_length, pad6_length h6]
  have H1 := Lib.hid (sayL_one kind vs.length (pad6 vs))
  have hc1 : ∀ W g, Box W g 64 (sayL kind vs.length (pad6 vs)) → W.cell? ⟨g, 1, none⟩ = some (.int .i64 vs.length) ∧ ∀ j u, (cellsV vs)[j]? = some u → W.cell? ⟨g, 2 + j, none⟩ = some u := fun W g h => by
    refine ⟨by rw [h.cell]; rfl, fun j u hu => ?_⟩
    rw [h.cell, show 2 + j = j + 1 + 1 by omega]
    show (cellsV (pad6 vs))[j]? = _
    have hj := (List.getElem?_eq_some_iff.1 hu).1
    rw [cellsV_length] at hj
    have := cellsV_take (pad6 vs) vs.length
    rw [pad6_take] at this
    rw [← hu, ← this, List.getElem?_take_of_lt hj]
  have HC := Lib.hid hc1
  have HV1 := Lib.hid (cellsV_one vs)
  have hlen : (cellsV vs).length = vs.length * 3 := cellsV_length vs
  have H6 := Lib.hid h6
  unfold ArgsP
  generalize hLL : sayL kind vs.length (pad6 vs) = L at *
  clear hLL hc1
  generalize cellsV vs = cs at *
  generalize vs.length = n at *
  have hn6 : (n : Int) ≤ 6 := by omega
  have hn0 : n ≤ 6 := h6
  clear h6 hx
  have hBn := Lib.hid (Box.new w 64 L)
  generalize hw1 : w.alloc (.cells L.toArray 64) = w1 at *
  have HB1 : Hid (Below w.heap.size w w1) := by rw [← hw1]; exact below_own _
  go_enter Try.func39, Try.ntmps39
  go_upto_region 1 with fail

  clear hw1
  go_upto_region 2 with (first
    | (refine wpList_load_mid rfl 64 (.tmp 1) rfl w.heap.size 0 rfl L _ hBn.out.range Try.underlying64 rfl (say_infoL HLn.out) ?_)
    | (go_at_call 35; refine (HO.out _).mono ?_; rintro e w2 ⟨rfl, hb2⟩; have HB2 := Lib.hid (HB1.out.trans (hb2.mono HB1.out.size)); clear hb2)
    | (refine wpList_store_mid rfl 64 (.tmp 3) (.tmp 5) rfl w2.heap.size 0 L.toArray rfl rfl ((Box.new w2 64 (sayL 0 0 zeros6)).there 0 L.toArray.size (by show 0 + L.length ≤ 20; rw [HLn.out]; decide)) (say_info HLn.out) (all_oneCell_toArray H1.out) ?_))
  have hB3 : Box ((w2.alloc (.cells (sayL 0 0 zeros6).toArray 64)).setCells w2.heap.size 0 L) w2.heap.size 64 L := (Box.new _ _ _).setAll L (by rw [HLn.out]; rfl)
  have hl3 : Below w.heap.size w ((w2.alloc (.cells (sayL 0 0 zeros6).toArray 64)).setCells w2.heap.size 0 L) := (below_new HB2.out _).grown (grownBy_setCells _ _ _ _) (below_new HB2.out (.cells (sayL 0 0 zeros6).toArray 64)).size (fun j hj => by cases hj; exact HB2.out.size)
  have H3 := Lib.hid hB3
  have HL3 := Lib.hid hl3
  clear hB3 hl3
  generalize hW3 : World.setCells _ _ _ _ = W3
  have HB3 : Hid (Box W3 w2.heap.size 64 L) := by rw [← hW3]; exact H3.out
  have HBl3 : Hid (Below w.heap.size w W3) := by rw [← hW3]; exact HL3.out
  clear hW3 H3 HL3 HB1 HB2 hBn HO
  obtain ⟨y1, y2⟩ := HC.out _ _ HB3.out
  have HY := Lib.hid y2
  clear y2 HC HLn H1
  generalize w2.heap.size = g at *
  have hle : w.heap.size ≤ W3.heap.size := HBl3.out.size
  go_wp2_with (at_builtin; refine wpList_append_apart _ rfl (.const (.slice none 0 0)) (.tmp 9) 35 rfl w.heap.size 33 i0 (.agg #[.int .u8 0, .int .i64 0, .string ⟨#[]⟩]) 3 32 Try.underlying35 hi hz0 hz1 hz2 rfl (by decide) _ 0 [] rfl (World.ownsRow_nil _ _ _ _) (some ⟨g, 2, none⟩) n 6 cs rfl hlen (fun h => by cases h) (fun ad h j u hu => by cases h; rw [Addr.add_lit]; exact HY.out j u hu) HV1.out (by unfold maxLen; omega) (by omega) hle ?_; intro v' w3 hown' hgrow' hor)
  obtain ⟨a', c', rfl⟩ := owns_slice hown'
  rw [Nat.zero_add] at hown' ⊢
  go_ret
  exact ⟨a', c', rfl, by simpa using hown', HBl3.out.grown hgrow' hle (fun k hk => by cases hk)⟩
end Go.Proofs.Ytajhngkdnkbfcaa
