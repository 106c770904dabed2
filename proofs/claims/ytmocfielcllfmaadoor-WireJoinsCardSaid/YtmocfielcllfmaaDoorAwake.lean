/- The chapter's examples. -/
import Derived.Test.YtmocfielcllfmaaDoorSameF
namespace Go.Proofs.YtmocfielcllfmaaDoor
open Go.RowKit

theorem slB_made (w : World) (cs : Array Value) (l : List UInt8) (h : cs = (bcells l).toArray) : SlB (w.alloc (.cells cs 5)) (some ⟨w.heap.size, 0, none⟩) l l.length := by
  subst h
  refine ⟨(fun h => by cases h), fun _ => ⟨_, 0, rfl, by simp, fun j hj => ?_⟩⟩
  rw [Nat.zero_add]
  exact cells_made _ _ _ _ _ (by simp [Lib.byteCells, hj])
theorem slG_made (w : World) (cs : Array Value) (l : List UInt8) (h : cs = (bcells l).toArray) : SlG (w.alloc (.cells cs 5)).heap.size (w.alloc (.cells cs 5)) (some ⟨w.heap.size, 0, none⟩) (bcells l) := by
  subst h
  refine fun _ => ⟨_, 0, rfl, by simp, fun j u hj => ?_⟩
  rw [Nat.zero_add]
  exact cells_made _ _ _ _ _ (by simpa using hj)
theorem SlG.slB {w : World} {ao : Option Addr} {l : List UInt8} {c : Nat} (h : SlG w.heap.size w ao (bcells l)) (hn : ao = none → c = 0) : SlB w ao l c := by
  refine ⟨fun e => ⟨?_, hn e⟩, fun hl => h.cellB hl⟩
  cases l with
  | nil => rfl
  | cons x l =>
    obtain ⟨sb, off, e', _⟩ := h.cellB (by simp)
    rw [e] at e'
    cases e'
theorem owns_none {w : World} {base : Nat} {ao : Option Addr} {c n : Nat} {xs : List Value} (h : w.ownsRow base 5 1 (.slice ao n c) n xs) : ao = none → c = 0 := by
  rintro rfl
  rcases h.2 with ⟨h1, _⟩ | ⟨g, cap, cur, h1, _⟩
  · simp only [Value.slice.injEq] at h1
    exact h1.2.2
  · simp at h1

/-- A reader of one that was read. -/
theorem new_at (ao : Option Addr) (l : List UInt8) (n c : Nat) (hn : n = l.length) (w : World) (hl : l.length ≤ 140737488355328) (h : SlB w ao l c) :
    Calls Tryd.prog 13 #[.slice ao n c] w (NewP l w) := by
  subst hn
  exact new_any ao l c w hl h

theorem sameB_at (ao1 ao2 : Option Addr) (n1 n2 c1 c2 : Nat) (l : List UInt8) (h1' : n1 = l.length) (h2' : n2 = l.length) (hm : l.length ≤ 9223372036854775807) (w : World) (h1 : SlG w.heap.size w ao1 (bcells l)) (h2 : SlG w.heap.size w ao2 (bcells l)) :
    Calls Tryd.prog 12 #[.slice ao1 n1 c1, .slice ao2 n2 c2] w (YesP w) := by
  subst h1'
  subst h2'
  exact sameB ao1 ao2 c1 c2 l hm w h1 h2

/-- What was written, by its length. -/
def WroteP (out : List UInt8) (w : World) (e : Ending) (w' : World) : Prop :=
  ∃ ao c, e = .returned (.slice ao out.length c) ∧ (ao = none → c = 0) ∧ SlG w'.heap.size w' ao (bcells out) ∧ Below w.heap.size w w'
theorem WrittenP.wrote {out : List UInt8} {w : World} {e : Ending} {w' : World} (h : WrittenP out w e w') : WroteP out w e w' := by
  obtain ⟨ao, c, h1, h2, h3⟩ := h
  exact ⟨ao, c, h1, owns_none h2, owns_slB h2, h3⟩

def abT : ByteArray := ⟨#[97, 98]⟩
def minusTwo : List UInt8 := [255, 255, 255, 255, 255, 255, 255, 254]
def abBytes : List UInt8 := [2, 0, 0, 0, 2, 97, 98]

theorem writes_two (w : World) : Calls Tryd.prog 34 #[.int .i64 (-2)] w (WroteP minusTwo w) :=
  (writeN (-2) w (by decide)).mono fun _ _ h => h.wrote
theorem writes_ab (w : World) : Calls Tryd.prog 37 #[.agg #[.int .u8 2, .int .i64 0, .string ⟨#[97, 98]⟩]] w (WroteP abBytes w) :=
  (writeV (2, 0, abT) w ⟨by decide, by decide⟩ (by decide)).mono fun _ _ h => h.wrote
theorem writes_none (w : World) : Calls Tryd.prog 38 #[.slice none 0 0] w (WroteP [0, 0, 0, 0] w) :=
  (writeL [] none 0 w ⟨by decide, fun x hx => by cases hx⟩ (fun h => absurd rfl h) (by decide)).mono fun _ _ h => h.wrote

/-- A reader that others leave alone. -/
theorem RdS.far {w w' : World} {R pb B : Nat} {s : St} {pb' : Nat} (h : RdS w R pb B s) (f : Fr pb' w w') (hp : B ≤ pb') : RdS w' R pb B s := h.below' (f.below h.lb hp)

theorem join_two (ao1 ao2 : Option Addr) (c1 c2 : Nat) (w : World) (g : Nat) (hg : g = w.heap.size) (h1 : SlG w.heap.size w ao1 (bcells minusTwo)) (h2 : SlG w.heap.size w ao2 (bcells abBytes)) :
    Calls Tryd.prog 9 #[.slice (some ⟨g, 0, none⟩) 2 2] (w.alloc (.cells #[.slice ao1 minusTwo.length c1, .slice ao2 abBytes.length c2] 23)) (WroteP (minusTwo ++ abBytes) (w.alloc (.cells #[.slice ao1 minusTwo.length c1, .slice ao2 abBytes.length c2] 23))) := by
  subst hg
  refine (join_any (some ⟨w.heap.size, 0, none⟩) [minusTwo, abBytes] 2 (by decide) _ (fun _ => ⟨w.heap.size, 0, rfl, by simp, fun j hj => ?_⟩) (by decide)).mono fun _ _ h => ?_
  · match j, hj with
    | 0, _ => exact ⟨ao1, c1, cells_made _ _ _ _ _ rfl, h1.up (below_own _) (by simp)⟩
    | 1, _ => exact ⟨ao2, c2, cells_made _ _ _ _ _ rfl, h2.up (below_own _) (by simp)⟩
  · have := h.wrote
    simpa using this

set_option maxRecDepth 100000 in
set_option maxHeartbeats 4000000 in
theorem awake_any (w : World) : Calls Tryd.prog 7 #[] w (YesP w) := by
  have K1 := Lib.hid (new_at (some ⟨w.heap.size, 0, none⟩) [0, 0, 0] 3 3 rfl _ (by decide) (slB_made w #[.int .u8 0, .int .u8 0, .int .u8 0] [0, 0, 0] (by rfl)))
  have HA := Lib.hid (below_own (w := w) (.cells #[.int .u8 0, .int .u8 0, .int .u8 0] 5))
  go_enter Tryd.func7, Tryd.ntmps7
  go_wp2_with (go_at_call 13; refine (K1.out).mono ?_; rintro e w1 ⟨R1, p1, B1, rfl, hr, hp, hR, hb⟩; refine Hid.out ?_)
  have P1 : w.heap.size ≤ p1 := by have := HA.out.size; omega
  have R1' : w.heap.size ≤ R1 := by have := HA.out.size; omega
  have HB := Lib.hid (HA.out.trans (hb.mono HA.out.size))
  have K2 := Lib.hid (pubAtN R1 p1 B1 ([0, 0, 0], false) w1 hr (by intro h; cases h))
  rw [show pubS numP 0 (([0, 0, 0], false) : St) = (0, badS) by decide] at K2
  have HB1 := Lib.hid (show B1 ≤ w1.heap.size from hr.lb)
  clear hr hb hp hR K1 HA
  refine Lib.hid ?_
  go_wp2_with (go_at_call 18; refine (K2.out).mono ?_; rintro e w2 ⟨rfl, hr, hf⟩; refine Hid.out ?_)
  have HR := Lib.hid hr
  have HC := Lib.hid (HB.out.trans (hf.below HB.out.size P1))
  have L2 : B1 ≤ w2.heap.size := hr.lb
  clear hr hf K2 HB HB1
  refine Lib.hid ?_
  go_wp2_with (go_at_call 34; refine (writes_two _).mono ?_; rintro e w3 ⟨ao1, c1, rfl, hn, hs, hb⟩; refine Hid.out ?_)
  have S1 := Lib.hid hs
  have HR3 := Lib.hid (HR.out.below hb)
  have HC3 := Lib.hid (below_step HC.out hb)
  clear hn hs hb HR HC
  refine Lib.hid ?_
  go_wp2_with (go_at_call 37; refine (writes_ab _).mono ?_; rintro e w4 ⟨ao2, c2, rfl, hn, hs, hb⟩; refine Hid.out ?_)
  have S2 := Lib.hid hs
  have S1' := Lib.hid (S1.out.up hb hb.size)
  have HR4 := Lib.hid (HR3.out.below hb)
  have HC4 := Lib.hid (below_step HC3.out hb)
  have J := Lib.hid (join_two ao1 ao2 c1 c2 w4 w4.heap.size rfl S1'.out hs)
  clear hn hs hb HR3 HC3 S1 S2 S1'
  refine Lib.hid ?_
  go_wp2_with (go_at_call 9; refine (J.out).mono ?_; rintro e w5 ⟨ao3, c3, rfl, hn, hs, hb⟩; refine Hid.out ?_)
  have HR5 := Lib.hid ((HR4.out.alloc _).below hb)
  have HC5 := Lib.hid (below_step (below_new HC4.out _) hb)
  have N := Lib.hid (new_at ao3 (minusTwo ++ abBytes) (minusTwo ++ abBytes).length c3 rfl w5 (by decide) (hs.slB hn))
  clear hn hs hb HR4 HC4 J
  refine Lib.hid ?_
  go_wp2_with (go_at_call 13; refine (N.out).mono ?_; rintro e w6 ⟨R2, p2, B2, rfl, hr, hp, hR, hb⟩; refine Hid.out ?_)
  have P2 : w5.heap.size ≤ p2 := hp
  have L5 : B1 ≤ w5.heap.size := HR5.out.lb
  have HR6 := Lib.hid (HR5.out.below hb)
  have HC6 := Lib.hid (below_step HC5.out hb)
  have K3 := Lib.hid (pubAtN R2 p2 B2 (minusTwo ++ abBytes, false) w6 hr (by intro h; cases h))
  rw [show pubS numP 0 ((minusTwo ++ abBytes, false) : St) = (-2, (abBytes, false)) by decide] at K3
  have W5 : w.heap.size ≤ w5.heap.size := HC5.out.size
  clear hr hb hp hR N HR5 HC5
  refine Lib.hid ?_
  go_wp2_with (go_at_call 18; refine (K3.out).mono ?_; rintro e w7 ⟨rfl, hr, hf⟩; refine Hid.out ?_)
  have HR7 := Lib.hid (HR6.out.far hf (Nat.le_trans L5 P2))
  have HC7 := Lib.hid (HC6.out.trans (hf.below HC6.out.size (Nat.le_trans W5 P2)))
  have K4 := Lib.hid (pubAtV R2 p2 B2 (abBytes, false) w7 hr (by intro h; cases h))
  rw [show pubS valueP (0, 0, ⟨#[]⟩) ((abBytes, false) : St) = ((2, 0, abT), ([], false)) by rfl] at K4
  clear hr hf K3 HR6 HC6
  refine Lib.hid ?_
  go_wp2_with (go_at_call 20; refine (K4.out).mono ?_; rintro e w8 ⟨rfl, hr, hf⟩; refine Hid.out ?_)
  have HR8 := Lib.hid (HR7.out.far hf (Nat.le_trans L5 P2))
  have HC8 := Lib.hid (HC7.out.trans (hf.below HC7.out.size (Nat.le_trans W5 P2)))
  have HX8 := Lib.hid hr
  clear hr hf K4 HR7 HC7
  refine Lib.hid ?_
  unfold aggV
  have KB := Lib.hid (show Calls Tryd.prog 14 #[.pointer (some ⟨R1, 0, none⟩)] (w8.alloc (.cells #[.int .u8 2, .int .i64 0, .string ⟨#[97, 98]⟩] 46)) (fun e w' => e = .returned (.bool true) ∧ w8.alloc (.cells #[.int .u8 2, .int .i64 0, .string ⟨#[97, 98]⟩] 46) = w') from bad_any R1 p1 B1 badS _ (HR8.out.alloc _))
  have KD := Lib.hid (show Calls Tryd.prog 15 #[.pointer (some ⟨R1, 0, none⟩)] (w8.alloc (.cells #[.int .u8 2, .int .i64 0, .string ⟨#[97, 98]⟩] 46)) (fun e w' => e = .returned (.bool false) ∧ w8.alloc (.cells #[.int .u8 2, .int .i64 0, .string ⟨#[97, 98]⟩] 46) = w') from done_any R1 p1 B1 badS _ (HR8.out.alloc _))
  have HX9 := Lib.hid (HX8.out.alloc (.cells #[.int .u8 2, .int .i64 0, .string ⟨#[97, 98]⟩] 46))
  have HC9 := Lib.hid (below_new HC8.out (.cells #[.int .u8 2, .int .i64 0, .string ⟨#[97, 98]⟩] 46))
  have HB9 := Lib.hid (Below.refl (w8.alloc (.cells #[.int .u8 2, .int .i64 0, .string ⟨#[97, 98]⟩] 46)).heap.size (w8.alloc (.cells #[.int .u8 2, .int .i64 0, .string ⟨#[97, 98]⟩] 46)))
  clear HR8 HX8 HC8
  go_wp2_with (go_at_call 14; refine (KB.out).mono ?_; rintro e w9 ⟨rfl, rfl⟩; refine Hid.out ?_)
  refine Lib.hid ?_
  go_wp2_with (go_at_call 15; refine (KD.out).mono ?_; rintro e w9 ⟨rfl, rfl⟩; refine Hid.out ?_)
  clear KB KD
  refine Lib.hid ?_
  go_wp2_with (go_at_call 34; refine (writes_two _).mono ?_; rintro e w10 ⟨ao10, c10, rfl, hn, hs, hb⟩; refine Hid.out ?_)
  have HX10 := Lib.hid ((HX9.out.below hb).alloc (.cells #[.int .u8 255, .int .u8 255, .int .u8 255, .int .u8 255, .int .u8 255, .int .u8 255, .int .u8 255, .int .u8 254] 5))
  have HC10 := Lib.hid (below_new (below_step HC9.out hb) (.cells #[.int .u8 255, .int .u8 255, .int .u8 255, .int .u8 255, .int .u8 255, .int .u8 255, .int .u8 255, .int .u8 254] 5))
  have HB10 := Lib.hid (below_new (below_step HB9.out hb) (.cells #[.int .u8 255, .int .u8 255, .int .u8 255, .int .u8 255, .int .u8 255, .int .u8 255, .int .u8 255, .int .u8 254] 5))
  have KS := Lib.hid (sameB_at ao10 (some ⟨w10.heap.size, 0, none⟩) minusTwo.length 8 c10 8 minusTwo rfl rfl (by decide) _ (hs.up (below_own (.cells #[.int .u8 255, .int .u8 255, .int .u8 255, .int .u8 255, .int .u8 255, .int .u8 255, .int .u8 255, .int .u8 254] 5)) (by simp)) (slG_made w10 #[.int .u8 255, .int .u8 255, .int .u8 255, .int .u8 255, .int .u8 255, .int .u8 255, .int .u8 255, .int .u8 254] minusTwo (by rfl)))
  clear hn hs hb HX9 HC9 HB9
  refine Lib.hid ?_
  go_wp2_with (go_at_call 12; refine (KS.out).mono ?_; rintro e w11 ⟨rfl, hb⟩; refine Hid.out ?_)
  have HX11 := Lib.hid (HX10.out.below hb)
  have HC11 := Lib.hid (below_step HC10.out hb)
  have HB11 := Lib.hid (below_step HB10.out hb)
  clear hb KS HX10 HC10 HB10
  refine Lib.hid ?_
  go_wp2_with (go_at_call 37; refine (writes_ab _).mono ?_; rintro e w12 ⟨ao12, c12, rfl, hn, hs, hb⟩; refine Hid.out ?_)
  have HX12 := Lib.hid ((HX11.out.below hb).alloc (.cells #[.int .u8 2, .int .u8 0, .int .u8 0, .int .u8 0, .int .u8 2, .int .u8 97, .int .u8 98] 5))
  have HC12 := Lib.hid (below_new (below_step HC11.out hb) (.cells #[.int .u8 2, .int .u8 0, .int .u8 0, .int .u8 0, .int .u8 2, .int .u8 97, .int .u8 98] 5))
  have HB12 := Lib.hid (below_new (below_step HB11.out hb) (.cells #[.int .u8 2, .int .u8 0, .int .u8 0, .int .u8 0, .int .u8 2, .int .u8 97, .int .u8 98] 5))
  have KS := Lib.hid (sameB_at ao12 (some ⟨w12.heap.size, 0, none⟩) abBytes.length 7 c12 7 abBytes rfl rfl (by decide) _ (hs.up (below_own (.cells #[.int .u8 2, .int .u8 0, .int .u8 0, .int .u8 0, .int .u8 2, .int .u8 97, .int .u8 98] 5)) (by simp)) (slG_made w12 #[.int .u8 2, .int .u8 0, .int .u8 0, .int .u8 0, .int .u8 2, .int .u8 97, .int .u8 98] abBytes (by rfl)))
  clear hn hs hb HX11 HC11 HB11
  refine Lib.hid ?_
  go_wp2_with (go_at_call 12; refine (KS.out).mono ?_; rintro e w13 ⟨rfl, hb⟩; refine Hid.out ?_)
  have HX13 := Lib.hid (HX12.out.below hb)
  have HC13 := Lib.hid (below_step HC12.out hb)
  have HB13 := Lib.hid (below_step HB12.out hb)
  clear hb KS HX12 HC12 HB12
  refine Lib.hid ?_
  go_wp2_with (go_at_call 38; refine (writes_none _).mono ?_; rintro e w14 ⟨ao14, c14, rfl, hn, hs, hb⟩; refine Hid.out ?_)
  have HX14 := Lib.hid ((HX13.out.below hb).alloc (.cells #[.int .u8 0, .int .u8 0, .int .u8 0, .int .u8 0] 5))
  have HC14 := Lib.hid (below_new (below_step HC13.out hb) (.cells #[.int .u8 0, .int .u8 0, .int .u8 0, .int .u8 0] 5))
  have HB14 := Lib.hid (below_new (below_step HB13.out hb) (.cells #[.int .u8 0, .int .u8 0, .int .u8 0, .int .u8 0] 5))
  have KS := Lib.hid (sameB_at ao14 (some ⟨w14.heap.size, 0, none⟩) ([0, 0, 0, 0] : List UInt8).length 4 c14 4 [0, 0, 0, 0] rfl rfl (by decide) _ (hs.up (below_own (.cells #[.int .u8 0, .int .u8 0, .int .u8 0, .int .u8 0] 5)) (by simp)) (slG_made w14 #[.int .u8 0, .int .u8 0, .int .u8 0, .int .u8 0] [0, 0, 0, 0] (by rfl)))
  clear hn hs hb HX13 HC13 HB13
  refine Lib.hid ?_
  go_wp2_with (go_at_call 12; refine (KS.out).mono ?_; rintro e w15 ⟨rfl, hb⟩; refine Hid.out ?_)
  have HX15 := Lib.hid (HX14.out.below hb)
  have HC15 := Lib.hid (below_step HC14.out hb)
  have HB15 := Lib.hid (below_step HB14.out hb)
  clear hb KS HX14 HC14 HB14
  refine Lib.hid ?_
  obtain ⟨hc, -⟩ := bret HB15.out
  have KD := Lib.hid (show Calls Tryd.prog 15 #[.pointer (some ⟨R2, 0, none⟩)] w15 (fun e w' => e = .returned (.bool true) ∧ w15 = w') from done_any R2 p2 B2 ([], false) _ HX15.out)
  have KB := Lib.hid (show Calls Tryd.prog 14 #[.pointer (some ⟨R2, 0, none⟩)] w15 (fun e w' => e = .returned (.bool false) ∧ w15 = w') from bad_any R2 p2 B2 ([], false) _ HX15.out)
  clear HX15 HB15
  go_wp2_with (first
    | (go_at_call 15; refine (KD.out).mono ?_; rintro e w16 ⟨rfl, rfl⟩)
    | (go_at_call 14; refine (KB.out).mono ?_; rintro e w16 ⟨rfl, rfl⟩))
  go_ret
  exact ⟨rfl, HC15.out⟩
end Go.Proofs.YtmocfielcllfmaaDoor
