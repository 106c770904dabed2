/- ValueDoes is true: Do and what the document tells of it, of any row; what was lent is as it was. -/
import Derived.Test.YtcmbedopmkodmaaDoorRefDoAny
import Derived.Test.YtcmbedopmkodmaaDoorKept
import Derived.Test.YtcmbedopmkodmaaDoorLight
import Derived.Test.YtcmbedopmkodmaaDoorAwake
namespace Go.Proofs.YtcmbedopmkodmaaDoor
open Go.RowKit

theorem light_nil (ao : Option Addr) (c : Nat) (w : World) :
    Calls Tryd.prog 9 #[.slice ao 0 c] w fun e w' => e = .returned (.bool true) ∧ w = w' := by
  go_enter Tryd.func9, Tryd.ntmps9
  go_wp2
  go_loop [3] (fun i => i = .int .i64 0) (fun _ => 0)
  case atStart => rfl
  case round =>
    obtain rfl := hrel
    go_wp2
    go_ret
    exact ⟨rfl, rfl⟩

/-- Where a row lies, wherever its slice points. -/
def Lies (w : World) (ao : Option Addr) (n c : Nat) (zs : List V3) : Prop :=
  (n = 0 ∧ (ao = none → c = 0)) ∨ ∃ b off, ao = some ⟨b, off, none⟩ ∧ b < w.heap.size ∧ RowAt w b off zs

theorem Lies.later {w W : World} {ao : Option Addr} {n c : Nat} {zs : List V3} (h : Lies w ao n c zs) (hb : Below w.heap.size w W) : Lies W ao n c zs := by
  rcases h with h | ⟨b, off, h1, h2, h3⟩
  · exact Or.inl h
  · exact Or.inr ⟨b, off, h1, Nat.lt_of_lt_of_le h2 hb.size, h3.later hb h2⟩

theorem Lies.nil {w : World} {ao : Option Addr} {n c : Nat} {zs : List V3} (h : Lies w ao n c zs) : ao = none → n = 0 ∧ c = 0 := by
  rintro rfl
  rcases h with h | ⟨b, off, h1, _⟩
  · exact ⟨h.1, h.2 rfl⟩
  · cases h1

theorem Lies.row {w : World} {ao : Option Addr} {n c : Nat} {zs : List V3} (h : Lies w ao n c zs) : 0 < n → ∀ ad, ao = some ad → ∃ b off, ad = ⟨b, off, none⟩ ∧ b < w.heap.size ∧ RowAt w b off zs := by
  rintro hn ad rfl
  rcases h with h | ⟨b, off, h1, h2, h3⟩
  · exact absurd h.1 (by omega)
  · exact ⟨b, off, Option.some.inj h1, h2, h3⟩

theorem light_all (ao : Option Addr) (n c : Nat) (zs : List V3) (w : World) (hn : zs.length = n) (hz : n ≤ 9223372036854775807) (h : Lies w ao n c zs) (hm : Fine zs) :
    Calls Tryd.prog 9 #[.slice ao n c] w fun e w' => e = .returned (.bool (lightB zs)) ∧ w = w' := by
  rcases h with ⟨rfl, _⟩ | ⟨b, off, rfl, h2, h3⟩
  · obtain rfl := List.eq_nil_of_length_eq_zero hn
    exact light_nil ao c w
  · subst hn
    exact light_any b off c zs w hz h3 (fun x hx => (hm x hx).2)

theorem refDo_all (op : Int) (ao : Option Addr) (n c : Nat) (zs : List V3) (w : World) (hn : zs.length = n) (hz : n ≤ 9223372036854775807) (h : Lies w ao n c zs) (hm : Fine zs) :
    Calls Tryd.prog 12 #[.int .u8 op, .slice ao n c] w (DoPost (doV op zs) w) := by
  rcases h with ⟨rfl, _⟩ | ⟨b, off, rfl, h2, h3⟩
  · obtain rfl := List.eq_nil_of_length_eq_zero hn
    have hp : (((0 : Nat) : Int) != placesN op) = true := by
      unfold placesN
      split <;> rfl
    have hv : doV op [] = (zeroT, 2) := by
      unfold doV
      split
      · rfl
      · exact if_pos hp
    rw [hv]
    exact refDo_arg op ao 0 c w (Or.inr hp)
  · subst hn
    exact refDo_any op b off c zs w hz h2 h3 hm

theorem light_short {zs : List V3} (h : lightB zs = true) : zs.length ≤ 20 := by
  unfold lightB at h
  simp only [Bool.and_eq_true, decide_eq_true_eq] at h
  exact h.2

/-- Do at what was lent. -/
theorem do_lent (op : Int) (b n c : Nat) (zs ms : List V3) (w : World) (rk rn : Int) (rs : ByteArray) (re : Int) (h : doV op zs = ((rk, rn, rs), re)) (hn : zs.length = n) (hz : n ≤ 9223372036854775807) (hb : b < w.heap.size) (hc : RowAt w b 0 (zs ++ ms)) (hm : Fine zs) :
    Calls Tryd.prog 11 #[.int .u8 op, .slice (some ⟨b, 0, none⟩) n c] w fun e w' => e = .returned (.tuple #[.agg #[.int .u8 rk, .int .i64 rn, .string rs], .int .i64 re]) ∧ Below w.heap.size w w' := by
  subst hn
  have hd := do_any op b 0 c zs w hz hb (fun j hj => by
    have := hc j (by rw [List.length_append]; omega)
    rw [List.getElem_append_left hj] at this
    exact this) hm
  rw [h] at hd
  exact hd

theorem refDo_lies (op : Int) (ao : Option Addr) (n c : Nat) (zs : List V3) (w : World) (rk rn : Int) (rs : ByteArray) (re : Int) (h : doV op zs = ((rk, rn, rs), re)) (hn : zs.length = n) (hz : n ≤ 9223372036854775807) (hl : Lies w ao n c zs) (hm : Fine zs) :
    Calls Tryd.prog 12 #[.int .u8 op, .slice ao n c] w fun e w' => e = .returned (.tuple #[.agg #[.int .u8 rk, .int .i64 rn, .string rs], .int .i64 re]) ∧ Below w.heap.size w w' := by
  have hd := refDo_all op ao n c zs w hn hz hl hm
  rw [h] at hd
  exact hd

set_option maxRecDepth 100000 in
set_option maxHeartbeats 2000000 in
theorem does_any (op : Int) (ao : Option Addr) (n c : Nat) (zs : List V3) (w : World) (hn : zs.length = n) (hz : n ≤ 9223372036854775807) (hl : Lies w ao n c zs) (hm : Fine zs) :
    Calls Tryd.prog 3 #[.int .u8 op, .slice ao n c] w fun e w' => e = .returned (.bool true) ∧ Below w.heap.size w w' := by
  obtain ⟨⟨⟨rk, rn, rs⟩, re⟩, hr⟩ : ∃ r : V3 × Int, doV op zs = r := ⟨_, rfl⟩
  have HA := Lib.hid awake_any
  have HL := Lib.hid (fun W (h : Below w.heap.size w W) => light_all ao n c zs W hn hz (hl.later h) hm)
  have HS := Lib.hid (fun h : lightB zs = true => hn ▸ light_short h)
  have HT := Lib.hid (fun W (h : Below w.heap.size w W) (h20 : n ≤ 20) => lent_any ao n c zs W hn h20 (hl.later h).nil (hl.later h).row)
  have HD := Lib.hid (fun (W : World) (b : Nat) hb hc => do_lent op b n (n + 12) zs (marksV 12) W rk rn rs re hr hn hz hb hc hm)
  have HF := Lib.hid (fun W (h : Below w.heap.size w W) => refDo_lies op ao n c zs W rk rn rs re hr hn hz (hl.later h) hm)
  have HK := Lib.hid (fun (W : World) (b : Nat) (h : Below w.heap.size w W) (h20 : n ≤ 20) (hb : b < W.heap.size) ho => kept_any ao b n c zs W hn h20 hb (hl.later h).nil (hl.later h).row ho)
  generalize hlbe : lightB zs = lb at HL HS
  have heq := fun W => eqV rk rn rk rn rs rs W
  rw [(eqvB_iff (rk, rn, rs) (rk, rn, rs)).2 rfl] at heq
  have hg := eqGuardV
  clear hlbe hr hl hm hn hz
  go_enter Tryd.func3, Tryd.ntmps3
  go_wp2_with fail
  refine (HA.out _).mono ?_
  rintro e w1 ⟨rfl, hb1⟩
  have HB1 : Hid (Below w.heap.size w w1) := hb1
  clear hb1 HA
  go_wp2_with fail
  refine (HL.out _ HB1.out).mono ?_
  rintro e w2 ⟨rfl, rfl⟩
  cases lb with
  | false =>
    go_wp2
    go_ret
    exact ⟨rfl, HB1.out⟩
  | true =>
    have h20 : n ≤ 20 := HS.out rfl
    go_wp2_with fail
    refine (HT.out _ HB1.out h20).mono ?_
    rintro e w2 ⟨rfl, hB2, hrow2, hb2⟩
    obtain ⟨B, hBe⟩ : ∃ B, B = w1.heap.size := ⟨_, rfl⟩
    rw [← hBe] at hB2 hrow2 ⊢
    have HB2 : Hid (Below w.heap.size w w2) := below_step HB1.out hb2
    have HR2 : Hid (RowAt w2 B 0 (zs ++ marksV 12)) := hrow2
    clear hb2 hrow2 HL HT HS hBe
    go_wp2_with fail
    refine (HD.out _ _ hB2 HR2.out).mono ?_
    rintro e w3 ⟨rfl, hb3⟩
    have HB3 : Hid (Below w.heap.size w w3) := below_step HB2.out hb3
    have HR3 : Hid (RowAt w3 B 0 (zs ++ marksV 12)) := HR2.out.later hb3 hB2
    have hB3 : B < w3.heap.size := Nat.lt_of_lt_of_le hB2 hb3.size
    clear hb3 HD HB1 HB2 HR2 hB2
    go_wp2_with fail
    refine (HF.out _ (below_new HB3.out _)).mono ?_
    rintro e w4 ⟨rfl, hb4⟩
    obtain ⟨hc4, hf4⟩ := bret hb4
    have HB4 : Hid (Below w.heap.size w w4) := below_step (below_new HB3.out _) hb4
    have HR4 : Hid (RowAt w4 B 0 (zs ++ marksV 12)) := (HR3.out.later (below_own _) hB3).later hb4 (by simp; omega)
    have hz4 : w3.heap.size < w4.heap.size := by have := hb4.size; simp at this; omega
    have hB4 : B < w4.heap.size := by omega
    have hne : w3.heap.size ≠ w4.heap.size := by omega
    clear hb4 HF HB3 HR3
    go_wp2_with fail
    refine (HK.out _ B (below_new HB4.out _) h20 (by simp; omega) (HR4.out.later (below_own _) hB4)).mono ?_
    rintro e w5 ⟨rfl, hb5⟩
    have HB5 : Hid (Below w.heap.size w w5) := below_step (below_new HB4.out _) hb5
    clear hb5
    go_wp2
    go_ret
    exact ⟨rfl, HB5.out⟩
end Go.Proofs.YtcmbedopmkodmaaDoor
