/- MemoryNil: no memory, and one that nobody made. -/
import Derived.Test.YtajhngkdnkbfcaaKit11
namespace Go.Proofs.Ytajhngkdnkbfcaa
open Go.RowKit

/-- The two of them, in a row. -/
structure NilW (lb zb : Nat) (w W : World) : Prop where
  row : Box W lb 23 [.pointer none, .pointer (some ⟨zb, 0, none⟩)]
  zero : Box W zb 26 [.pointer none]
  bel : Below w.heap.size w W
theorem NilW.old {lb zb : Nat} {w W W' : World} (h : NilW lb zb w W) (b : Below W.heap.size W W') : NilW lb zb w W' := ⟨h.row.old b, h.zero.old b, h.bel.trans (b.mono h.bel.size)⟩
def nilP (zb k : Nat) : Option Addr := if k = 0 then none else some ⟨zb, 0, none⟩
theorem NilW.get {lb zb : Nat} {w W : World} (h : NilW lb zb w W) {k : Nat} (hk : k < 2) : W.cell? ⟨lb, k, none⟩ = some (.pointer (nilP zb k)) ∧ Unmade W (nilP zb k) := by
  have hk2 : k = 0 ∨ k = 1 := by omega
  rcases hk2 with rfl | rfl
  · exact ⟨by rw [h.row.cell]; rfl, Or.inl rfl⟩
  · exact ⟨by rw [h.row.cell]; rfl, Or.inr ⟨zb, rfl, h.zero⟩⟩
theorem find1_nil (p : Option Addr) (kind : Int) (w : World) (hu : Unmade w p) (x : Int) (g : Nat) (hg : w.heap[g]? = some (.cells #[.int .u8 1, .int .i64 x, .string ⟨#[]⟩] 33 (0, 0))) :
    Calls Try.prog 10 #[.pointer p, .int .i64 kind, .slice (some ⟨g, 0, none⟩) 1 1] w fun e w' => e = .returned (.tuple #[.int .i64 0, .bool false]) ∧ Below w.heap.size w w' :=
  find_nil p kind [numT x] (some ⟨g, 0, none⟩) 1 w hu (sl_one (v := numT x) hg) (fun v hv => by obtain rfl := List.mem_singleton.1 hv; exact Nat.zero_le _) (by show 1 ≤ 100000; decide)
theorem zeroF_at (w : World) : FAt w.heap.size w ⟨0, 0, []⟩ (.agg #[.int .i64 0, .int .i64 0, .slice none 0 0]) := ⟨none, 0, rfl, sl_none w⟩
theorem same_zero (w : World) : Calls Try.prog 12 #[.agg #[.int .i64 0, .int .i64 0, .slice none 0 0], .agg #[.int .i64 0, .int .i64 0, .slice none 0 0]] w fun e w' => e = .returned (.bool true) ∧ Below w.heap.size w w' :=
  sameFact_any ⟨0, 0, []⟩ ⟨0, 0, []⟩ _ _ w (zeroF_at w) (zeroF_at w)
set_option maxRecDepth 100000 in
set_option maxHeartbeats 4000000 in
theorem memoryNil_any (id kind : Int) (w : World) : Calls Try.prog 3 #[.int .i64 id, .int .i64 kind] w (YesP w) := by
  unfold YesP
  have mixed : Try.prog.follows .mixedOrders = true := by kernel_rfl
  go_enter Try.func3, Try.ntmps3
  go_upto_region 3 with (go_at_call 6; refine (awake_any _).mono ?_; rintro e w1 ⟨rfl, hb⟩; have HB1 := Lib.hid hb; clear hb)
  go_upto_region 5 with fail
  have hN : NilW (w1.heap.size + 1) w1.heap.size w ((w1.alloc (.cells ([.pointer none] : List Value).toArray 26)).alloc (.cells ([.pointer none, .pointer (some ⟨w1.heap.size, 0, none⟩)] : List Value).toArray 23)) :=
    ⟨alloc_at (by simp) _, (Box.new _ _ _).keep _, below_new (below_new HB1.out _) _⟩
  have HN0 := Lib.hid hN
  clear hN
  generalize hW2 : World.alloc _ _ = W2
  have HN : Hid (NilW (w1.heap.size + 1) w1.heap.size w W2) := by rw [← hW2]; exact HN0.out
  clear hW2 HN0 HB1
  generalize w1.heap.size + 1 = lb at *
  generalize w1.heap.size = zb at *
  go_loopw [6] (fun i wr => ∃ k : Nat, k ≤ 2 ∧ i = .int .i64 k ∧ Hid (NilW lb zb w wr)) (fun i _ => 2 - (intOf i).toNat)
  case atStart => exact ⟨0, by omega, rfl, HN⟩
  case round =>
    obtain ⟨k, hk, rfl, HW⟩ := hrel
    by_cases hlt : k < 2
    · have hk2 : (k : Int) < 2 := by omega
      have HG := Lib.hid (fun W (h : NilW lb zb w W) => h.get hlt)
      have HC := Lib.hid (fun W (h : NilW lb zb w W) => (h.get hlt).1)
      have HU := Lib.hid (fun W (h : NilW lb zb w W) => (h.get hlt).2)
      generalize nilP zb k = p at *
      clear HN
      go_upto_region 7 with fail
      have HWd : Hid (NilW lb zb w wr.drew) := HW.out.old (below_drew (Below.refl _ _))
      go_region_held3 (fun W' => W'.cell? ⟨lb, k, none⟩ = some (.pointer p))
        (first | exact HC.out _ HWd.out | exact HC.out _ HWn.out | exact HC.out _ (HWn.out.old (below_own _)) | exact HC.out _ HWa.out)
        ((first
          | (go_at_call 8; refine (num_any _ _).mono ?_; rintro e wn ⟨rfl, hb⟩; have HWn := Lib.hid (HWd.out.old hb); clear hb)
          | (go_at_call 7; refine (add_nil p kind _ _ (HU.out _ (HWn.out.old (below_own _)))).mono ?_; rintro e wa ⟨rfl, hwa⟩; have HWa : Hid (NilW lb zb w wa) := (by rw [← hwa]; exact HWn.out.old (below_own _)); clear hwa)))
      have c1 := HC.out _ HWa.out
      have HGet := Lib.hid (fun W (h : NilW lb zb w W) => get_nil p id W (HU.out _ h))
      unfold SaysP11 at HGet
      clear HW HWd HWn
      go_upto_region 9 with (go_at_call 9; refine (HGet.out _ HWa.out).mono ?_; rintro e wg ⟨rfl, hb⟩; have HWg := Lib.hid (HWa.out.old hb); clear hb)
      have hbx : Box (wg.alloc (.cells ([.int .i64 0, .int .i64 0, .slice none 0 0] : List Value).toArray 37)) wg.heap.size 37 [.int .i64 0, .int .i64 0, .slice none 0 0] := Box.new _ _ _
      have hng := HWg.out.old (below_own (.cells ([.int .i64 0, .int .i64 0, .slice none 0 0] : List Value).toArray 37))
      have H1 := Lib.hid hbx
      have H2 := Lib.hid hng
      clear hbx hng c1 HWa HWg HGet
      generalize hW5 : World.alloc _ _ = W5
      have HBx : Hid (Box W5 wg.heap.size 37 [.int .i64 0, .int .i64 0, .slice none 0 0]) := by rw [← hW5]; exact H1.out
      have HN5 : Hid (NilW lb zb w W5) := by rw [← hW5]; exact H2.out
      clear hW5 H1 H2
      generalize wg.heap.size = fb at *
      have HNd : Hid (NilW lb zb w W5.drew) := HN5.out.old (below_drew (Below.refl _ _))
      have HBd : Hid (Box W5.drew fb 37 [.int .i64 0, .int .i64 0, .slice none 0 0]) := HBx
      go_region_held3 (fun W' => W'.cell? ⟨lb, k, none⟩ = some (.pointer p))
        (first | exact HC.out _ HNd.out | exact HC.out _ HWn.out | exact HC.out _ (HWn.out.old (below_own _)) | exact HC.out _ HWa.out)
        ((first
          | (go_at_call 8; refine (num_any _ _).mono ?_; rintro e wn ⟨rfl, hb⟩; have HWn := Lib.hid (HNd.out.old hb); have HBn := Lib.hid (HBd.out.old hb); clear hb)
          | (go_at_call 10; refine (find1_nil p kind _ (HU.out _ (HWn.out.old (below_own _))) 1 _ (alloc_at rfl _)).mono ?_; rintro e wa ⟨rfl, hb⟩; have HWa := Lib.hid ((HWn.out.old (below_own _)).old hb); have HBa := Lib.hid ((HBn.out.old (below_own _)).old hb); clear hb)))
      have c1 := HC.out _ HWa.out
      have y0 := HBa.out.cell 0
      have y1 := HBa.out.cell 1
      have y2 := HBa.out.cell 2
      simp only [List.getElem?_cons_zero, List.getElem?_cons_succ] at y0 y1 y2
      have HDrop := Lib.hid (drop_nil p id _ (HU.out _ HWa.out))
      clear HBd HNd HBx HN5 HWn HBn
      go_wp2_with (first
        | (go_at_call 11; refine (HDrop.out).mono ?_; rintro e w6 ⟨rfl, rfl⟩)
        | (go_at_call 12; refine (same_zero _).mono ?_; rintro e w7 ⟨rfl, hb⟩; have HW7 := Lib.hid (HWa.out.old hb); have c2 := HC.out _ HW7.out; have HAll := Lib.hid (all_nil p _ (HU.out _ HW7.out)); have HNx := Lib.hid (next_nil p _ (HU.out _ HW7.out)); have HLn := Lib.hid (len_nil p _ (HU.out _ HW7.out)); clear hb)
        | (go_at_call 13; refine (HAll.out).mono ?_; rintro e w8 ⟨rfl, rfl⟩)
        | (go_at_call 14; refine (HNx.out).mono ?_; rintro e w9 ⟨rfl, rfl⟩)
        | (go_at_call 15; refine (HLn.out).mono ?_; rintro e w10 ⟨rfl, rfl⟩))
      clear y0 y1 y2 c1 c2 HDrop HAll HNx HLn HG HC HU HWa HBa
      go_roundw
      case rel => exact ⟨k + 1, by omega, by go_num, HW7⟩
      case measure => simp [intOf]; omega
    · obtain rfl : k = 2 := by omega
      clear HN
      go_wp2_with fail
      go_ret
      exact ⟨rfl, HW.out.bel⟩
end Go.Proofs.Ytajhngkdnkbfcaa
