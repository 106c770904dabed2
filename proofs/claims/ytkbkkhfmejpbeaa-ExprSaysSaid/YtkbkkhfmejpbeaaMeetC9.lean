/- meet of an operation that is known; meet of whatever expression. -/
import Derived.Test.YtkbkkhfmejpbeaaMeetB9
namespace Go.Proofs.Ytkbkkhfmejpbeaa
open Go.RowKit

section
variable {B : Nat} {w0 w : World} {R mb vb kb : Nat} {vo : Option Addr} {vc : Nat} {vs : List V3} {wv sv : Value} {ws : List Frm} {sd : List V3} {kn : List (Addr × V3)}

set_option maxRecDepth 100000 in
set_option maxHeartbeats 4000000 in
theorem meet_known (h : WS B w0 w R mb vb kb vo vc vs wv sv ws sd kn) (k : Kn B w0 vs ws kn) (a : Addr) (c : X) (ha : At9 B w0 a c) (h3 : c.kind = 3) (hs : sd.length ≤ 1000000)
    (hway : ∀ f, f ∈ ws → f.t ≠ c) (hyes : ¬ ∀ p, p ∈ kn → p.1 ≠ a) :
    Calls Try.prog 45 #[.pointer (some ⟨R, 0, none⟩), .pointer (some a)] w (MeetP B w0 R mb vb kb vo vc vs ws sd kn a c) := by
  have hat := ha.up h.base h.B_le
  have hga := goodX ha h.base
  obtain ⟨ok, v, j, hrun0, hn0, hy0⟩ := lookup_any kPtr a 57 25 (aggV zeroT) Try.underlying57 zeroV w kb _ h.known hga (k.good h.base)
  cases ok with
  | false =>
    refine absurd (fun p hp => ?_) hyes
    exact (hn0 rfl).2 (p.1, aggV p.2) (List.mem_map.2 ⟨p, hp, rfl⟩)
  | true =>
    obtain ⟨y, hy, hya⟩ := hy0 rfl
    obtain rfl := hya trivial
    obtain ⟨p, hp, hpe⟩ := List.mem_map.1 hy
    obtain ⟨p1, p2⟩ := p
    simp only [Prod.mk.injEq] at hpe
    obtain ⟨rfl, rfl⟩ := hpe
    obtain ⟨t, ht, hmean⟩ := k.mean _ hp
    obtain rfl := ht.one ha
    have hev : evalX vs t = (p2, 0) ∧ p2.1 ≠ 0 := by
      rcases hmean with h1 | ⟨-, f, hf, hfa⟩
      · exact h1
      · have h1 := k.each f hf
        rw [hfa] at h1
        exact absurd (h1.one ha) (hway f hf)
    obtain ⟨r1, r2, r3⟩ := p2
    have hz1 : (r1 == 0) = false := beq_eq_false_iff_ne.2 hev.2
    have heq := fun W => eqV r1 r2 0 0 r3 ⟨#[]⟩ W
    have hne0 : eqvB (r1, r2, r3) (0, 0, ⟨#[]⟩) = false := by simp [eqvB, hz1]
    rw [hne0] at heq
    have hg := eqGuardV
    have HE := Lib.hid hev.1
    have Hj := h.up (RowKit_drewN (Below.refl _ w) j)
    have hrun : (Instr.lookup 57 (.map (some kb)) (.pointer (some p1)) true).run Try.prog w = .ok (.tuple #[.agg #[.int .u8 r1, .int .i64 r2, .string r3], .bool true]) (w.drewN j) := hrun0
    clear hrun0
    generalize w.drewN j = w1 at hrun Hj
    obtain ⟨sb, o, ao, cc, kb', ko, rfl, hb, c0, -⟩ := hat.cells
    rw [h3] at c0
    obtain ⟨i0, hi, hi0, hi1, hi2⟩ := info_parts infoV
    have b3 := Lib.cell_of_heap h.box 3
    have d2 := Lib.cell_of_heap Hj.box 2
    have df := fun j => Lib.frozen_of_heap Hj.box j
    have hjl := lt_of_heap Hj.box
    have hR1 : R ≠ w1.heap.size := by omega
    have hR2 : R ≠ w1.heap.size + 1 := by omega
    have HO := Lib.hid Hj.said
    have HH := Lib.hid Hj
    have HT := Lib.hid (fun e => (tag_ne Hj.box (Classical.choose_spec (Classical.choose_spec (owns_tag Hj.said R e))) (by decide)) rfl)
    have hBw1 := Hj.B_le
    clear hat hga hn0 hy hya hy0 hp ht hmean hev hz1 hne0 Hj h k ha hyes hway
    go_enter Try.func45, Try.ntmps45
    go_wp2_with fail
    go_region_law (refine step_append_apart rfl (.tmp 56) (.tmp 58) 30 rfl B 25 i0 (.agg #[.int .u8 0, .int .i64 0, .string ⟨#[]⟩]) 3 32 Try.underlying30 hi hi0 hi1 hi2 rfl (by decide) sv sd.length (cellsV sd) rfl (HO.out.alloc _ |>.alloc _) ⟨w1.heap.size + 1, 0, none⟩ 1 1 (cellsV [(r1, r2, r3)]) rfl rfl (fun j u hu => by rw [Addr.add_lit, Nat.zero_add]; exact (cell_heap rfl _).trans (cells_made2 w1 (.cells #[.int .u8 r1, .int .i64 r2, .string r3] 25) #[.int .u8 r1, .int .i64 r2, .string r3] 25 _ rfl j u (by simpa [cellsV] using hu))) (cellsV_one _) (by unfold maxLen; omega) (by omega) (by simp; omega) ?_; intro ao' c' w' h2 h3 h4; have HX := Lib.hid (And.intro h2 h3); have hbx : w'.heap[R]? = _ := (h3.block R (by simp; omega) (fun e => HT.out e.symm)).trans (alloc_keep (alloc_keep HH.out.box (.cells #[.int .u8 r1, .int .i64 r2, .string r3] 25)) (.cells #[.int .u8 r1, .int .i64 r2, .string r3] 25)); have x2 := Lib.cell_of_heap hbx 2; have xf := fun j => Lib.frozen_of_heap hbx j; clear h2 h3 h4 hbx)
    all_goals go_wp2_with fail
    all_goals
      go_ret
      refine ⟨0, rfl, Or.inl ⟨rfl, by rw [HE.out], wv, .slice ao' (sd.length + 1) c', ?_⟩⟩
      rw [HE.out]
      refine (HH.out.up (((Below.refl w1.heap.size w1).alloc (Nat.le_refl _) _).drew.alloc (by simp) _)).setSaid HX.out.2 (sv' := .slice ao' (sd.length + 1) c') (sd' := sd ++ [(r1, r2, r3)]) ?_
      rw [cellsV_append, List.length_append]
      exact HX.out.1

/-- meet of whatever expression that is not on the way. -/
theorem meet_any (h : WS B w0 w R mb vb kb vo vc vs wv sv ws sd kn) (k : Kn B w0 vs ws kn) (a : Addr) (c : X) (ha : At9 B w0 a c) (hh : Held c) (hs : sd.length ≤ 1000000) (hw : ws.length ≤ 1000000)
    (hway : ∀ f, f ∈ ws → f.t ≠ c) :
    Calls Try.prog 45 #[.pointer (some ⟨R, 0, none⟩), .pointer (some a)] w (MeetP B w0 R mb vb kb vo vc vs ws sd kn a c) := by
  by_cases h3 : c.kind = 3
  · by_cases hno : ∀ p, p ∈ kn → p.1 ≠ a
    · exact meet_push h k a c ha h3 hw hno
    · exact meet_known h k a c ha h3 hs hway hno
  · exact meet_leaf h a c ha hh h3 hs
end
end Go.Proofs.Ytkbkkhfmejpbeaa
