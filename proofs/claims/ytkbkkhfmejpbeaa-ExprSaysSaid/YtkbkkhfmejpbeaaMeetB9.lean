/- meet of an operation: known, or on the way from now on. -/
import Derived.Test.YtkbkkhfmejpbeaaMeet9
namespace Go.Proofs.Ytkbkkhfmejpbeaa
open Go.RowKit

theorem infoS : (Try.prog.info? 86).map (fun i => (i.zero, i.size, i.bytes)) = some (some (.agg #[.pointer none, .int .i64 0]), 2, 16) := by kernel_rfl
theorem goodX {B : Nat} {w0 w : World} {a : Addr} {t : X} (h : At9 B w0 a t) (b : Below B w0 w) : Good True w (some a) :=
  (h.up b (Nat.le_refl _)).good
section
variable {B : Nat} {w0 w : World} {R mb vb kb : Nat} {vo : Option Addr} {vc : Nat} {vs : List V3} {wv sv : Value} {ws : List Frm} {sd : List V3} {kn : List (Addr × V3)}

theorem Kn.good (k : Kn B w0 vs ws kn) (b : Below B w0 w) : ∀ p, p ∈ kn.map (fun p => (p.1, aggV p.2)) → Good True w (some p.1) := fun p hp => by
  obtain ⟨q, hq, rfl⟩ := List.mem_map.1 hp
  obtain ⟨t, ht, _⟩ := k.mean q hq
  exact goodX ht b

set_option maxRecDepth 100000 in
set_option maxHeartbeats 4000000 in
theorem meet_push (h : WS B w0 w R mb vb kb vo vc vs wv sv ws sd kn) (k : Kn B w0 vs ws kn) (a : Addr) (c : X) (ha : At9 B w0 a c) (h3 : c.kind = 3) (hw : ws.length ≤ 1000000)
    (hno : ∀ p, p ∈ kn → p.1 ≠ a) :
    Calls Try.prog 45 #[.pointer (some ⟨R, 0, none⟩), .pointer (some a)] w (MeetP B w0 R mb vb kb vo vc vs ws sd kn a c) := by
  have hat := ha.up h.base h.B_le
  have hga := goodX ha h.base
  have hno' : ∀ p, p ∈ kn.map (fun p => (p.1, aggV p.2)) → p.1 ≠ a := fun p hp => by
    obtain ⟨q, hq, rfl⟩ := List.mem_map.1 hp
    exact hno q hq
  obtain ⟨ok, v, j, hrun0, hn0, hy0⟩ := lookup_any kPtr a 57 25 (aggV zeroT) Try.underlying57 zeroV w kb _ h.known hga (k.good h.base)
  cases ok with
  | true =>
    obtain ⟨y, hy, hya⟩ := hy0 rfl
    exact absurd (hya trivial) (hno' _ hy)
  | false =>
    obtain rfl := (hn0 rfl).1
    have Hj := h.up (RowKit_drewN (Below.refl _ w) j)
    have hrun : (Instr.lookup 57 (.map (some kb)) (.pointer (some a)) true).run Try.prog w = .ok (.tuple #[.agg #[.int .u8 0, .int .i64 0, .string ⟨#[]⟩], .bool false]) (w.drewN j) := hrun0
    clear hrun0
    generalize w.drewN j = wj at hrun Hj
    have H1 := Hj.up (below_own (w := wj) (.cells #[.int .u8 0, .int .i64 0, .string ⟨#[]⟩] 25))
    obtain ⟨w2, l', hrun2, hsz2, hgr2, hm2, -, hadd, -⟩ := update_any kPtr a (aggV zeroT) 57 25 Try.underlying57 _ kb _ H1.known (goodX ha H1.base) (k.good H1.base)
    obtain rfl := hadd trivial hno'
    have H2 := H1.setKnown hgr2 (kn' := kn ++ [(a, zeroT)]) (by rw [List.map_append]; exact hm2)
    obtain ⟨sb, o, ao, cc, kb', ko, rfl, hb, c0, -⟩ := hat.cells
    rw [h3] at c0
    obtain ⟨i0, hi, hz0, hz1, hz2⟩ := info_parts infoS
    have hupd : (Instr.mapUpdate 57 (.map (some kb)) (.pointer (some ⟨sb, o, none⟩)) (.agg #[.int .u8 0, .int .i64 0, .string ⟨#[]⟩])).run Try.prog (wj.alloc (.cells #[.int .u8 0, .int .i64 0, .string ⟨#[]⟩] 25)) = .ok () w2 := hrun2
    have b3 := Lib.cell_of_heap h.box 3
    have hbl := lt_of_heap h.box
    have j3 := Lib.cell_of_heap Hj.box 3
    have hjl := lt_of_heap Hj.box
    have hR1 : R ≠ wj.heap.size := by omega
    have d0 := Lib.cell_of_heap H2.box 0
    have d1 := Lib.cell_of_heap H2.box 1
    have df := fun j => Lib.frozen_of_heap H2.box j
    have hR2l := lt_of_heap H2.box
    have hR2 : R ≠ w2.heap.size := by omega
    have HO := Lib.hid H2.way
    have HH := Lib.hid H2
    have HBX := Lib.hid H2.box
    have HT := Lib.hid (fun e => (tag_ne H2.box (Classical.choose_spec (Classical.choose_spec (owns_tag H2.way R e))) (by decide)) rfl)
    have hB2 := H2.B_le
    have HNo := Lib.hid hno
    clear hat hga hno hno' hn0 hy0 Hj H1 hrun2 hgr2 hm2 hadd H2 h k ha hsz2
    go_enter Try.func45, Try.ntmps45
    go_wp2_with (at_builtin; go_must (refine wpList_append_apart _ rfl (.tmp 42) (.tmp 45) 58 rfl B 86 i0 (.agg #[.pointer none, .int .i64 0]) 2 16 Try.underlying58 hi hz0 hz1 hz2 rfl (by decide) wv ws.length (cellsF ws) rfl (HO.out.alloc _) (some ⟨w2.heap.size, 0, none⟩) 1 1 [.pointer (some ⟨sb, o, none⟩), .int .i64 0] rfl rfl (by simp) (fun ad had j u hu => by obtain rfl := Option.some.inj had; rw [Addr.add_lit, Nat.zero_add]; exact cells_made w2 _ _ j u (by simpa using hu)) (fun u hu => by simp at hu; rcases hu with rfl | rfl <;> rfl) (by unfold maxLen; omega) (by omega) (by simp; omega) ?_; intro v' w' h2 h3 h4; obtain ⟨ao', c', rfl⟩ := owns_slice h2; have HX := Lib.hid (And.intro h2 h3); have hbx : w'.heap[R]? = _ := (h3.block R (by simp; omega) (fun e => HT.out e.symm)).trans (alloc_keep HBX.out (.cells #[.pointer (some ⟨sb, o, none⟩), .int .i64 0] 86)); have x1 := Lib.cell_of_heap hbx 1; have xf := fun j => Lib.frozen_of_heap hbx j; clear h2 h3 h4 hbx))
    go_ret
    refine ⟨0, rfl, Or.inr (Or.inl ⟨rfl, h3, HNo.out, .slice ao' (ws.length + 1) c', sv, ?_⟩)⟩
    exact (HH.out.up (below_own _)).setWay HX.out.2 (ws' := ⟨⟨sb, o, none⟩, c, 0⟩ :: ws) HX.out.1
end
end Go.Proofs.Ytkbkkhfmejpbeaa
