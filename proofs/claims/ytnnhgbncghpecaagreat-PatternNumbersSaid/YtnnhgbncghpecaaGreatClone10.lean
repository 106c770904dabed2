/- slices.Clone, strings.Clone, pattern.rows: what is copied. -/
import Derived.Test.YtnnhgbncghpecaaGreatMem10
import Derived.Test.YtnnhgbncghpecaaGreatShelf
namespace Go.Proofs.YtnnhgbncghpecaaGreat
open Go.RowKit

theorem Sl10.cells {w : World} {n c : Nat} {ao : Option Addr} {cs : List Value} (h : Sl10 w.heap.size w n ao c cs) : ∀ W, Below w.heap.size w W → ∀ ad, ao = some ad → ∀ j u, cs[j]? = some u → W.cell? (ad.add j) = some u := by
  intro W hW ad e j u hu
  obtain ⟨sb, off, e', lt, hc⟩ := (h.row.below hW) (fun hn => by rw [hn] at hu; cases hu)
  rw [e] at e'
  obtain rfl := Option.some.inj e'
  rw [Addr.add_lit]
  exact hc j u hu
set_option maxRecDepth 100000 in
set_option maxHeartbeats 1000000 in
theorem cloneB_any (l : List Bool) (ao : Option Addr) (c : Nat) (w : World) (h : Sl10 w.heap.size w l.length ao c (cellsB l)) (hn : l.length ≤ 100000) :
    Calls Tryz.prog 58 #[.slice ao l.length c] w fun e w' => ∃ v, e = .returned v ∧ w'.ownsRow w.heap.size 4 1 v l.length (cellsB l) ∧ Below w.heap.size w w' := by
  obtain ⟨i0, hi, hz0, hz1, hz2⟩ := info_parts infoB
  have HC := Lib.hid h.cells
  have HN := Lib.hid h.nil
  clear h
  cases ao with
  | none =>
    obtain ⟨h1, rfl⟩ := HN.out rfl
    obtain rfl : l = [] := List.eq_nil_of_length_eq_zero h1
    have hnil := fun W => (Lib.run_eql_slice_nil_nil (P := Tryz.prog) W 0 0 Tryz.underlying37)
    clear HC HN hn h1
    go_enter Tryz.func58, Tryz.ntmps58
    go_wp2
    go_ret
    exact ⟨_, rfl, World.ownsRow_nil _ _ _ _, Below.refl _ _⟩
  | some ad =>
    have hnil := fun W => (Lib.run_eql_slice_some_nil (P := Tryz.prog) W ad l.length c Tryz.underlying37)
    have hlen : (cellsB l).length = l.length * 1 := by rw [cellsB_length]; omega
    generalize l.length = n at *
    go_enter Tryz.func58, Tryz.ntmps58
    go_wp2_with (at_builtin; refine wpList_append_own _ rfl _ _ 37 rfl w.heap.size 4 i0 (.bool false) 1 1 Tryz.underlying37 hi hz0 hz1 hz2 rfl (by decide) _ 0 [] rfl (World.ownsRow_made w #[] 0 (Nat.le_refl _) (Nat.zero_le _) rfl) ad n c (cellsB l) rfl hlen (HC.out _ (below_own _) _ rfl) (cellsB_one _) (by unfold maxLen; omega) (by omega) (by simp) ?_; intro v' w3 hown' hgrow' hnil')
    go_ret
    exact ⟨v', rfl, by simpa using hown', (below_own _).grown hgrow' (by simp) (fun k hk => Nat.le_of_eq (Option.some.inj hk))⟩
set_option maxRecDepth 100000 in
set_option maxHeartbeats 1000000 in
theorem cloneV_any (l : List V3) (ao : Option Addr) (c : Nat) (w : World) (h : Sl10 w.heap.size w l.length ao c (cellsV l)) (hn : l.length ≤ 100000) :
    Calls Tryz.prog 59 #[.slice ao l.length c] w fun e w' => ∃ v, e = .returned v ∧ w'.ownsRow w.heap.size 27 3 v l.length (cellsV l) ∧ Below w.heap.size w w' := by
  obtain ⟨i0, hi, hz0, hz1, hz2⟩ := info_parts infoV
  have HC := Lib.hid h.cells
  have HN := Lib.hid h.nil
  clear h
  cases ao with
  | none =>
    obtain ⟨h1, rfl⟩ := HN.out rfl
    obtain rfl : l = [] := List.eq_nil_of_length_eq_zero h1
    have hnil := fun W => (Lib.run_eql_slice_nil_nil (P := Tryz.prog) W 0 0 Tryz.underlying34)
    clear HC HN hn h1
    go_enter Tryz.func59, Tryz.ntmps59
    go_wp2
    go_ret
    exact ⟨_, rfl, World.ownsRow_nil _ _ _ _, Below.refl _ _⟩
  | some ad =>
    have hnil := fun W => (Lib.run_eql_slice_some_nil (P := Tryz.prog) W ad l.length c Tryz.underlying34)
    have hlen : (cellsV l).length = l.length * 3 := by rw [cellsV_length]
    generalize l.length = n at *
    go_enter Tryz.func59, Tryz.ntmps59
    go_wp2_with (at_builtin; refine wpList_append_own _ rfl _ _ 34 rfl w.heap.size 27 i0 (.agg #[.int .u8 0, .int .i64 0, .string ⟨#[]⟩]) 3 32 Tryz.underlying34 hi hz0 hz1 hz2 rfl (by decide) _ 0 [] rfl (World.ownsRow_made w #[] 0 (Nat.le_refl _) (Nat.zero_le _) rfl) ad n c (cellsV l) rfl hlen (HC.out _ (below_own _) _ rfl) (cellsV_one _) (by unfold maxLen; omega) (by omega) (by simp) ?_; intro v' w3 hown' hgrow' hnil')
    go_ret
    exact ⟨v', rfl, by simpa using hown', (below_own _).grown hgrow' (by simp) (fun k hk => Nat.le_of_eq (Option.some.inj hk))⟩
theorem cloneS_any (s : ByteArray) (w : World) (hs : s.size ≤ 281474976710656) : Calls Tryz.prog 47 #[.string s] w fun e w' => e = .returned (.string s) ∧ Below w.heap.size w w' := by
  have HC := Lib.hid (fun W => Tryz.stringslite_Clone s W hs)
  clear hs
  go_enter Tryz.func47, Tryz.ntmps47
  go_wp2_with (go_at_call 60; refine (HC.out _).mono ?_; rintro e w1 ⟨rfl, hb⟩; have HB := Lib.hid hb; clear hb)
  go_ret
  exact ⟨rfl, HB.out⟩
/-- rows, wherever what it copies lies. -/
def RowsP (e : E10) (w : World) (r : Ending) (w' : World) : Prop := ∃ h1 c1 h2 c2, r = .returned (aggE e h1 c1 h2 c2) ∧ Own10 w.heap.size w' e (.slice h1 e.1.length c1) (.slice h2 e.2.length c2) ∧ Below w.heap.size w w'
end Go.Proofs.YtnnhgbncghpecaaGreat
