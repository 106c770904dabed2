/- SameFacts, of the same facts. -/
import Derived.Test.YtajhngkdnkbfcaaDo11
namespace Go.Proofs.Ytajhngkdnkbfcaa
open Go.RowKit

/-- Facts that lie in a row. -/
def FRow (B : Nat) (w : World) (l : List F11) (ao : Option Addr) (c : Nat) : Prop := ∃ ps : List (F11 × Value), ps.map Prod.fst = l ∧ Sl10 B w l.length ao c (cells3 ps) ∧ ∀ p ∈ ps, ∃ a d, p.2 = .slice a p.1.args.length d ∧ Sl10 B w p.1.args.length a d (cellsV p.1.args)
theorem FRow.up {B B' : Nat} {w w' : World} {l : List F11} {ao : Option Addr} {c : Nat} (h : FRow B w l ao c) (b : Below B w w') (hB : B ≤ B') : FRow B' w' l ao c := by
  obtain ⟨ps, h1, h2, h3⟩ := h
  exact ⟨ps, h1, h2.up b hB, fun p hp => by obtain ⟨a, d, e1, e2⟩ := h3 p hp; exact ⟨a, d, e1, e2.up b hB⟩⟩
theorem RowF.frow {base : Nat} {w : World} {l : List F11} {ao : Option Addr} {c : Nat} (h : RowF base w l (.slice ao l.length c)) : FRow w.heap.size w l ao c := by
  obtain ⟨ps, h1, h2, h3⟩ := h
  have hpl : ps.length = l.length := by rw [← h1]; simp
  refine ⟨ps, h1, ?_, fun p hp => ?_⟩
  · rcases h2.2 with ⟨hv, he⟩ | ⟨g, cap, cur, hv, -, hg, hnc, hcm, hcs, htk⟩
    · injection hv with e1 e2 e3
      subst e1
      subst e3
      exact ⟨fun hn => absurd (List.eq_nil_of_length_eq_zero (by rw [cells3_length]; omega)) hn, fun _ => ⟨e2, rfl⟩, by omega, by unfold maxLen; omega⟩
    · injection hv with e1 _ e3
      subst e1
      subst e3
      exact ⟨fun _ => ⟨g, 0, rfl, lt_of_heap hg, fun j u hu => by
        have hj := (List.getElem?_eq_some_iff.1 hu).1
        rw [cells3_length] at hj
        rw [Nat.zero_add, h2.cellAt j (by omega)]
        exact hu⟩, (fun e => by cases e), hnc, hcm⟩
  · obtain ⟨a, d, e1, e2⟩ := h3 p hp
    exact ⟨a, d, e1, sl_of_own e2⟩
theorem cells3_get (l : List (F11 × Value)) : ∀ (j : Nat), (h : j < l.length) → (cells3 l)[j * 3]? = some (.int .i64 (l[j]).1.id) ∧ (cells3 l)[j * 3 + 1]? = some (.int .i64 (l[j]).1.kind) ∧ (cells3 l)[j * 3 + 2]? = some (l[j]).2 := by
  induction l with
  | nil => intro j h; cases h
  | cons x l ih =>
    intro j h
    match j with
    | 0 => exact ⟨rfl, rfl, rfl⟩
    | j + 1 =>
      have := ih j (by simpa using h)
      rw [show (j + 1) * 3 = j * 3 + 1 + 1 + 1 by omega]
      simpa [cells3] using this
/-- The j-th of them. -/
theorem FRow.get {B : Nat} {w : World} {l : List F11} {ao : Option Addr} {c : Nat} (h : FRow B w l ao c) {j : Nat} (hj : j < l.length) : ∃ g o a d, ao = some ⟨g, o, none⟩ ∧ g < B ∧ w.cell? ⟨g, o + j * 3, none⟩ = some (.int .i64 (l.getD j default).id) ∧ w.cell? ⟨g, o + j * 3 + 1, none⟩ = some (.int .i64 (l.getD j default).kind) ∧ w.cell? ⟨g, o + j * 3 + 2, none⟩ = some (.slice a (l.getD j default).args.length d) ∧ Sl10 B w (l.getD j default).args.length a d (cellsV (l.getD j default).args) := by
  obtain ⟨ps, rfl, h2, h3⟩ := h
  have hpl : ps.length = (ps.map Prod.fst).length := by simp
  obtain ⟨q0, q1, q2⟩ := cells3_get ps j (by omega)
  obtain ⟨sb, off, e, lt, hc⟩ := h2.row (fun hn => by rw [hn] at q0; cases q0)
  have he : (ps.map Prod.fst).getD j default = (ps[j]'(by omega)).1 := by
    rw [List.getD_eq_getElem?_getD, List.getElem?_map, List.getElem?_eq_getElem (by omega)]
    rfl
  obtain ⟨a, d, e1, e2⟩ := h3 _ (List.getElem_mem (show j < ps.length by omega))
  rw [he]
  exact ⟨sb, off, a, d, e, lt, hc _ _ q0, hc _ _ q1, by have h9 := hc _ _ q2; rw [e1] at h9; exact h9, e2⟩
theorem FRow.fine {B : Nat} {w : World} {l : List F11} {ao : Option Addr} {c : Nat} (h : FRow B w l ao c) : l.length ≤ 9223372036854775807 := by
  obtain ⟨ps, h1, h2, h3⟩ := h
  have := h2.cap
  have := h2.top
  unfold maxLen at this
  omega
theorem same_self (f : F11) : sameB f f = true := by unfold sameB; simp
set_option maxRecDepth 100000 in
set_option maxHeartbeats 2000000 in
theorem sameFacts_yes (l : List F11) (a1 : Option Addr) (c1 : Nat) (a2 : Option Addr) (c2 : Nat) (w : World) (h1 : FRow w.heap.size w l a1 c1) (h2 : FRow w.heap.size w l a2 c2) :
    Calls Try.prog 21 #[.slice a1 l.length c1, .slice a2 l.length c2] w (YesP w) := by
  have H1 := Lib.hid h1
  have H2 := Lib.hid h2
  have hm := h1.fine
  have mixed : Try.prog.follows .mixedOrders = true := by kernel_rfl
  have hne : ((l.length : Int) != (l.length : Int)) = false := by simp
  clear h1 h2
  unfold YesP
  go_enter Try.func21, Try.ntmps21
  go_wp2_with fail
  go_loopw [5] (fun i wr => ∃ j : Nat, j ≤ l.length ∧ i = .int .i64 j ∧ Hid (Below w.heap.size w wr)) (fun i _ => l.length - (intOf i).toNat)
  case atStart => exact ⟨0, by omega, rfl, Below.refl _ _⟩
  case round =>
    obtain ⟨j, hj, rfl, HG⟩ := hrel
    by_cases hlt : j < l.length
    · obtain ⟨g1, o1, p1, d1, rfl, l1, x1, x2, x3, s1⟩ := (H1.out.up HG.out HG.out.size).get hlt
      obtain ⟨g2, o2, p2, d2, rfl, l2, y1, y2, y3, s2⟩ := (H2.out.up HG.out HG.out.size).get hlt
      have HS := Lib.hid (fun W (b : Below wr.heap.size wr W) => sameFact_any (l.getD j default) (l.getD j default) _ _ W ⟨p1, d1, rfl, s1.up b b.size⟩ ⟨p2, d2, rfl, s2.up b b.size⟩)
      rw [same_self] at HS
      unfold SaysP at HS
      have hjn : (j : Int) < (l.length : Int) := by omega
      generalize (l.getD j default).args.length = an at *
      generalize (l.getD j default).id = fi at *
      generalize (l.getD j default).kind = fk at *
      generalize l.length = n at *
      clear H1 H2 s1 s2
      have HK := Lib.hid (fun W (b : Below wr.heap.size wr W) => (⟨(b.cell (p := ⟨g1, o1 + j * 3, none⟩) l1).trans x1, (b.cell (p := ⟨g1, o1 + j * 3 + 1, none⟩) l1).trans x2, (b.cell (p := ⟨g1, o1 + j * 3 + 2, none⟩) l1).trans x3, (b.cell (p := ⟨g2, o2 + j * 3, none⟩) l2).trans y1, (b.cell (p := ⟨g2, o2 + j * 3 + 1, none⟩) l2).trans y2, (b.cell (p := ⟨g2, o2 + j * 3 + 2, none⟩) l2).trans y3⟩ : W.cell? ⟨g1, o1 + j * 3, none⟩ = some (.int .i64 fi) ∧ W.cell? ⟨g1, o1 + j * 3 + 1, none⟩ = some (.int .i64 fk) ∧ W.cell? ⟨g1, o1 + j * 3 + 2, none⟩ = some (.slice p1 an d1) ∧ W.cell? ⟨g2, o2 + j * 3, none⟩ = some (.int .i64 fi) ∧ W.cell? ⟨g2, o2 + j * 3 + 1, none⟩ = some (.int .i64 fk) ∧ W.cell? ⟨g2, o2 + j * 3 + 2, none⟩ = some (.slice p2 an d2)))
      have HBd : Hid (Below wr.heap.size wr wr.drew) := below_drew (Below.refl _ _)
      go_upto_region 6 with fail
      go_region_held3 (fun W => W.cell? ⟨g1, o1 + j * 3, none⟩ = some (.int .i64 fi) ∧ W.cell? ⟨g1, o1 + j * 3 + 1, none⟩ = some (.int .i64 fk) ∧ W.cell? ⟨g1, o1 + j * 3 + 2, none⟩ = some (.slice p1 an d1) ∧ W.cell? ⟨g2, o2 + j * 3, none⟩ = some (.int .i64 fi) ∧ W.cell? ⟨g2, o2 + j * 3 + 1, none⟩ = some (.int .i64 fk) ∧ W.cell? ⟨g2, o2 + j * 3 + 2, none⟩ = some (.slice p2 an d2))
        (first | exact HK.out _ HBd.out | exact HK.out _ HB2.out)
        ((first | (go_at_call 12; refine (HS.out _ HBd.out).mono ?_; rintro e w2 ⟨rfl, hb⟩; have HB2 := Lib.hid (HBd.out.trans (hb.mono HBd.out.size)); clear hb)))
      all_goals
        have HN := Lib.hid (HG.out.trans (HB2.out.mono HG.out.size))
        clear HK HBd HB2 HS HG x1 x2 x3 y1 y2 y3
        go_wp2_with fail
        go_roundw
        case rel => exact ⟨j + 1, by omega, by go_num, HN⟩
        case measure => simp [intOf]; omega
    · obtain rfl : j = l.length := by omega
      clear H1 H2
      go_wp2_with fail
      go_ret
      exact ⟨rfl, HG.out⟩
end Go.Proofs.Ytajhngkdnkbfcaa
