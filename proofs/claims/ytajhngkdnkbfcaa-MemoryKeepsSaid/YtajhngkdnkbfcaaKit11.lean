/- SameValues, SameFact, CopyValues: what the law itself does with values. -/
import Derived.Test.YtajhngkdnkbfcaaAwake11
namespace Go.Proofs.Ytajhngkdnkbfcaa
open Go.RowKit

set_option maxRecDepth 100000 in
set_option maxHeartbeats 1000000 in
theorem copyV_any (l : List V3) (ao : Option Addr) (c : Nat) (w : World) (h : Sl10 w.heap.size w l.length ao c (cellsV l)) (hn : l.length ≤ 100000) :
    Calls Try.prog 20 #[.slice ao l.length c] w fun e w' => ∃ v, e = .returned v ∧ w'.ownsRow w.heap.size 33 3 v l.length (cellsV l) ∧ Below w.heap.size w w' := by
  obtain ⟨i0, hi, hz0, hz1, hz2⟩ := info_parts infoV
  have HC := Lib.hid h.cells
  have HN := Lib.hid h.nil
  have hlen : (cellsV l).length = l.length * 3 := by rw [cellsV_length]
  clear h
  generalize l.length = n at *
  go_enter Try.func20, Try.ntmps20
  go_wp2_with (at_builtin; refine wpList_append_apart _ rfl (.tmp 4) (.tmp 5) 35 rfl w.heap.size 33 i0 (.agg #[.int .u8 0, .int .i64 0, .string ⟨#[]⟩]) 3 32 Try.underlying35 hi hz0 hz1 hz2 rfl (by decide) _ 0 [] rfl (World.ownsRow_nil _ _ _ _) ao n c (cellsV l) rfl hlen HN.out (HC.out _ (Below.refl _ _)) (cellsV_one _) (by unfold maxLen; omega) (by omega) (Nat.le_refl _) ?_; intro v' w3 hown' hgrow' hor)
  go_ret
  exact ⟨v', rfl, by simpa using hown', (Below.refl _ _).grown hgrow' (Nat.le_refl _) (fun k hk => by cases hk)⟩
theorem all_eq_of {l m : List V3} (hl : l.length = m.length) {k : Nat} (hk : k = l.length) (h : ∀ j, j < k → eqvB (l.getD j zeroT) (m.getD j zeroT) = true) : l = m := by
  apply List.ext_getElem hl
  intro j h1 h2
  have := (eqvB_iff _ _).1 (h j (by omega))
  rwa [List.getD_eq_getElem?_getD, List.getD_eq_getElem?_getD, List.getElem?_eq_getElem h1, List.getElem?_eq_getElem h2] at this
theorem ne_of_val {l m : List V3} {k : Nat} (h : eqvB (l.getD k zeroT) (m.getD k zeroT) = false) : l ≠ m := by
  rintro rfl
  rw [(eqvB_iff _ _).2 rfl] at h
  cases h
set_option maxRecDepth 100000 in
set_option maxHeartbeats 1000000 in
theorem sameV_any (l m : List V3) (a1 : Option Addr) (c1 : Nat) (a2 : Option Addr) (c2 : Nat) (w : World) (h1 : Sl10 w.heap.size w l.length a1 c1 (cellsV l)) (h2 : Sl10 w.heap.size w m.length a2 c2 (cellsV m)) :
    Calls Try.prog 19 #[.slice a1 l.length c1, .slice a2 m.length c2] w (SaysP (decide (l = m)) w) := by
  have H1 := Lib.hid h1
  have H2 := Lib.hid h2
  have hm : l.length ≤ 9223372036854775807 := by have := h1.cap; have := h1.top; unfold maxLen at this; omega
  have hm2 : m.length ≤ 9223372036854775807 := by have := h2.cap; have := h2.top; unfold maxLen at this; omega
  have hg := eqGuardV
  have mixed : Try.prog.follows .mixedOrders = true := by kernel_rfl
  clear h1 h2
  unfold SaysP
  by_cases hlen : l.length = m.length
  · have HLn := Lib.hid hlen
    rw [← hlen] at H2 ⊢
    have HYes : Hid (∀ k, k = l.length → (∀ j, j < k → eqvB (l.getD j zeroT) (m.getD j zeroT) = true) → decide (l = m) = true) := fun k hk h => decide_eq_true (all_eq_of HLn.out hk h)
    have HNo : Hid (∀ k, eqvB (l.getD k zeroT) (m.getD k zeroT) = false → decide (l = m) = false) := fun k h => decide_eq_false (ne_of_val h)
    generalize decide (l = m) = r at *
    have H2' : Hid (Sl10 w.heap.size w m.length a2 c2 (cellsV m)) := by rw [← hlen]; exact H2.out
    clear hlen hm2 H2
    have hne : ((l.length : Int) != (l.length : Int)) = false := by simp
    go_enter Try.func19, Try.ntmps19
    go_wp2_with fail
    go_loopw [5] (fun i wr => ∃ j : Nat, j ≤ l.length ∧ i = .int .i64 j ∧ Hid (Below w.heap.size w wr) ∧ Hid (∀ q, q < j → eqvB (l.getD q zeroT) (m.getD q zeroT) = true)) (fun i _ => l.length - (intOf i).toNat)
    case atStart => exact ⟨0, by omega, rfl, Below.refl _ _, fun q hq => absurd hq (Nat.not_lt_zero _)⟩
    case round =>
      obtain ⟨j, hj, rfl, HG, HQ⟩ := hrel
      by_cases hlt : j < l.length
      · obtain ⟨g1, o1, rfl, l1, x1, x2, x3⟩ := (H1.out.up HG.out HG.out.size).vget11 hlt
        obtain ⟨g2, o2, rfl, l2, y1, y2, y3⟩ := (H2'.out.up HG.out HG.out.size).vget11 (j := j) (by rw [← HLn.out]; exact hlt)
        have HNx : Hid (eqvB (l.getD j zeroT) (m.getD j zeroT) = true → ∀ q, q < j + 1 → eqvB (l.getD q zeroT) (m.getD q zeroT) = true) := fun h q hq => by
          rcases Nat.lt_or_ge q j with h3 | h3
          · exact HQ.out q h3
          · obtain rfl : q = j := by omega
            exact h
        have HNj := Lib.hid (HNo.out j)
        generalize l.getD j zeroT = v at *
        generalize m.getD j zeroT = u at *
        obtain ⟨v1, v2, v3⟩ := v
        obtain ⟨u1, u2, u3⟩ := u
        have hne2 := fun W => neV v1 v2 u1 u2 v3 u3 W
        simp only at x1 x2 x3 y1 y2 y3
        have hjn : (j : Int) < (l.length : Int) := by omega
        generalize l.length = n at *
        clear H1 H2' HQ
        cases hb : eqvB (v1, v2, v3) (u1, u2, u3) with
        | true =>
          rw [hb] at hne2
          have HN1 := Lib.hid (HNx.out hb)
          clear hb HNx HNj
          go_wp2_with fail
          go_quiet (fail)
          go_wp2
          have HG2 : Hid (Below w.heap.size w (wr.drewN nq)) := RowKit_drewN HG.out nq
          clear HG x1 x2 x3 y1 y2 y3
          go_roundw
          case rel => exact ⟨j + 1, by omega, by go_num, HG2, HN1⟩
          case measure => simp [intOf]; omega
        | false =>
          rw [hb] at hne2
          have HN1 := Lib.hid (HNj.out hb)
          clear hb HNx HNj
          go_wp2_with fail
          go_quiet (fail)
          go_wp2
          go_ret
          rw [HN1.out]
          exact ⟨rfl, RowKit_drewN HG.out nq⟩
      · obtain rfl : j = l.length := by omega
        have hr := HYes.out _ rfl HQ.out
        go_wp2
        go_ret
        rw [hr]
        exact ⟨rfl, HG.out⟩
  · have hne : ((l.length : Int) != (m.length : Int)) = true := by simp; omega
    have hr : decide (l = m) = false := decide_eq_false (fun e => hlen (by rw [e]))
    rw [hr]
    generalize l.length = n at *
    generalize m.length = n2 at *
    clear hlen hr
    go_enter Try.func19, Try.ntmps19
    go_wp2_with fail
    go_ret
    exact ⟨rfl, Below.refl _ _⟩
/-- A fact that lies somewhere: its three cells' value, and where its values lie. -/
structure FAt (B : Nat) (w : World) (f : F11) (v : Value) : Prop where
  ex : ∃ ao c, v = .agg #[.int .i64 f.id, .int .i64 f.kind, .slice ao f.args.length c] ∧ Sl10 B w f.args.length ao c (cellsV f.args)
theorem FAt.up {B B' : Nat} {w w' : World} {f : F11} {v : Value} (h : FAt B w f v) (b : Below B w w') (hB : B ≤ B') : FAt B' w' f v := by
  obtain ⟨ao, c, h1, h2⟩ := h.ex
  exact ⟨ao, c, h1, h2.up b hB⟩
theorem sl_of_own {base n : Nat} {w : World} {ao : Option Addr} {c : Nat} {l : List V3} (h : w.ownsRow base 33 3 (.slice ao n c) n (cellsV l)) : Sl10 w.heap.size w n ao c (cellsV l) := by
  have hl := h.1
  rw [cellsV_length] at hl
  rcases h.2 with ⟨hv, rfl⟩ | ⟨g, cap, cur, hv, -, hg, hnc, hcm, hcs, htk⟩
  · cases hv
    have : cellsV l = [] := List.eq_nil_of_length_eq_zero (by rw [cellsV_length]; omega)
    exact ⟨fun hn => absurd this hn, fun _ => ⟨rfl, rfl⟩, Nat.le_refl _, by unfold maxLen; omega⟩
  · cases hv
    exact ⟨fun _ => ⟨g, 0, rfl, lt_of_heap hg, fun j u hu => by
      have hj := (List.getElem?_eq_some_iff.1 hu).1
      rw [cellsV_length] at hj
      rw [Nat.zero_add, h.cellAt j (by omega)]
      exact hu⟩, (fun e => by cases e), hnc, hcm⟩
def sameB (f g : F11) : Bool := decide (f.id = g.id) && (decide (f.kind = g.kind) && decide (f.args = g.args))
set_option maxRecDepth 100000 in
set_option maxHeartbeats 1000000 in
theorem sameFact_any (f g : F11) (v u : Value) (w : World) (hv : FAt w.heap.size w f v) (hu : FAt w.heap.size w g u) :
    Calls Try.prog 12 #[v, u] w (SaysP (sameB f g) w) := by
  obtain ⟨a1, c1, rfl, s1⟩ := hv.ex
  obtain ⟨a2, c2, rfl, s2⟩ := hu.ex
  have HS := Lib.hid (fun W (b : Below w.heap.size w W) => sameV_any f.args g.args a1 c1 a2 c2 W (s1.up b b.size) (s2.up b b.size))
  clear s1 s2 hv hu
  unfold SaysP at *
  cases h1 : (f.id == g.id) with
  | false =>
    have hr : sameB f g = false := by
      unfold sameB
      rw [show decide (f.id = g.id) = false from decide_eq_false (by simpa using h1)]
      rfl
    rw [hr]
    clear hr
    go_enter Try.func12, Try.ntmps12
    go_wp2_with fail
    go_ret
    exact ⟨rfl, below_new (below_own _) _⟩
  | true =>
    cases h2 : (f.kind == g.kind) with
    | false =>
      have hr : sameB f g = false := by
        unfold sameB
        rw [show decide (f.kind = g.kind) = false from decide_eq_false (by simpa using h2)]
        simp
      rw [hr]
      clear hr
      go_enter Try.func12, Try.ntmps12
      go_wp2_with fail
      go_ret
      exact ⟨rfl, below_new (below_own _) _⟩
    | true =>
      have hr : sameB f g = decide (f.args = g.args) := by
        unfold sameB
        rw [show decide (f.id = g.id) = true from decide_eq_true (by simpa using h1), show decide (f.kind = g.kind) = true from decide_eq_true (by simpa using h2)]
        rfl
      rw [hr]
      clear hr
      generalize decide (f.args = g.args) = r at *
      obtain ⟨fi, fk, fa⟩ := f
      obtain ⟨gi, gk, ga⟩ := g
      simp only at *
      generalize fa.length = n1 at *
      generalize ga.length = n2 at *
      go_enter Try.func12, Try.ntmps12
      go_wp2_with (go_at_call 19; refine (HS.out _ (below_new (below_own _) _)).mono ?_; rintro e w2 ⟨rfl, hb⟩; have HB := Lib.hid ((below_new (below_own _) _).trans (hb.mono (by simp; omega))); clear hb)
      go_ret
      exact ⟨rfl, HB.out⟩
end Go.Proofs.Ytajhngkdnkbfcaa
