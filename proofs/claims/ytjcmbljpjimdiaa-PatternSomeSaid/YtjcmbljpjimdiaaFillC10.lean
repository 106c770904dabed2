/- PatternFills: what does not match tells no env. -/
import Derived.Test.YtjcmbljpjimdiaaFillB10
namespace Go.Proofs.Ytjcmbljpjimdiaa
open Go.RowKit

section
variable {w : World} {c : C10} {ao : Option Addr} {ac : Nat} {xo : Option Addr} {xc : Nat} {f : F10} {fo : Option Addr} {fc : Nat} {e0 : E10} {ho : Option Addr} {hc : Nat} {vo : Option Addr} {vc : Nat} {v : V3}
/-- Match, at any world behind the call's beginning, under any env. -/
theorem Came10.tells (h : Came10 w c ao ac f fo fc e0 ho hc vo vc v) (xo : Option Addr) (xc : Nat) (W : World) (hW : Below w.heap.size w W) (e : E10) (h1 : Option Addr) (c1 : Nat) (h2 : Option Addr) (c2 : Nat) (he : Env10 W.heap.size W e h1 c1 h2 c2) (hn : e.1.length ≤ 100000) (hs : Short10 e.2) :
    Calls Try.prog 11 #[aggC c ao ac xo xc, aggF f fo fc, aggE e h1 c1 h2 c2] W (MatchP (firstB c [f] e) W) :=
  match_any c ao ac xo xc f fo fc e h1 c1 h2 c2 W (h.args.up hW hW.size) (h.fact.up hW hW.size) he hn hs h.short1

theorem grown_other {w w' : World} {g k a b : Nat} (h : w.grownBy w' (Value.ownBlock (.slice (some ⟨g, 0, none⟩) a b))) (hk : k < w.heap.size) (hne : k ≠ g) : w'.heap[k]? = w.heap[k]? := h.block k hk (fun e => hne (Option.some.inj e))
theorem own_mk {base : Nat} {W : World} {e : E10} {n m : Nat} {a1 a2 : Option Addr} {d1 d2 : Nat} (hn : n = e.1.length) (hm : m = e.2.length) (h1 : W.ownsRow base 4 1 (.slice a1 n d1) n (cellsB e.1)) (h2 : W.ownsRow base 27 3 (.slice a2 m d2) m (cellsV e.2)) : Own10 base W e (.slice a1 n d1) (.slice a2 m d2) := by
  subst hn
  subst hm
  exact ⟨h1, h2⟩
set_option maxRecDepth 100000 in
set_option maxHeartbeats 4000000 in
theorem fills_none (h : Came10 w c ao ac f fo fc e0 ho hc vo vc v) (h1 : c.args.length ≤ 2000) (h2 : f.args.length ≤ 2000) (h3 : e0.1.length ≤ 2000) (h4 : e0.2.length ≤ 2000) (hx : firstB c [f] e0 = none) :
    Calls Try.prog 4 #[aggC c ao ac xo xc, aggF f fo fc, .slice ho e0.1.length hc, .slice vo e0.2.length vc, aggV v] w (FillsP w) := by
  obtain ⟨i0, hi, hz0, hz1, hz2⟩ := info_parts infoB
  have HAw := Lib.hid (fun W => awake_any W)
  obtain ⟨w0, hw0⟩ : ∃ w0, w0 = ((w.alloc (.cells (cellsC c ao ac xo xc) 33)).alloc (.cells #[.int .i64 f.id, .int .i64 f.type, .slice fo f.args.length fc] 39)).alloc (.cells #[.int .u8 v.1, .int .i64 v.2.1, .string v.2.2] 27) := ⟨_, rfl⟩
  have hb0 : Below w.heap.size w w0 := by rw [hw0]; exact below_new (below_new (below_own _) _) _
  have hs0 : w0.heap.size = w.heap.size + 3 := by rw [hw0]; simp
  obtain ⟨q1, q2, q3⟩ : w0.heap[w.heap.size]? = some (.cells (cellsC c ao ac xo xc) 33 (0, 0)) ∧ w0.heap[w.heap.size + 1]? = some (.cells #[.int .i64 f.id, .int .i64 f.type, .slice fo f.args.length fc] 39 (0, 0)) ∧ w0.heap[w.heap.size + 2]? = some (.cells #[.int .u8 v.1, .int .i64 v.2.1, .string v.2.2] 27 (0, 0)) := by
    rw [hw0]
    exact heap_three _ _ _
  have HB0 := Lib.hid hb0
  have HQ1 := Lib.hid q1
  have HQ2 := Lib.hid q2
  have HC := Lib.hid (fun W (hW : Below w.heap.size w W) => (h.env.has.up hW hW.size).cells)
  have HN := Lib.hid h.env.has.nil
  have HV := Lib.hid (fun W (hW : Below w.heap.size w W) => copyV_any e0.2 vo vc W (h.env.vals.up hW hW.size) (by omega))
  have HM : Hid (∀ W, Below w.heap.size w W → ∀ a1 d1 a2 d2, Own10 w.heap.size W e0 (.slice a1 e0.1.length d1) (.slice a2 e0.2.length d2) → Calls Try.prog 11 #[aggC c ao ac xo xc, aggF f fo fc, .agg #[.slice a1 e0.1.length d1, .slice a2 e0.2.length d2]] W fun r w' => r = .returned (.tuple #[.agg #[.slice none 0 0, .slice none 0 0], .bool false]) ∧ Below W.heap.size W w') := fun W hW a1 d1 a2 d2 hO =>
    (h.tells xo xc W hW e0 a1 d1 a2 d2 ⟨owns_sl hO.has, owns_sl hO.vals⟩ (by omega) h.short2).mono fun r w' hr => by
      obtain ⟨hb, hr⟩ := hr
      rw [hx] at hr
      rcases hr with ⟨-, hr⟩ | ⟨e', _, _, _, _, he, -⟩
      · exact ⟨hr, hb⟩
      · cases he
  have t1 : ¬ (2000 : Int) < (c.args.length : Int) := by omega
  have t2 : ¬ (2000 : Int) < (f.args.length : Int) := by omega
  have t3 : ¬ (2000 : Int) < (e0.1.length : Int) := by omega
  have t4 : ¬ (2000 : Int) < (e0.2.length : Int) := by omega
  have hlB : (cellsB e0.1).length = e0.1.length * 1 := by rw [cellsB_length]; omega
  obtain ⟨ck, ct, cl, cx⟩ := c
  obtain ⟨fi, ft, fl⟩ := f
  obtain ⟨v1, v2, v3⟩ := v
  simp only at h1 h2 t1 t2 hw0 HQ1 HQ2 HM
  clear h q1 q2 q3 hb0 hx
  unfold FillsP
  obtain ⟨n, hn⟩ : ∃ n, n = e0.1.length := ⟨_, rfl⟩
  obtain ⟨m, hm⟩ : ∃ m, m = e0.2.length := ⟨_, rfl⟩
  have hN1 := Lib.hid hn
  have hN2 := Lib.hid hm
  rw [← hn] at h3 t3 hlB HN HM ⊢
  rw [← hm] at h4 t4 HV HM ⊢
  clear hn hm
  go_enter Try.func4, Try.ntmps4
  go_wp2_with (first
    | (go_at_call 5; go_must (rw [← hw0]; clear hw0; refine (HAw.out _).mono ?_; rintro r w1 ⟨rfl, hb⟩; have HB1 := Lib.hid (HB0.out.trans (hb.mono HB0.out.size)); have HP1 := Lib.hid ((hb.block w.heap.size (by omega)).trans HQ1.out); have HP2 := Lib.hid ((hb.block (w.heap.size + 1) (by omega)).trans HQ2.out); have hp1 := lt_of_heap HP1.out; have hp2 := lt_of_heap HP2.out; have y1 := (fun j => Lib.cell_of_heap HP1.out j); have y2 := (fun j => Lib.cell_of_heap HP2.out j); clear hb))
    | (at_builtin; go_must (refine wpList_append_apart _ rfl (.tmp 51) (.tmp 52) 34 rfl w.heap.size 4 i0 (.bool false) 1 1 Try.underlying34 hi hz0 hz1 hz2 rfl (by decide) _ 0 [] rfl (World.ownsRow_made w1 #[] 0 HB1.out.size (Nat.zero_le _) rfl) ho n hc (cellsB e0.1) rfl hlB HN.out (HC.out _ (below_new HB1.out _) _ (Below.refl _ _)) (cellsB_one _) (by unfold maxLen; omega) (by omega) (by have := HB1.out.size; simp; omega) ?_; intro v' w3 hown' hgrow' hor; simp only [Nat.zero_add, List.nil_append] at hown'; obtain ⟨a1, d1, rfl⟩ := owns_slice hown'; have HO1 := Lib.hid hown'; have HB3 := Lib.hid ((below_new HB1.out (.cells #[] 4)).grown hgrow' (below_new HB1.out (.cells #[] 4)).size (fun k hk => by cases hk; exact HB1.out.size)); have HP31 := Lib.hid ((grown_other hgrow' (k := w.heap.size) (by simp; omega) (by omega)).trans (alloc_keep HP1.out _)); have HP32 := Lib.hid ((grown_other hgrow' (k := w.heap.size + 1) (by simp; omega) (by omega)).trans (alloc_keep HP2.out _)); clear hown' hgrow' hor y1 y2))
    | (go_at_call 10; go_must (refine (HV.out _ HB3.out).mono ?_; rintro r w4 ⟨u, rfl, hU, hb⟩; obtain ⟨a2, d2, rfl⟩ := owns_slice hU; have HB4 := Lib.hid (HB3.out.trans (hb.mono HB3.out.size)); have HO4 := Lib.hid (show Own10 w.heap.size w4 e0 _ _ from own_mk hN1.out hN2.out (owns_below HO1.out hb) (owns_mono hU HB3.out.size)); have HP41 := Lib.hid ((hb.block w.heap.size (lt_of_heap HP31.out)).trans HP31.out); have HP42 := Lib.hid ((hb.block (w.heap.size + 1) (lt_of_heap HP32.out)).trans HP32.out); have hp41 := lt_of_heap HP41.out; have hp42 := lt_of_heap HP42.out; have y3 := (fun j => Lib.cell_of_heap HP41.out j); have y4 := (fun j => Lib.cell_of_heap HP42.out j); clear hU hb))
    | (go_at_call 11; go_must (refine (HM.out _ (below_new HB4.out _) _ _ _ _ (HO4.out.old (below_own _))).mono ?_; rintro r w5 ⟨rfl, hb⟩; have HB5 := Lib.hid ((below_new HB4.out _).trans (hb.mono (below_new HB4.out _).size)); clear hb)))
  go_ret
  exact ⟨rfl, below_new HB5.out _⟩
end
end Go.Proofs.Ytjcmbljpjimdiaa
