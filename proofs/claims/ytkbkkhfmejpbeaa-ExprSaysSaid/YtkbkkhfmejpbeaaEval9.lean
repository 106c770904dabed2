/- The program's All, of a row of expressions that stand apart; Eval. -/
import Derived.Test.YtkbkkhfmejpbeaaAll9
namespace Go.Proofs.Ytkbkkhfmejpbeaa
open Go.RowKit

theorem right_short {k n : Int} {s : ByteArray} (h : rightB k n s = true) : s.size ≤ 24 := by
  unfold rightB at h
  rw [ByteArray.toList_eq] at h
  simp only [Bool.or_eq_true, Bool.and_eq_true, beq_iff_eq] at h
  rcases h with ⟨_, h⟩ | ⟨_, h⟩
  · have h0 : s.data.toList.length = 0 := by rw [List.isEmpty_iff.1 h]; rfl
    have h1 : s.size = s.data.toList.length := by simp
    omega
  · unfold namedB at h
    simp only [Bool.and_eq_true, decide_eq_true_eq] at h
    have h0 := h.1.1.2
    have h1 : s.size = s.data.toList.length := by simp
    omega
theorem ifR_short (v : V3) : (ifR v).1.2.2.size ≤ 24 := by
  unfold ifR
  split
  · exact right_short (by assumption)
  · show (⟨#[]⟩ : ByteArray).size ≤ 24
    decide
theorem zero_short : zeroT.2.2.size ≤ 24 := by decide
theorem eval_short (vs : List V3) (t : X) : (evalX vs t).1.2.2.size ≤ 24 := by
  rw [evalX_eq]
  split
  · exact ifR_short _
  split
  · split
    · exact ifR_short _
    · exact zero_short
  split
  · split
    · rcases doV_num t.op (evalL vs t.kids).1 with ⟨n, h, _⟩ | ⟨e, h, _⟩
      · rw [h]; exact zero_short
      · rw [h]; exact zero_short
    · exact zero_short
  · exact zero_short
theorem evalL_short (vs : List V3) : ∀ (l : List X) (q : List V3), evalL vs l = (q, 0) → ∀ x, x ∈ q → x.2.2.size ≤ 1000
  | [], q, h => by
    rw [evalL_nil] at h
    obtain rfl : q = [] := (congrArg Prod.fst h).symm
    intro x hx
    cases hx
  | k :: l, q, h => by
    rw [evalL_cons] at h
    by_cases h1 : (evalX vs k).2 = 0
    · rw [if_pos h1] at h
      by_cases h2 : (evalL vs l).2 = 0
      · rw [if_pos h2] at h
        obtain rfl : (evalX vs k).1 :: (evalL vs l).1 = q := congrArg Prod.fst h
        intro x hx
        rcases List.mem_cons.1 hx with rfl | hx
        · have := eval_short vs k
          omega
        · exact evalL_short vs l _ (Prod.ext rfl h2) x hx
      · rw [if_neg h2] at h
        exact absurd (congrArg Prod.snd h) h2
    · rw [if_neg h1] at h
      exact absurd (congrArg Prod.snd h) h1

section
variable {B : Nat} {w0 w : World} {R mb vb kb : Nat} {vo : Option Addr} {vc : Nat} {vs : List V3} {wv sv : Value} {kn : List (Addr × V3)}
theorem through_ok {sd0 : List V3} (h : WS B w0 w R mb vb kb vo vc vs wv sv [] sd0 kn) (k : Kn B w0 vs [] kn) (a : Addr) (t : X) (ha : At9 B w0 a t) (hh : Held t) (hN : sd0.length + 1 + t.wt ≤ 1000000) (h0 : (evalX vs t).2 = 0) :
    Calls Try.prog 30 #[.pointer (some ⟨R, 0, none⟩), .pointer (some a)] w fun e w' => e = .returned (.int .i64 0) ∧ ∃ wv' sv' kn', WS B w0 w' R mb vb kb vo vc vs wv' sv' [] (sd0 ++ [(evalX vs t).1]) kn' ∧ Kn B w0 vs [] kn' :=
  (through_any h k a t ha hh hN).mono fun e w' hx => by
    obtain ⟨err, rfl, ⟨rfl, _, h2⟩ | ⟨h1, h2, _⟩⟩ := hx
    · exact ⟨rfl, h2⟩
    · rw [h2] at h0
      exact absurd h0 h1
theorem through_bad {sd0 : List V3} (h : WS B w0 w R mb vb kb vo vc vs wv sv [] sd0 kn) (k : Kn B w0 vs [] kn) (a : Addr) (t : X) (ha : At9 B w0 a t) (hh : Held t) (hN : sd0.length + 1 + t.wt ≤ 1000000) (h0 : (evalX vs t).2 ≠ 0) :
    Calls Try.prog 30 #[.pointer (some ⟨R, 0, none⟩), .pointer (some a)] w fun e w' => e = .returned (.int .i64 (evalX vs t).2) ∧ Below B w0 w' :=
  (through_any h k a t ha hh hN).mono fun e w' hx => by
    obtain ⟨err, rfl, ⟨rfl, h1, _⟩ | ⟨h1, h2, h3⟩⟩ := hx
    · exact absurd h1 h0
    · rw [h2]
      exact ⟨rfl, h3⟩
end

/-- What All tells. -/
def AllP (vs : List V3) (ts : List X) (w : World) (e : Ending) (w' : World) : Prop :=
  ∃ v, e = .returned (.tuple #[v, .int .i64 (evalL vs ts).2]) ∧ Below w.heap.size w w' ∧ ((evalL vs ts).2 = 0 → ∃ g, v = .slice (some ⟨g, 0, none⟩) ts.length ts.length ∧ g < w'.heap.size ∧ RowAt w' g 0 (evalL vs ts).1) ∧ ((evalL vs ts).2 ≠ 0 → v = .slice none 0 0)

theorem ws_start (w : World) (vo : Option Addr) (vc : Nat) (vs : List V3) (hv : Vars w.heap.size w vo vc vs) :
    WS w.heap.size w ((((w.alloc (.cells #[.slice vo vs.length vc] 30)).alloc (.map (saysE w.heap.size) 3)).alloc (.map #[] 0)).alloc (.cells #[.map (some (w.heap.size + 1)), .slice none 0 0, .slice none 0 0, .map (some (w.heap.size + 1 + 1))] 60)) (w.heap.size + 1 + 1 + 1) (w.heap.size + 1) w.heap.size (w.heap.size + 1 + 1) vo vc vs (.slice none 0 0) (.slice none 0 0) [] [] [] := by
  refine ⟨(((below_own _).alloc (by simp) _).alloc (by simp; omega) _).alloc (by simp; omega) _, Nat.le_refl _, by omega, by omega, Nat.le_refl _, by omega, alloc_at (by simp) _, ?_, ?_, hv, World.ownsRow_nil _ _ _ _, World.ownsRow_nil _ _ _ _, ⟨#[], 0, ?_, rfl⟩, by omega⟩
  · exact alloc_keep (alloc_keep (alloc_at (by simp) _) _) _
  · exact alloc_keep (alloc_keep (alloc_keep (alloc_at rfl _) _) _) _
  · exact alloc_keep (alloc_at (by simp) _) _

set_option maxRecDepth 100000 in
set_option maxHeartbeats 4000000 in
theorem all_any (w : World) (vo : Option Addr) (vc : Nat) (vs : List V3) (hv : Vars w.heap.size w vo vc vs) (xb xo xc : Nat) (ts : List X) (hx : ∀ i, (h : i < ts.length) → At9 w.heap.size w ⟨xb, xo + i * 7, none⟩ ts[i]) (hh : ∀ t, t ∈ ts → Held t) (hN : ∀ t, t ∈ ts → ts.length + 1 + t.wt ≤ 1000000) (hl : ts.length ≤ 1000000) :
    Calls Try.prog 14 #[.slice vo vs.length vc, .slice (some ⟨xb, xo, none⟩) ts.length xc] w (AllP vs ts w) := by
  have hmm := @run_makeMap Try.prog
  have H0 := Lib.hid (ws_start w vo vc vs hv)
  have HS := Lib.hid (fun W => sayings_any vo vs.length vc W)
  have HX := Lib.hid (And.intro hx (And.intro hh hN))
  have hfine := Lib.hid hv.fine
  clear hx hh hN hv
  have mixed : Try.prog.follows .mixedOrders = true := by kernel_rfl
  go_enter Try.func14, Try.ntmps14
  go_wp2_with (go_at_call 29; go_must (refine (HS.out _).mono ?_; rintro e w2 ⟨rfl, rfl⟩))
  go_loopw [15] (fun s15 wr => ∃ k : Nat, k ≤ ts.length ∧ s15 = .int .i64 k ∧ Hid (∃ wv sv kn q, WS w.heap.size w wr (w.heap.size + 1 + 1 + 1) (w.heap.size + 1) w.heap.size (w.heap.size + 1 + 1) vo vc vs wv sv [] q kn ∧ Kn w.heap.size w vs [] kn ∧ evalL vs (ts.take k) = (q, 0))) (fun s15 _ => ts.length - (intOf s15).toNat)
  case atStart => exact ⟨0, by omega, rfl, _, _, [], [], H0.out, ⟨fun f hf => (by cases hf), List.nodup_nil, fun p hp => (by cases hp), fun f hf => (by cases hf)⟩, by rw [List.take_zero, evalL_nil]⟩
  case round =>
    obtain ⟨k, hk, rfl, HL⟩ := hrel
    clear H0
    obtain ⟨wv, sv, kn, q, hW, hK, hE⟩ := HL.out
    have hql := evalL_length vs _ q hE
    rw [List.length_take] at hql
    by_cases hlt : k < ts.length
    · obtain ⟨hx, hh, hN⟩ := HX.out
      have hmem : ts[k] ∈ ts := List.getElem_mem hlt
      have hkn : (k : Int) < (ts.length : Int) := by omega
      have hln : (ts.length : Int) ≤ 1000000 := by omega
      have HE := Lib.hid hE
      have HG := Lib.hid (show ts = ts.take k ++ ts[k] :: ts.drop (k + 1) by rw [← List.drop_eq_getElem_cons hlt, List.take_append_drop])
      have HG2 := Lib.hid (show ts.take (k + 1) = ts.take k ++ [ts[k]] by rw [List.take_add_one, List.getElem?_eq_getElem hlt]; rfl)
      by_cases h0 : (evalX vs ts[k]).2 = 0
      · have HT := Lib.hid (through_ok hW hK _ ts[k] (hx k hlt) (hh _ hmem) (by have := hN _ hmem; omega) h0)
        have HG3 := Lib.hid (show evalL vs (ts.take (k + 1)) = (q ++ [(evalX vs ts[k]).1], 0) by
          rw [HG2.out]
          have := evalL_snoc vs ts[k] _ q HE.out
          rwa [if_pos h0] at this)
        clear hx hh hN hmem hW hK hE HL hql HG HG2 h0
        generalize evalX vs ts[k] = r at HT HG3
        go_wp2_with (go_at_call 30; go_must (refine (HT.out).mono ?_; rintro e w1 ⟨rfl, hx⟩; have HR := Lib.hid hx; clear hx))
        have HN : Hid (∃ wv sv kn q, WS w.heap.size w w1 (w.heap.size + 1 + 1 + 1) (w.heap.size + 1) w.heap.size (w.heap.size + 1 + 1) vo vc vs wv sv [] q kn ∧ Kn w.heap.size w vs [] kn ∧ evalL vs (ts.take (k + 1)) = (q, 0)) := by
          obtain ⟨wv', sv', kn', hW', hK'⟩ := HR.out
          exact ⟨wv', sv', kn', _, hW', hK', HG3.out⟩
        clear HR HT HE HG3
        go_roundw
        case rel => exact ⟨k + 1, by omega, by go_num, HN⟩
        case measure => simp [intOf]; omega
      · have HT := Lib.hid (through_bad hW hK _ ts[k] (hx k hlt) (hh _ hmem) (by have := hN _ hmem; omega) h0)
        have HZ := Lib.hid (show evalL vs ts = ([], (evalX vs ts[k]).2) by
          have := evalL_fault vs ts[k] h0 (ts.drop (k + 1)) _ q HE.out
          rwa [← HG.out] at this)
        have hd : ((evalX vs ts[k]).2 != 0) = true := by simp [h0]
        have H0 := Lib.hid h0
        clear hx hh hN hmem hW hK hE HL hql HG HG2 h0
        generalize (evalX vs ts[k]).2 = r at HT HZ hd H0
        go_wp2_with (go_at_call 30; go_must (refine (HT.out).mono ?_; rintro e w1 ⟨rfl, hx⟩; have HR := Lib.hid hx; clear hx))
        go_ret2
        unfold AllP
        rw [HZ.out]
        exact ⟨_, rfl, HR.out, fun h => absurd h H0.out, fun _ => rfl⟩
    · obtain rfl : k = ts.length := by omega
      rw [List.take_length] at hE
      have hlz : ¬ (ts.length : Int) < (ts.length : Int) := by omega
      have hqn : q.length = ts.length := by omega
      obtain ⟨ao, c, rfl⟩ := owns_slice hW.said
      have hrow : 0 < q.length → ∃ b off, ao = some ⟨b, off, none⟩ ∧ b < wr.heap.size ∧ RowAt wr b off q := fun hp => by
        rcases hW.said.2 with ⟨_, h0⟩ | ⟨g, cap, cur, h', _⟩
        · omega
        · simp only [Value.slice.injEq] at h'
          obtain ⟨rfl, _, rfl⟩ := h'
          exact ⟨g, 0, rfl, (hW.said.lt g rfl).2, RowAt.ofCells q fun j hj => by rw [Nat.zero_add]; exact hW.said.cellAt j hj⟩
      have HO := Lib.hid (own_any ao q.length c q wr rfl (by omega) hrow (evalL_short vs ts q hE))
      have d2 := Lib.cell_of_heap hW.box 2
      have HB := Lib.hid (And.intro hW.base (And.intro hE hqn))
      clear hrow hW hK hE HL hql HX
      rw [hqn] at HO d2
      clear hqn
      go_wp2_with (go_at_call 31; go_must (refine (HO.out).mono ?_; rintro e w1 ⟨rfl, hx⟩; have HR := Lib.hid hx; clear hx))
      go_ret2
      obtain ⟨h1, h2, h3⟩ := HR.out
      obtain ⟨hb, hE, hqn⟩ := HB.out
      unfold AllP
      rw [hE]
      exact ⟨_, rfl, hb.trans (h3.mono hb.size), fun _ => ⟨_, rfl, h1, h2⟩, fun h => absurd rfl h⟩
end Go.Proofs.Ytkbkkhfmejpbeaa
