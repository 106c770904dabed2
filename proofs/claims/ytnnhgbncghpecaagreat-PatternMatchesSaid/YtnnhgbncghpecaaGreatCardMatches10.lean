/- PatternMatches is true of any condition, fact and env; no conditions. -/
import Derived.Test.YtnnhgbncghpecaaGreatOpen10
import Derived.Test.YtnnhgbncghpecaaGreatMatches10
import Derived.Test.YtnnhgbncghpecaaGreatRows
import Derived.ChangeArms
import Derived.ChangeMaps5
import Derived.ProofKit
import Derived.OpenShut
import Derived.LaidMore
import Derived.Lay
import Derived.SevenTiedAt
import Derived.Stop.Joined
import Derived.Lib.SmallJoins
import Derived.Deep.Slices
import Derived.Deep.Strs
import Derived.Carry
import Derived.SizedLaws
namespace Go.Proofs.YtnnhgbncghpecaaGreat
open Go.ChangeShapes Go.WideShapes Go.ChangeAt Go.RowKit
set_option maxRecDepth 100000

instance : Inhabited X := ⟨.mk 0 0 0 ⟨#[]⟩ 0 0 []⟩
theorem cells7 : Tryz.prog.cellsOf 31 = 7 := by kernel_rfl
set_option maxRecDepth 100000 in
theorem open_expr {H : Type} {enc : TypeId × Value → H} {W : World} (fuel : Nat) : ∀ (cs : List Value) (x : DataW H × List MemPlace), DataW.trod enc Tryz.prog W 0 (fun _ => true) true fuel 31 cs = some x →
    ∃ t v, cs = hd t v ∧ Lies W.heap.size W t v := by
  induction fuel using Nat.strongRecOn with
  | ind fuel ih =>
    intro cs x h
    obtain ⟨xs, n, rfl, rfl, hl, hlen, hf⟩ := DataW.trod_struct Tryz.underlying31 h
    rw [cells7] at hl
    have c0 : Tryz.prog.cellsOf 24 = 1 := by kernel_rfl
    have c1 : Tryz.prog.cellsOf 27 = 3 := by kernel_rfl
    have c2 : Tryz.prog.cellsOf 3 = 1 := by kernel_rfl
    have c3 : Tryz.prog.cellsOf 28 = 1 := by kernel_rfl
    have c4 : Tryz.prog.cellsOf 29 = 1 := by kernel_rfl
    have c5 : Tryz.prog.cellsOf 25 = 1 := by kernel_rfl
    have c6 : Tryz.prog.cellsOf 2 = 1 := by kernel_rfl
    have c7 : Tryz.prog.cellsOf 9 = 1 := by kernel_rfl
    match cs, hl, xs, hlen with
    | [v0, v1, v2, v3, v4, v5, v6], _, [y0, y1, y2, y3, y4], _ =>
      have g0 := hf 0 _ rfl
      have g1 := hf 1 _ rfl
      have g2 := hf 2 _ rfl
      have g3 := hf 3 _ rfl
      have g4 := hf 4 _ rfl
      simp [c0, c1, c2, c3, c4] at g0 g1 g2 g3 g4
      obtain ⟨z0, z1, z2, nz, _, _, q0, q1, q2⟩ := Deep.trod_struct3 Tryz.underlying27 g1
      simp [c5, c6, c7] at q0 q1 q2
      obtain ⟨k0, e0, _, wk⟩ := DataW.trod_int Tryz.underlying24 g0
      obtain ⟨a0, e1, _, wa⟩ := DataW.trod_int Tryz.underlying25 q0
      obtain ⟨b0, e2, _, wb⟩ := DataW.trod_int Tryz.underlying2 q1
      obtain ⟨s0, e3, _, ws⟩ := DataW.trod_string Tryz.underlying9 q2
      obtain ⟨i0, e4, _, wi⟩ := DataW.trod_int Tryz.underlying3 g2
      obtain ⟨o0, e5, _, wo⟩ := DataW.trod_int Tryz.underlying28 g3
      simp at e0 e1 e2 e3 e4 e5
      subst e0 e1 e2 e3 e4 e5
      rcases DataW.trod_slice Tryz.underlying29 g4 with ⟨e6, _⟩ | ⟨a, len, cap, elems, rest, n', hn, e6, _, _, hlc, hcm, hel, hat, _, _⟩
      · simp at e6
        subst e6
        exact ⟨.mk k0 a0 b0 s0 i0 o0 [], .slice none 0 0, rfl, .mk (.mk k0 a0 b0 s0 i0 o0 []) none 0 [] rfl (fun e => absurd rfl e) (fun _ => rfl) (Nat.le_refl _) (by unfold maxLen; omega) (fun p hp => by cases hp)⟩
      · simp at e6
        subst e6 hn
        have each : ∀ i, i < len → ∃ q : X × Value, Lies W.heap.size W q.1 q.2 ∧ ∀ j, j < 7 → W.cell? ((a.add (i * 7)).add j) = (hd q.1 q.2)[j]? := by
          intro i hi
          have h1 := hat i hi
          rw [cells7, List.getElem?_eq_getElem (by omega), Option.bind_eq_some_iff] at h1
          obtain ⟨cs', h2, h3⟩ := h1
          obtain ⟨t, v, rfl, h4⟩ := ih n' (by omega) _ _ h3
          exact ⟨(t, v), h4, (World.cells?_some h2).2.2⟩
        obtain ⟨q, hq⟩ := Deep.choose_lt each
        have hps : ∀ p, p ∈ (List.range len).map q → Lies W.heap.size W p.1 p.2 := by
          intro p hp
          simp only [List.mem_map, List.mem_range] at hp
          obtain ⟨i, hi, rfl⟩ := hp
          exact (hq i hi).1
        have hcell : ∀ (j : Nat) (u : Value), (cellsE ((List.range len).map q))[j]? = some u → W.cell? (a.add j) = some u := by
          intro j u hu
          have hj : j < len * 7 := by
            have := (List.getElem?_eq_some_iff.1 hu).1
            rw [cellsE_length] at this
            simpa using this
          have hi : j / 7 < len := by omega
          have hr : j % 7 < 7 := by omega
          have h1 := (hq (j / 7) hi).2 (j % 7) hr
          rw [Deep.add_add, show j / 7 * 7 + j % 7 = j by omega] at h1
          rw [h1, ← hu]
          obtain ⟨w0, w1, w2, w3, w4, w5, w6⟩ := cellsE_at ((List.range len).map q) (j / 7) (by simpa using hi)
          simp only [List.getElem_map, List.getElem_range] at w0 w1 w2 w3 w4 w5 w6
          have hjj : j = j / 7 * 7 + j % 7 := by omega
          generalize j / 7 = i at *
          generalize j % 7 = r at *
          subst hjj
          have hr' : r = 0 ∨ r = 1 ∨ r = 2 ∨ r = 3 ∨ r = 4 ∨ r = 5 ∨ r = 6 := by omega
          rcases hr' with rfl | rfl | rfl | rfl | rfl | rfl | rfl
          · exact w0.symm
          · exact w1.symm
          · exact w2.symm
          · exact w3.symm
          · exact w4.symm
          · exact w5.symm
          · exact w6.symm
        refine ⟨.mk k0 a0 b0 s0 i0 o0 (((List.range len).map q).map Prod.fst), .slice (some a) len cap, rfl, ?_⟩
        · have hlen2 : (X.mk k0 a0 b0 s0 i0 o0 (((List.range len).map q).map Prod.fst)).kids.length = len := by simp [X.kids]
          have := Lies.mk (B := W.heap.size) (w := W) (.mk k0 a0 b0 s0 i0 o0 (((List.range len).map q).map Prod.fst)) (some a) cap ((List.range len).map q) rfl ?_ (fun e => by cases e) (by rw [hlen2]; exact hlc) hcm (fun p hp => hps p hp)
          · rw [hlen2] at this
            exact this
          · intro hne
            obtain ⟨b, off, path⟩ := a
            obtain ⟨u, hu⟩ : ∃ u, (cellsE ((List.range len).map q))[0]? = some u := by
              cases hz : cellsE ((List.range len).map q) with
              | nil => exact absurd hz hne
              | cons u l => exact ⟨u, rfl⟩
            have h0 := hcell 0 u hu
            have hp : path = none := by
              cases path with
              | none => rfl
              | some z => exfalso; revert h0; simp only [Addr.add, World.cell?]; split <;> simp
            subst hp
            refine ⟨b, off, rfl, ?_, fun j u hu => ?_⟩
            · apply Classical.byContradiction
              intro hn
              have hnone : W.heap[b]? = none := Array.getElem?_eq_none (by omega)
              revert h0
              simp [Addr.add, World.cell?, hnone]
            · have := hcell j u hu
              rwa [Addr.add_lit] at this
theorem open_condX {H : Type} {enc : TypeId × Value → H} {W : World} {fuel : Nat} {cs : List Value} {x : DataW H × List MemPlace} (h : Trd enc W fuel 33 cs x) :
    ∃ (c : C10) (ao : Option Addr) (ac : Nat) (xo : Option Addr) (xc : Nat), cs = (cellsC c ao ac xo xc).toList ∧ Sl10 W.heap.size W c.args.length ao ac (cellsA c.args) ∧ Lies W.heap.size W c.test (.slice xo c.test.kids.length xc) := by
  have c0 : Tryz.prog.cellsOf 22 = 1 := by kernel_rfl
  have c1 : Tryz.prog.cellsOf 3 = 1 := by kernel_rfl
  have c2 : Tryz.prog.cellsOf 23 = 1 := by kernel_rfl
  have c3 : Tryz.prog.cellsOf 31 = 7 := by kernel_rfl
  have c4 : Tryz.prog.cellsOf 33 = 10 := by kernel_rfl
  obtain ⟨xs, n, rfl, rfl, hl, hlen, hf⟩ := DataW.trod_struct Tryz.underlying33 h
  rw [c4] at hl
  match cs, hl, xs, hlen with
  | [v0, v1, v2, v3, v4, v5, v6, v7, v8, v9], _, [y0, y1, y2, y3], _ =>
    have g0 := hf 0 _ rfl
    have g1 := hf 1 _ rfl
    have g2 := hf 2 _ rfl
    have g3 := hf 3 _ rfl
    simp [c0, c1, c2, c3] at g0 g1 g2 g3
    obtain ⟨k0, e0, _, wk⟩ := DataW.trod_int Tryz.underlying22 g0
    obtain ⟨i0, e1, _, wi⟩ := DataW.trod_int Tryz.underlying3 g1
    obtain ⟨ao, l, ac, e2, hs, hv⟩ := open_args g2
    obtain ⟨t, v, e3, hL⟩ := open_expr _ _ _ g3
    obtain ⟨xo, xc, ps, rfl, -⟩ := hL.out
    simp at e0 e1 e2
    subst e0 e1 e2
    refine ⟨⟨k0, i0, l, t⟩, ao, ac, xo, xc, ?_, hs, hL⟩
    rw [e3]
end Go.Proofs.YtnnhgbncghpecaaGreat

namespace Go.Proofs.YtnnhgbncghpecaaGreat.patternMatches
open Go.ChangeShapes Go.WideShapes Go.ChangeAt Go.RowKit Go.Joins

theorem own : ownKnob Tryz.prog.godebug = none := by kernel_rfl
theorem laidOut : laidOutB Tryz.prog = true := by kernel_rfl
theorem agg_of {v : Value} {l : List Value} (h : v.cells.toList = l) (hl : l.length ≠ 1) : v = .agg l.toArray := by
  cases v with
  | agg cs =>
    obtain ⟨k⟩ := cs
    have : k = l := h
    rw [this]
  | _ =>
    exfalso
    apply hl
    rw [← h]
    rfl
set_option maxRecDepth 100000 in
theorem lifted (os : Os) (started : os.Started) (H : Type) (enc : TypeId × Value → H) :
    ReturnsInHanded {} Tryz.checked os 3 .any (Rows.patternMatchesSpec.pre6 enc Tryz.prog Tryz.f3 Rows.patternMatchesRow.domain false) (Rows.patternMatchesSpec.post enc Tryz.prog Tryz.f3 false true false false) := by
  refine returnsInHanded_of_change_sized (C := Tryz.checked) own started (by kernel_rfl) Tryz.func3
    (ChangeSpec.witness6 (enc := enc) (C := Tryz.checked) false ⟨#[], #[.agg #[.int .u8 0, .int .i64 0, .slice none 0 0, .int .u8 0, .int .u8 0, .int .i64 0, .string ⟨#[]⟩, .int .i64 0, .int .u8 0, .slice none 0 0], .agg #[.int .i64 0, .int .i64 0, .slice none 0 0], .slice none 0 0, .slice none 0 0], []⟩ 8 (by kernel_rfl) (by kernel_rfl) (by kernel_rfl) (by kernel_rfl)) ?_
  intro W base args ds gs before hval0 hW _ hsz0 _
  have hval : ∀ (j : Nat) t v, Tryz.f3.params[j]? = some t → args[j]? = some v → Value.okWide Tryz.prog W .any base t v := hval0
  have hW' := hW
  obtain ⟨p, q, hA0, hV, rfl, _, _⟩ := hW
  have hA : DataW.TrodAll enc Tryz.prog W 0 (fun _ => true) true Tryz.f3.params.toList args.toList ds p := hA0
  have hsz : (DataW.weightsEach Tryz.prog (Tryz.f3.params.toList ++ Rows.patternMatchesSpec.plain.varTypes Tryz.prog) (ds ++ gs)).all (· ≤ reachBytes) = true := hsz0
  rw [Tryz.params3] at hA hval hsz
  obtain ⟨v0, vs0, d0, ds0, p0, q0, hargs, rfl, rfl, h0, r0⟩ := trodAll_cons hA
  obtain ⟨v1, vs1, d1, ds1, p1, q1, rfl, rfl, rfl, h1, r1⟩ := trodAll_cons r0
  obtain ⟨v2, vs2, d2, ds2, p2, q2, rfl, rfl, rfl, h2, r2⟩ := trodAll_cons r1
  obtain ⟨v3, vs3, d3, ds3, p3, q3, rfl, rfl, rfl, h3, r3⟩ := trodAll_cons r2
  obtain ⟨rfl, rfl, rfl⟩ := trodAll_nil r3
  obtain rfl : args = #[v0, v1, v2, v3] := by cases args; simp_all
  obtain ⟨rfl, rfl⟩ := trodVars_none hV
  have wt : ∀ m, m ∈ d1.weights Tryz.prog 36 ∨ m ∈ d3.weights Tryz.prog 34 → m ≤ 140737488355328 := fun m hm => by
    have := List.all_eq_true.1 hsz m (by
      simp only [List.cons_append, List.nil_append, DataW.weightsEach, List.mem_append]
      rcases hm with hm | hm
      · exact Or.inr (Or.inl hm)
      · exact Or.inr (Or.inr (Or.inr (Or.inl hm))))
    have := of_decide_eq_true this
    unfold reachBytes at this
    omega
  have g0 := h0
  have g1 := h1
  have g2 := h2
  have g3 := h3
  obtain ⟨a2, len2, cap2, rfl⟩ := okWide_slice Tryz.underlying37 (hval 2 37 v2 rfl rfl)
  obtain ⟨a3, len3, cap3, rfl⟩ := okWide_slice Tryz.underlying34 (hval 3 34 v3 rfl rfl)
  obtain ⟨k0, h0⟩ := h0
  obtain ⟨k1, h1⟩ := h1
  obtain ⟨k2, h2⟩ := h2
  obtain ⟨k3, h3⟩ := h3
  obtain ⟨c, ao, ac, xo, xc, e0, s0, x0⟩ := open_condX h0
  obtain ⟨f, fo, fc, e1, s1, x1⟩ := open_fact h1
  obtain ⟨ho, hl, hc, e2, s2⟩ := open_bools h2
  obtain ⟨vo, vl, vc, e3, s3, x3⟩ := open_vals h3
  obtain rfl := agg_of e0 (by simp)
  obtain rfl := agg_of e1 (by simp)
  simp [Value.cells] at e2 e3
  obtain ⟨rfl, rfl, rfl⟩ := e2
  obtain ⟨rfl, rfl, rfl⟩ := e3
  have hcame : CameM W c ao ac xo xc f fo fc (hl, vl) a2 cap2 a3 cap3 := ⟨s0, x0, s1, ⟨s2, s3⟩, fun u hu => wt _ (Or.inl (x1 u hu)), fun u hu => wt _ (Or.inr (x3 u hu))⟩
  have hlt0 : ∀ x ∈ p0, x.block < W.heap.size := fun x hx => hW'.lt x (by simp [hx])
  have hlt1 : ∀ x ∈ p1, x.block < W.heap.size := fun x hx => hW'.lt x (by simp [hx])
  have hlt2 : ∀ x ∈ p2, x.block < W.heap.size := fun x hx => hW'.lt x (by simp [hx])
  have hlt3 : ∀ x ∈ p3, x.block < W.heap.size := fun x hx => hW'.lt x (by simp [hx])
  clear hA0 hval0 hsz0
  refine (matches_any hcame).mono fun e W' ⟨he, hg⟩ => ?_
  subst he
  refine ⟨_, rfl, _, _, _, [], p0 ++ (p1 ++ (p2 ++ (p3 ++ ([])))), [], hW', (trodAll_cons_mk (shut_bool Tryz.underlying4 _) trodAll_mk0), ?_, rfl, hg.frame _, fun h => by cases h⟩
  exact (trodAll_cons_mk (Below.trod laidOut (by kernel_rfl) (of_decide_eq_true (by kernel_rfl)) g0 hg hlt0) (trodAll_cons_mk (Below.trod laidOut (by kernel_rfl) (of_decide_eq_true (by kernel_rfl)) g1 hg hlt1) (trodAll_cons_mk (Below.trod laidOut (by kernel_rfl) (of_decide_eq_true (by kernel_rfl)) g2 hg hlt2) (trodAll_cons_mk (Below.trod laidOut (by kernel_rfl) (of_decide_eq_true (by kernel_rfl)) g3 hg hlt3) trodAll_mk0))))

/-- THE STATEMENT. -/
theorem proved : Rows.PatternMatchesSaid :=
  OpenClaim.holds_of_wide 3 Tryz.f3 rfl rfl rfl rfl rfl rfl rfl ⟨rfl, rfl, rfl, rfl, rfl⟩ rfl rfl rfl rfl rfl (by kernel_rfl) Tryz.func3 (by kernel_rfl)
    (of_decide_eq_true (by kernel_rfl)) (by unfold Func.isWrapper; first | (rw [if_pos (by decide +kernel)]; kernel_rfl) | (rw [if_neg (by decide +kernel)]; exact ⟨rfl, rfl⟩))
    (fun os started H enc _ => lifted os started H enc)
#print axioms proved
end Go.Proofs.YtnnhgbncghpecaaGreat.patternMatches
