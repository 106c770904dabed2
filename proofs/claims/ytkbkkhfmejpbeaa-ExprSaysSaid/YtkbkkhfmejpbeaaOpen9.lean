/- An expression that came in; a row of values that came in. -/
import Derived.Test.YtkbkkhfmejpbeaaLight9
import Derived.Test.YtkbkkhfmejpbeaaAwakeA9
import Derived.ProofKit
import Derived.OpenShut
import Derived.ChangeArms
import Derived.ChangeMaps5
import Derived.Deep.Slices
import Derived.Deep.Strs
import Derived.Lib.SmallJoins
namespace Go.Proofs.Ytkbkkhfmejpbeaa
open Go.ChangeShapes Go.WideShapes Go.ChangeAt Go.RowKit

theorem in64_of_wf {x : Int} (h : (Lit.int .i64 x).wf = true) : In64 x := by
  have h' : -9223372036854775808 ≤ x ∧ x ≤ 9223372036854775807 := by simpa [Lit.wf, IntKind.min, IntKind.max, IntKind.signed, IntKind.bits] using h
  exact ⟨h'.1, h'.2⟩
theorem cells3 : Try.prog.cellsOf 25 = 3 := by kernel_rfl
instance : Inhabited X := ⟨.mk 0 0 0 ⟨#[]⟩ 0 0 []⟩
theorem cells7 : Try.prog.cellsOf 29 = 7 := by kernel_rfl
set_option maxRecDepth 100000 in
theorem open_expr {H : Type} {enc : TypeId × Value → H} {W : World} (fuel : Nat) : ∀ (cs : List Value) (x : DataW H × List MemPlace), DataW.trod enc Try.prog W 0 (fun _ => true) true fuel 29 cs = some x →
    ∃ t v, cs = seven t v ∧ Lies W.heap.size W t v ∧ Held t := by
  induction fuel using Nat.strongRecOn with
  | ind fuel ih =>
    intro cs x h
    obtain ⟨xs, n, rfl, rfl, hl, hlen, hf⟩ := DataW.trod_struct Try.underlying29 h
    rw [cells7] at hl
    have c0 : Try.prog.cellsOf 22 = 1 := by kernel_rfl
    have c1 := cells3
    have c2 : Try.prog.cellsOf 3 = 1 := by kernel_rfl
    have c3 : Try.prog.cellsOf 26 = 1 := by kernel_rfl
    have c4 : Try.prog.cellsOf 27 = 1 := by kernel_rfl
    have c5 : Try.prog.cellsOf 23 = 1 := by kernel_rfl
    have c6 : Try.prog.cellsOf 2 = 1 := by kernel_rfl
    have c7 : Try.prog.cellsOf 9 = 1 := by kernel_rfl
    match cs, hl, xs, hlen with
    | [v0, v1, v2, v3, v4, v5, v6], _, [y0, y1, y2, y3, y4], _ =>
      have g0 := hf 0 _ rfl
      have g1 := hf 1 _ rfl
      have g2 := hf 2 _ rfl
      have g3 := hf 3 _ rfl
      have g4 := hf 4 _ rfl
      simp [c0, c1, c2, c3, c4] at g0 g1 g2 g3 g4
      obtain ⟨z0, z1, z2, nz, _, _, q0, q1, q2⟩ := Deep.trod_struct3 Try.underlying25 g1
      simp [c5, c6, c7] at q0 q1 q2
      obtain ⟨k0, e0, _, wk⟩ := DataW.trod_int Try.underlying22 g0
      obtain ⟨a0, e1, _, wa⟩ := DataW.trod_int Try.underlying23 q0
      obtain ⟨b0, e2, _, wb⟩ := DataW.trod_int Try.underlying2 q1
      obtain ⟨s0, e3, _, ws⟩ := DataW.trod_string Try.underlying9 q2
      obtain ⟨i0, e4, _, wi⟩ := DataW.trod_int Try.underlying3 g2
      obtain ⟨o0, e5, _, wo⟩ := DataW.trod_int Try.underlying26 g3
      simp at e0 e1 e2 e3 e4 e5
      subst e0 e1 e2 e3 e4 e5
      have hheld : ∀ l : List X, (∀ k, k ∈ l → Held k) → Held (.mk k0 a0 b0 s0 i0 o0 l) := fun l hk => .mk _ ⟨in64_of_wf wb, ws⟩ (in64_of_wf wi) hk
      rcases DataW.trod_slice Try.underlying27 g4 with ⟨e6, _⟩ | ⟨a, len, cap, elems, rest, n', hn, e6, _, _, hlc, hcm, hel, hat, _, _⟩
      · simp at e6
        subst e6
        exact ⟨.mk k0 a0 b0 s0 i0 o0 [], .slice none 0 0, rfl, .mk (.mk k0 a0 b0 s0 i0 o0 []) none 0 [] rfl (fun e => absurd rfl e) (fun _ => rfl) (Nat.le_refl _) (by unfold maxLen; omega) (fun p hp => by cases hp), hheld [] (fun k hk => by cases hk)⟩
      · simp at e6
        subst e6 hn
        have each : ∀ i, i < len → ∃ q : X × Value, (Lies W.heap.size W q.1 q.2 ∧ Held q.1) ∧ ∀ j, j < 7 → W.cell? ((a.add (i * 7)).add j) = (seven q.1 q.2)[j]? := by
          intro i hi
          have h1 := hat i hi
          rw [cells7, List.getElem?_eq_getElem (by omega), Option.bind_eq_some_iff] at h1
          obtain ⟨cs', h2, h3⟩ := h1
          obtain ⟨t, v, rfl, h4, h5⟩ := ih n' (by omega) _ _ h3
          exact ⟨(t, v), ⟨h4, h5⟩, (World.cells?_some h2).2.2⟩
        obtain ⟨q, hq⟩ := Deep.choose_lt each
        have hps : ∀ p, p ∈ (List.range len).map q → Lies W.heap.size W p.1 p.2 ∧ Held p.1 := by
          intro p hp
          simp only [List.mem_map, List.mem_range] at hp
          obtain ⟨i, hi, rfl⟩ := hp
          exact (hq i hi).1
        have hcell : ∀ (j : Nat) (u : Value), (cellsE ((List.range len).map q))[j]? = some u → W.cell? (a.add j) = some u := by
          intro j u hu
          have hj : j < len * 7 := by
            have := (List.getElem?_eq_some_iff.1 hu).1
            rw [cellsE_length] at this
            simpa using this
          have hi : j / 7 < len := by omega
          have hr : j % 7 < 7 := by omega
          have h1 := (hq (j / 7) hi).2 (j % 7) hr
          rw [Deep.add_add, show j / 7 * 7 + j % 7 = j by omega] at h1
          rw [h1, ← hu]
          obtain ⟨w0, w1, w2, w3, w4, w5, w6⟩ := cellsE_at ((List.range len).map q) (j / 7) (by simpa using hi)
          simp only [List.getElem_map, List.getElem_range] at w0 w1 w2 w3 w4 w5 w6
          have hjj : j = j / 7 * 7 + j % 7 := by omega
          generalize j / 7 = i at *
          generalize j % 7 = r at *
          subst hjj
          have hr' : r = 0 ∨ r = 1 ∨ r = 2 ∨ r = 3 ∨ r = 4 ∨ r = 5 ∨ r = 6 := by omega
          rcases hr' with rfl | rfl | rfl | rfl | rfl | rfl | rfl
          · exact w0.symm
          · exact w1.symm
          · exact w2.symm
          · exact w3.symm
          · exact w4.symm
          · exact w5.symm
          · exact w6.symm
        refine ⟨.mk k0 a0 b0 s0 i0 o0 (((List.range len).map q).map Prod.fst), .slice (some a) len cap, rfl, ?_, hheld _ fun k hk => ?_⟩
        · have hlen2 : (X.mk k0 a0 b0 s0 i0 o0 (((List.range len).map q).map Prod.fst)).kids.length = len := by simp [X.kids]
          have := Lies.mk (B := W.heap.size) (w := W) (.mk k0 a0 b0 s0 i0 o0 (((List.range len).map q).map Prod.fst)) (some a) cap ((List.range len).map q) rfl ?_ (fun e => by cases e) (by rw [hlen2]; exact hlc) hcm (fun p hp => (hps p hp).1)
          · rw [hlen2] at this
            exact this
          · intro hne
            obtain ⟨b, off, path⟩ := a
            obtain ⟨u, hu⟩ : ∃ u, (cellsE ((List.range len).map q))[0]? = some u := by
              cases hz : cellsE ((List.range len).map q) with
              | nil => exact absurd hz hne
              | cons u l => exact ⟨u, rfl⟩
            have h0 := hcell 0 u hu
            have hp : path = none := by
              cases path with
              | none => rfl
              | some z => exfalso; revert h0; simp only [Addr.add, World.cell?]; split <;> simp
            subst hp
            refine ⟨b, off, rfl, ?_, fun j u hu => ?_⟩
            · apply Classical.byContradiction
              intro hn
              have hnone : W.heap[b]? = none := Array.getElem?_eq_none (by omega)
              revert h0
              simp [Addr.add, World.cell?, hnone]
            · have := hcell j u hu
              rwa [Addr.add_lit] at this
        · have hk' : k ∈ ((List.range len).map q).map Prod.fst := hk
          obtain ⟨p, hp, rfl⟩ := List.mem_map.1 hk'
          exact (hps p hp).2
/-- What a slice of values that came in holds. -/
theorem opened_values {H : Type} {enc : TypeId × Value → H} {W : World} {a : Option Addr} {len cap : Nat} {d : DataW H} {p : List MemPlace} (h : DataW.Trod enc Try.prog W 0 (fun _ => true) true 30 (.slice a len cap) d p) :
    ∃ zs : List V3, zs.length = len ∧ len ≤ maxLen ∧ Fine zs ∧ ((len = 0 ∧ (a = none → cap = 0)) ∨ ∃ b off, a = some ⟨b, off, none⟩ ∧ b < W.heap.size ∧ RowAt W b off zs) := by
  obtain ⟨fuel, hf⟩ := h
  rcases Deep.open_slice Try.underlying30 hf with ⟨hcs, _⟩ | ⟨a', len', cap', m, n, D, Pl, hcs, _, hl, hm, hmm, _, hel⟩
  · simp [Value.cells] at hcs
    obtain ⟨rfl, rfl, rfl⟩ := hcs
    exact ⟨[], rfl, Nat.zero_le _, fun x hx => by simp at hx, Or.inl ⟨rfl, fun _ => rfl⟩⟩
  · simp [Value.cells] at hcs
    obtain ⟨rfl, rfl, rfl⟩ := hcs
    have hmc : m = cap := by rw [hmm]; rfl
    have c0 : Try.prog.cellsOf 23 = 1 := by kernel_rfl
    have c1 : Try.prog.cellsOf 2 = 1 := by kernel_rfl
    have c2 : Try.prog.cellsOf 9 = 1 := by kernel_rfl
    have each : ∀ i, i < len → ∃ x : V3, (In64 x.2.1 ∧ x.2.2.size ≤ maxLen) ∧ W.cell? (a'.add (i * 3)) = some (.int .u8 x.1) ∧ W.cell? (a'.add (i * 3 + 1)) = some (.int .i64 x.2.1) ∧ W.cell? (a'.add (i * 3 + 2)) = some (.string x.2.2) := by
      intro i hi
      obtain ⟨cs', h1, h2⟩ := hel i (by omega)
      rw [cells3] at h1
      obtain ⟨_, hlen, hcell⟩ := World.cells?_some h1
      obtain ⟨y0, y1, y2, k, _, _, g0, g1, g2⟩ := Deep.trod_struct3 Try.underlying25 h2
      match cs', hlen with
      | [v0, v1, v2], _ =>
        simp [c0, c1, c2] at g0 g1 g2
        obtain ⟨k0, e0, _, wk⟩ := DataW.trod_int Try.underlying23 g0
        obtain ⟨n0, e1, _, wn⟩ := DataW.trod_int Try.underlying2 g1
        obtain ⟨s0, e2, _, ws⟩ := DataW.trod_string Try.underlying9 g2
        simp at e0 e1 e2
        subst e0 e1 e2
        have q0 := hcell 0 (by omega)
        have q1 := hcell 1 (by omega)
        have q2 := hcell 2 (by omega)
        rw [Deep.add_add] at q0 q1 q2
        exact ⟨(k0, n0, s0), ⟨in64_of_wf wn, ws⟩, by simpa using q0, by simpa using q1, by simpa using q2⟩
    obtain ⟨q, hq⟩ := Deep.choose_lt each
    refine ⟨(List.range len).map q, by simp, by omega, ?_, ?_⟩
    · intro x hx
      simp only [List.mem_map, List.mem_range] at hx
      obtain ⟨i, hi, rfl⟩ := hx
      exact (hq i hi).1
    · rcases Nat.eq_zero_or_pos len with h0 | h0
      · exact Or.inl ⟨h0, fun h => by cases h⟩
      · obtain ⟨b, off, path⟩ := a'
        have hp : path = none := by
          have := (hq 0 h0).2.1
          cases path with
          | none => rfl
          | some z => exfalso; revert this; simp only [Addr.add, World.cell?]; split <;> simp
        subst hp
        have hbl : b < W.heap.size := by
          have := (hq 0 h0).2.1
          apply Classical.byContradiction
          intro hn
          have hnone : W.heap[b]? = none := Array.getElem?_eq_none (by omega)
          revert this
          simp [Addr.add, World.cell?, hnone]
        refine Or.inr ⟨b, off, rfl, hbl, ?_⟩
        intro j hj
        have hj' : j < len := by simpa using hj
        obtain ⟨_, z0, z1, z2⟩ := hq j hj'
        rw [Addr.add_lit] at z0 z1 z2
        simp only [List.getElem_map, List.getElem_range]
        exact ⟨z0, by rw [Nat.add_assoc]; exact z1, by rw [Nat.add_assoc]; exact z2⟩

end Go.Proofs.Ytkbkkhfmejpbeaa
