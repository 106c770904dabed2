/- take: a fact goes, those behind it close up. -/
import Derived.Test.YtajhngkdnkbfcaaPut11
import Derived.Deep.RegionLaw
namespace Go.Proofs.Ytajhngkdnkbfcaa
open Go.RowKit

theorem run_clear_one (w : World) (b o c : Nat) (ty : TypeId) (ht : w.there b o 21) : (Builtin.clear_ #[72] ty #[.slice (some ⟨b, o, none⟩) 1 c]).run Try.prog w = .ok (.tuple #[]) (w.setCells b o zeroFact.cells.toList) := by
  obtain ⟨i0, hi, hz0, hz1, hz2⟩ := info_parts infoFact
  have hv : ∀ w, (zeroValue 71).run Try.prog w = .ok zeroFact w := fun w => by
    simp [zeroValue, typeInfo, hi, hz0]
  have hst := run_storeCells_cells (P := Try.prog) b o zeroFact.cells.toList 0 w (fun j hj => by simpa using (ht j hj).1) (fun j hj => by simpa using (ht j hj).2) (by
    intro v hv
    have : (zeroFact.cells.toList.all (·.oneCell')) = true := by kernel_rfl
    exact List.all_eq_true.1 this v hv)
  simp only [Nat.add_zero] at hst
  have hzc : (Builtin.zeroCells zeroFact.cells 1).toList = zeroFact.cells.toList := by kernel_rfl
  simp [Builtin.clear_, run_underlying Try.underlying72, hv, hzc, hst]
theorem wpList_clear_one (w : World) {ops : Array Oper} {rest : List Oper} {o : Oper} {a : Act} {Q : Exit → Act → World → Prop} (hg : o.guard = none) (x : Operand) (hop : o.op = Op.call { callee := Callee.builtin Builtin.clear, args := #[x], argTypes := #[72] })
    (b p m c : Nat) (hx : a.eval x = .slice (some ⟨b, p, none⟩) m c) (hm : m = 1) (ht : w.there b p 21) (hK : wpList Try.prog ops Q rest (a.put o.dst (.tuple #[])) (w.setCells b p zeroFact.cells.toList)) : wpList Try.prog ops Q (o :: rest) a w := by
  subst hm
  refine wpList_plain hg fun K hK' => ?_
  have hrun := run_clear_one w b p c o.type ht
  unfold Oper.wp
  simp only [execOp, hop, resolve, invoke, builtin, Sem.run_bind, Sem.run_pure, Result.andThen_ok, List.map_toArray, List.map_cons, List.map_nil, hx, hrun]
  exact hK' _ _ hK
theorem cellsFs_split (l : List F11) (i : Nat) : cellsFs l = cellsFs (l.take i) ++ cellsFs (l.drop i) := by rw [← cellsFs_append, List.take_append_drop]
theorem few_take {l : List F11} (h : Few l) (i : Nat) : Few (l.take i) := fun f hf => h f (List.mem_of_mem_take hf)
theorem few_drop {l : List F11} (h : Few l) (i : Nat) : Few (l.drop i) := fun f hf => h f (List.mem_of_mem_drop hf)
/-- The row without its i-th fact. -/
theorem cells_gone {l : List F11} (h : Few l) {i : Nat} (hi : i < l.length) {C Z : List Value} (hC : C.take (l.length * 21) = cellsFs l) (hl : l.length * 21 ≤ C.length) (hZ : Z.length = 21) :
    (over (over C (i * 21) (cellsFs (l.drop (i + 1)))) ((l.length - 1) * 21) Z).take ((l.length - 1) * 21) = cellsFs (l.take i ++ l.drop (i + 1)) := by
  have ln : (cellsFs (l.drop (i + 1))).length = (l.length - (i + 1)) * 21 := by rw [cellsFs_length (few_drop h _), List.length_drop]
  have lt : (cellsFs (l.take i)).length = i * 21 := by rw [cellsFs_length (few_take h _), List.length_take, Nat.min_eq_left (by omega)]
  have ll : (cellsFs l).length = l.length * 21 := cellsFs_length h
  rw [cellsFs_append]
  apply List.ext_getElem?
  intro j
  by_cases hj : j < (l.length - 1) * 21
  · rw [List.getElem?_take_of_lt hj, over_get _ _ _ _ (by rw [over_length, hZ]; omega), if_neg (by omega), over_get _ _ _ _ (by rw [ln]; omega), ln]
    by_cases h1 : i * 21 ≤ j
    · rw [if_pos (by omega), List.getElem?_append_right (by omega), lt]
    · rw [if_neg (by omega), List.getElem?_append_left (by omega)]
      have e1 : C[j]? = (cellsFs l)[j]? := by rw [← hC, List.getElem?_take_of_lt (by omega)]
      rw [e1, cellsFs_split l i, List.getElem?_append_left (by omega)]
  · rw [List.getElem?_eq_none (by rw [List.length_take]; omega), List.getElem?_eq_none (by rw [List.length_append, ln, lt]; omega)]
theorem zeroFact_len : zeroFact.cells.toList.length = 21 := rfl
/-- Delete, at a row of one's own. -/
def DelP (g c n : Nat) (xs : List Value) (w : World) (e : Ending) (w' : World) : Prop := e = .returned (.slice (some ⟨g, 0, none⟩) (n - 1) c) ∧ w'.ownsRow 0 71 21 (.slice (some ⟨g, 0, none⟩) (n - 1) c) (n - 1) xs ∧ w.grownBy w' (some g)
set_option maxRecDepth 1000000 in
set_option maxHeartbeats 4000000 in
theorem delete_any (l : List F11) (hf : Few l) (hm : l.length ≤ 256) (i : Nat) (hi : i < l.length) (g c : Nat) (w : World) (ho : w.ownsRow 0 71 21 (.slice (some ⟨g, 0, none⟩) l.length c) l.length (cellsFs l)) :
    Calls Try.prog 40 #[.slice (some ⟨g, 0, none⟩) l.length c, .int .i64 (i : Int), .int .i64 ((i : Int) + 1)] w (DelP g c l.length (cellsFs (l.take i ++ l.drop (i + 1))) w) := by
  obtain ⟨i0, hi0, hz0, hz1, hz2⟩ := info_parts infoFact
  obtain ⟨hlen, hcase⟩ := ho
  rcases hcase with ⟨hv, -⟩ | ⟨g', cap', cur, hv, -, hg, hnc, hcm, hcs, htk⟩
  · cases hv
  injection hv with e1 _ e3
  injection e1 with e1
  injection e1 with e1 _ _
  subst e1
  subst e3
  have hB : Box w g 71 cur.toList := by
    show _ = _
    rw [Array.toArray_toList]
    exact hg
  have hCl : cur.toList.length = c * 21 := by rw [Array.length_toList, hcs]
  have htk' : cur.toList.take (l.length * 21) = cellsFs l := htk
  have ln : (cellsFs (l.drop (i + 1))).length = (l.length - (i + 1)) * 21 := by rw [cellsFs_length (few_drop hf _), List.length_drop]
  -- what is moved
  obtain ⟨A, hA, hnews⟩ : ∃ A : Addr, (if c = i + 1 then some (⟨g, 0, none⟩ : Addr) else some ⟨g, (i + 1) * 21, none⟩) = some A ∧ Hid (∀ j u, (cellsFs (l.drop (i + 1)))[j]? = some u → w.drew.cell? (A.add j) = some u) := by
    by_cases h : c = i + 1
    · refine ⟨⟨g, 0, none⟩, by simp [h], fun j u hu => ?_⟩
      have := (List.getElem?_eq_some_iff.1 hu).1
      rw [ln] at this
      omega
    · refine ⟨⟨g, (i + 1) * 21, none⟩, by simp [h], fun j u hu => ?_⟩
      have hj := (List.getElem?_eq_some_iff.1 hu).1
      rw [ln] at hj
      rw [Addr.add_lit]
      show w.cell? _ = _
      rw [hB.cell]
      have e2 : cur.toList[(i + 1) * 21 + j]? = (cellsFs l)[(i + 1) * 21 + j]? := by rw [← htk', List.getElem?_take_of_lt (by omega)]
      have lt : (cellsFs (l.take (i + 1))).length = (i + 1) * 21 := by rw [cellsFs_length (few_take hf _), List.length_take, Nat.min_eq_left (by omega)]
      rw [e2, cellsFs_split l (i + 1), List.getElem?_append_right (by omega), lt, show (i + 1) * 21 + j - (i + 1) * 21 = j by omega]
      exact hu
  have HFin := Lib.hid (cells_gone (Z := zeroFact.cells.toList) hf hi htk' (by rw [hCl]; omega) zeroFact_len)
  have s1 : Hid ((cellsFs (l.drop (i + 1))).length = (l.length - (i + 1)) * 21) := ln
  have s2 := Lib.hid (cellsFs_one (l.drop (i + 1)))
  have hBd : Box w.drew g 71 cur.toList := hB
  have hB1 := hBd.setCells (cellsFs (l.drop (i + 1))) (i * 21)
  have s3 : Hid (∀ j, j < (cellsFs (l.drop (i + 1))).length → (w.drew.cell? ⟨g, 0 + i * 21 + j, none⟩).isSome = true ∧ w.drew.frozen? ⟨g, 0 + i * 21 + j, none⟩ = false) := by
    intro j hj
    rw [ln] at hj
    have := hB.there (i * 21) ((l.length - (i + 1)) * 21) (by rw [hCl]; omega) j hj
    rw [Nat.zero_add]
    exact this
  have HB1 := Lib.hid hB1
  have HCl := Lib.hid hCl
  have HTh : Hid ((w.drew.setCells g (i * 21) (cellsFs (l.drop (i + 1)))).there g ((l.length - 1) * 21) 21) := hB1.there _ _ (by rw [over_length, hCl]; omega)
  have HLf : Hid ((cellsFs (l.take i ++ l.drop (i + 1))).length = (l.length - 1) * 21) := by
    show _ = _
    rw [cellsFs_append, List.length_append, ln, cellsFs_length (few_take hf _), List.length_take, Nat.min_eq_left (by omega)]
    omega
  generalize cellsFs (l.take i ++ l.drop (i + 1)) = XS at *
  generalize cellsFs (l.drop (i + 1)) = news at *
  generalize cur.toList = C at *
  clear htk htk' hcs hg hB hBd hB1 hlen hf ln hCl
  generalize l.length = n at *
  unfold DelP
  have hic : i ≤ c := by omega
  have hne : ((i : Int) == (i : Int) + 1) = false := by rw [beq_eq_false_iff_ne]; omega
  have hp0 : (0 : Int) ≤ (i : Int) + 1 := by omega
  have hp1 : (i : Int) + 1 ≤ (n : Int) := by omega
  have hp2 : ((i : Int) + 1).toNat = i + 1 := by omega
  have hp3 : (n : Int) ≤ (c : Int) := by omega
  go_enter Try.func40, Try.ntmps40
  go_wp2_with fail
  go_region_law (refine step_append_room rfl (.tmp 22) (.tmp 25) 72 rfl 71 i0 21 Try.underlying72 hi0 hz1 g 0 i c (by simp [Act.eval, Act.put]) A (n - (i + 1)) (c - (i + 1)) news (by simp [Act.eval, Act.put]) s1.out hnews.out s2.out (by omega) s3.out ?_)
  obtain ⟨k, hk⟩ : ∃ k, n = k + 1 := ⟨n - 1, by omega⟩
  have e5 : i + (n - (i + 1)) = k := by omega
  have e7 : n - 1 = k := by omega
  simp only [List.getElem_toArray, List.getElem_cons_succ, List.getElem_cons_zero, Act.put, List.setIfInBounds_toArray, List.set_cons_zero]
  rw [e5]
  rw [e7] at HTh HFin HLf
  have hkn : (k : Int) ≤ (n : Int) := by omega
  have hk0 : (0 : Int) ≤ (k : Int) := by omega
  have hkc : k ≤ c := by omega
  have hck : ¬ c = k := by omega
  have hnk : n - k = 1 := by omega
  have HNK := Lib.hid hnk
  have hgr : Hid (w.grownBy ((w.drew.setCells g (i * 21) news).setCells g (k * 21) zeroFact.cells.toList) (some g)) := Lib.grownBy_trans (Lib.grownBy_trans (show w.grownBy w.drew (some g) from ⟨rfl, rfl, rfl, Nat.le_refl _, fun _ _ _ => rfl⟩) (grownBy_setCells g news (i * 21) w.drew)) (grownBy_setCells g zeroFact.cells.toList (k * 21) (w.drew.setCells g (i * 21) news))
  have hB2 := HB1.out.setCells zeroFact.cells.toList (k * 21)
  have hl2 : (over (over C (i * 21) news) (k * 21) zeroFact.cells.toList).length = c * 21 := by rw [over_length, over_length, HCl.out]
  have hown : Hid (((w.drew.setCells g (i * 21) news).setCells g (k * 21) zeroFact.cells.toList).ownsRow 0 71 21 (.slice (some ⟨g, 0, none⟩) k c) k XS) :=
    ⟨HLf.out, Or.inr ⟨g, c, _, rfl, Nat.zero_le _, hB2, hkc, hcm, by rw [List.size_toArray, hl2], HFin.out⟩⟩
  clear hB2 hl2 HB1 HFin HLf HCl s1 s2 s3 hnews hk hi e5 hnk hm hnc
  generalize w.drew.setCells g (i * 21) news = W1 at *
  have E7 := Lib.hid e7
  clear e7
  go_wp2_with (refine wpList_clear_one _ rfl (.tmp 31) rfl g (k * 21) (n - k) (c - k) rfl HNK.out HTh.out ?_)
  go_ret
  rw [E7.out]
  exact ⟨rfl, hown.out, hgr.out⟩
/-- A fact less. -/
def TakeP (rb : Nat) (ao : Option Addr) (l : List F11) (nx : Int) (i : Nat) (w : World) (e : Ending) (w' : World) : Prop := e = .returned (.tuple #[]) ∧ ∃ c', Rw w' rb ao c' (l.take i ++ l.drop (i + 1)) nx ∧ Touch (RowS rb ao) w w'
set_option maxRecDepth 100000 in
set_option maxHeartbeats 1000000 in
theorem take_any (i : Nat) (rb : Nat) (ao : Option Addr) (c : Nat) (l : List F11) (nx : Int) (w : World) (hr : Rw w rb ao c l nx) (hi : i < l.length) :
    Calls Try.prog 31 #[.pointer (some ⟨rb, 0, none⟩), .int .i64 (i : Int)] w (TakeP rb ao l nx i w) := by
  obtain ⟨g, cap, cur, e, -, hg, -, -, -⟩ := owns_at hr.own (by omega)
  simp only [Value.slice.injEq, true_and] at e
  obtain ⟨rfl, rfl⟩ := e
  have HD := Lib.hid (delete_any l hr.few hr.many i hi g c w hr.own)
  obtain ⟨x0, x1⟩ := hr.next
  have z0 := hr.box.frozen 0
  have HR := Lib.hid hr
  have hne : rb ≠ g := ne_block hr.box hg (by decide)
  have HF : Hid (∀ w', w.grownBy w' (some g) → w'.cell? ⟨rb, 0, none⟩ = some (.slice (some ⟨g, 0, none⟩) l.length c) ∧ w'.frozen? ⟨rb, 0, none⟩ = false) := fun w' h => by
    have hb := hr.box.far h (fun e => hne (Option.some.inj e))
    exact ⟨by rw [hb.cell]; rfl, hb.frozen 0⟩
  have hm := hr.many
  clear hr hg
  unfold TakeP
  unfold DelP at HD
  have hin : (i : Int) < 256 := by omega
  have HLi0 : Hid (i < l.length ∧ l.length = l.length) := ⟨hi, rfl⟩
  clear hm hi
  obtain ⟨n, hn⟩ : ∃ n, l.length = n := ⟨_, rfl⟩
  rw [hn] at HD HF x0 HLi0
  have HLi : Hid (i < n ∧ l.length = n) := ⟨HLi0.out.1, hn⟩
  clear hn HLi0
  go_enter Try.func31, Try.ntmps31
  go_wp2_with (go_at_call 40; refine (HD.out).mono ?_; rintro e w2 ⟨rfl, ho, hgr⟩; obtain ⟨y0, zz⟩ := HF.out w2 hgr; have HO := Lib.hid ho; have HG := Lib.hid hgr; clear ho hgr x0 x1 z0)
  have hlen : (l.take i ++ l.drop (i + 1)).length = n - 1 := by
    have := HLi.out
    rw [List.length_append, List.length_take, List.length_drop]
    omega
  have hb2 := HR.out.box.far HG.out (fun e => hne (Option.some.inj e))
  have hb3 := hb2.set 0 (.slice (some ⟨g, 0, none⟩) (n - 1) c)
  have hgr := Lib.grownBy_setCell w2 rb 0 (.slice (some ⟨g, 0, none⟩) (n - 1) c)
  go_end0
  refine ⟨rfl, c, ⟨?_, ?_, ?_, ?_⟩, ?_⟩
  · rw [hlen]
    exact hb3
  · rw [hlen]
    exact owns_far (e' := 74) HO.out (by decide) hgr (fun k hk => by obtain rfl := Option.some.inj hk; exact ⟨_, _, hb2⟩)
  · intro f hf
    rcases List.mem_append.1 hf with h | h
    · exact HR.out.few f (List.mem_of_mem_take h)
    · exact HR.out.few f (List.mem_of_mem_drop h)
  · rw [hlen]
    have := HR.out.many
    have h2 := HLi.out.2
    omega
  · exact ((Touch.refl _ w).grown HG.out (fun k hk => by obtain rfl := Option.some.inj hk; exact Or.inl (Or.inr ⟨_, rfl, rfl⟩))).grown hgr (fun k hk => by obtain rfl := Option.some.inj hk; exact Or.inl (Or.inl rfl))
end Go.Proofs.Ytajhngkdnkbfcaa
