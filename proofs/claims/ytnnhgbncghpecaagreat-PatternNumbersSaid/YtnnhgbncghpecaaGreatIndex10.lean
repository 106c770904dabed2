/- The first fact that fits. -/
import Derived.Test.YtnnhgbncghpecaaGreatFirst10
namespace Go.Proofs.YtnnhgbncghpecaaGreat
open Go.RowKit

def cellsF : List (F10 × Value) → List Value
  | [] => []
  | p :: l => .int .i64 p.1.id :: .int .i64 p.1.type :: p.2 :: cellsF l
theorem cellsF_length (l : List (F10 × Value)) : (cellsF l).length = l.length * 3 := by
  induction l with
  | nil => rfl
  | cons x l ih => simp only [cellsF, List.length_cons, ih]; omega
theorem cellsF_append (l m : List (F10 × Value)) : cellsF (l ++ m) = cellsF l ++ cellsF m := by
  induction l with
  | nil => rfl
  | cons x l ih => simp only [cellsF, List.cons_append, ih]
theorem cellsF_at (l : List (F10 × Value)) : ∀ (i : Nat) (h : i < l.length), (cellsF l)[i * 3]? = some (.int .i64 (l[i]).1.id) ∧ (cellsF l)[i * 3 + 1]? = some (.int .i64 (l[i]).1.type) ∧ (cellsF l)[i * 3 + 2]? = some (l[i]).2 := by
  induction l with
  | nil => intro i h; cases h
  | cons x l ih =>
    intro i h
    match i with
    | 0 => exact ⟨rfl, rfl, rfl⟩
    | i + 1 =>
      have := ih i (by simpa using h)
      rw [show (i + 1) * 3 = i * 3 + 1 + 1 + 1 by omega]
      simpa [cellsF] using this
/-- A fact's values lie below B. -/
def FAt (B : Nat) (w : World) (f : F10) (v : Value) : Prop := ∃ ao c, v = .slice ao f.args.length c ∧ Sl10 B w f.args.length ao c (cellsV f.args)
theorem FAt.up {B B' : Nat} {w w' : World} {f : F10} {v : Value} (h : FAt B w f v) (b : Below B w w') (hB : B ≤ B') : FAt B' w' f v := by
  obtain ⟨ao, c, e, hs⟩ := h
  exact ⟨ao, c, e, hs.up b hB⟩
/-- A row of facts, below B. -/
structure Facts10 (B : Nat) (w : World) (fl : List F10) (fo : Option Addr) (fc : Nat) : Prop where
  ex : ∃ ps : List (F10 × Value), ps.map Prod.fst = fl ∧ SlG B w fo (cellsF ps) ∧ ∀ p, p ∈ ps → FAt B w p.1 p.2
  nil : fo = none → fl.length = 0 ∧ fc = 0
  cap : fl.length ≤ fc
  top : fc ≤ maxLen
theorem Facts10.up {B B' : Nat} {w w' : World} {fl : List F10} {fo : Option Addr} {fc : Nat} (h : Facts10 B w fl fo fc) (b : Below B w w') (hB : B ≤ B') : Facts10 B' w' fl fo fc := by
  obtain ⟨ps, h1, h2, h3⟩ := h.ex
  exact ⟨⟨ps, h1, h2.up b hB, fun p hp => (h3 p hp).up b hB⟩, h.nil, h.cap, h.top⟩
theorem Facts10.at {B : Nat} {w : World} {fl : List F10} {fo : Option Addr} {fc : Nat} (h : Facts10 B w fl fo fc) {j : Nat} (hj : j < fl.length) :
    ∃ g o ao c, fo = some ⟨g, o, none⟩ ∧ g < B ∧ w.cell? ⟨g, o + j * 3, none⟩ = some (.int .i64 fl[j].id) ∧ w.cell? ⟨g, o + j * 3 + 1, none⟩ = some (.int .i64 fl[j].type) ∧ w.cell? ⟨g, o + j * 3 + 2, none⟩ = some (.slice ao fl[j].args.length c) ∧ Sl10 B w fl[j].args.length ao c (cellsV fl[j].args) := by
  obtain ⟨ps, rfl, h2, h3⟩ := h.ex
  have hj' : j < ps.length := by simpa using hj
  obtain ⟨q0, q1, q2⟩ := cellsF_at ps j hj'
  obtain ⟨ao, c, e, hs⟩ := h3 _ (List.getElem_mem hj')
  obtain ⟨g, o, rfl, l, r⟩ := h2 (fun hn => by rw [hn] at q0; cases q0)
  rw [e] at q2
  refine ⟨g, o, ao, c, rfl, l, ?_⟩
  rw [List.getElem_map]
  exact ⟨r _ _ q0, by rw [Nat.add_assoc]; exact r _ _ q1, by rw [Nat.add_assoc]; exact r _ _ q2, hs⟩

section
variable {B : Nat} {w : World} {nb n : Nat} {e0 e : E10} {ho : Option Addr} {hc : Nat} {vo : Option Addr} {vc : Nat} {bd : Bool}
def IndexP (B nb n : Nat) (e0 : E10) (ho : Option Addr) (hc : Nat) (vo : Option Addr) (vc : Nat) (x : Option E10) (w : World) (r : Ending) (w' : World) : Prop :=
  ∃ (i : Int) (bd' : Bool), r = .returned (.int .i64 i) ∧ decide (0 ≤ i) = x.isSome ∧ M10 B w' nb n e0 (x.getD e0) ho hc vo vc bd' ∧ MFr B nb w w'
set_option maxRecDepth 100000 in
set_option maxHeartbeats 4000000 in
theorem index10_any (h : M10 B w nb n e0 e0 ho hc vo vc bd) (hB : B ≤ w.heap.size) (cb : Nat) (hcn : cb ≠ nb) (c : C10) (ao : Option Addr) (ac : Nat) (xo : Option Addr) (xc : Nat) (hcb : w.heap[cb]? = some (.cells (cellsC c ao ac xo xc) 33 (0, 0))) (ha : Sl10 B w c.args.length ao ac (cellsA c.args))
    (fl : List F10) (fo : Option Addr) (fc : Nat) (hf : Facts10 B w fl fo fc) :
    Calls Tryz.prog 55 #[.slice fo fl.length fc, .func (.func 44) #[] #[.pointer (some ⟨cb, 0, none⟩), .pointer (some ⟨nb, 0, none⟩)]] w (IndexP B nb n e0 ho hc vo vc (first10 c.type c.args e0 fl) w) := by
  have eg : ∀ args w, (callFunc 44 args).run Tryz.prog w = .ok (.enter 44 args) w := enters_of Tryz.func44 (by kernel_rfl) rfl
  have HA := Lib.hid ha
  have HFa := Lib.hid hf
  have HC := Lib.hid hcb
  have hM0 := Lib.hid h
  have hm : fl.length ≤ 9223372036854775807 := by have := hf.cap; have := hf.top; unfold maxLen at this; omega
  have HN := Lib.hid (fun hh => first10_none (ct := c.type) (al := c.args) (e := e0) (l := fl) hh)
  have HHit := Lib.hid (fun e' j hh hj => first10_hit (ct := c.type) (al := c.args) (e := e0) (e' := e') (l := fl) (j := j) hh hj)
  unfold IndexP
  generalize first10 c.type c.args e0 fl = x at *
  clear h ha hf hcb
  go_enter Tryz.func55, Tryz.ntmps55
  go_wp2_with fail
  go_loopw [8] (fun i wr => ∃ (j : Nat) (bj : Bool), j ≤ fl.length ∧ i = .int .i64 j ∧ Hid (∀ k, k < j → (h : k < fl.length) → hit10 c.type c.args e0 fl[k] = none) ∧ Hid (M10 B wr nb n e0 e0 ho hc vo vc bj) ∧ Hid (MFr B nb w wr)) (fun i _ => fl.length - (intOf i).toNat)
  case atStart => exact ⟨0, bd, by omega, rfl, (fun k hk => absurd hk (Nat.not_lt_zero _)), hM0, MFr.refl _ _ _⟩
  case round =>
    obtain ⟨j, bj, hj, rfl, HNo, HM, HF⟩ := hrel
    by_cases hlt : j < fl.length
    · obtain ⟨g, o, a1, c1, rfl, hgB, x0, x1, x2, hs⟩ := (HFa.out.up HF.out.bel (Nat.le_refl _)).at hlt
      have hBw := HF.out.bel.size
      have hgl : g < wr.heap.size := by omega
      have HT := Lib.hid (test_any HM.out (Nat.le_trans hB hBw) cb c ao ac xo xc (HF.out.keep _ _ _ _ HC.out hcn (by decide) (by decide)) (HA.out.up HF.out.bel (Nat.le_refl _)) fl[j] a1 c1 hs)
      have HHj := Lib.hid (fun e' (he : hit10 c.type c.args e0 fl[j] = some e') => HHit.out e' j HNo.out hlt he)
      have HNj : Hid (hit10 c.type c.args e0 fl[j] = none → ∀ k, k < j + 1 → (h : k < fl.length) → hit10 c.type c.args e0 fl[k] = none) := fun h0 k hk hk2 => by
        rcases Nat.lt_or_ge k j with h | h
        · exact HNo.out k h hk2
        · obtain rfl : k = j := by omega
          exact h0
      unfold TestP aggF at HT
      clear HNo HHit HN hs
      generalize hit10 c.type c.args e0 fl[j] = y at HT HHj HNj
      generalize fl[j] = f at *
      obtain ⟨f1, f2, f3⟩ := f
      simp only at x0 x1 x2 HT
      generalize f3.length = m3 at *
      have hjn : (j : Int) < (fl.length : Int) := by omega
      cases y with
      | none =>
        have HN2 := Lib.hid (HNj.out rfl)
        clear HHj HNj
        go_wp2_with (go_at_fn 44; refine (HT.out).mono ?_; rintro r w1 ⟨bd', rfl, hm1, hf1⟩; have HM1 := Lib.hid hm1; have HF1 := Lib.hid (HF.out.trans hf1); clear hm1 hf1)
        go_roundw
        case rel => exact ⟨j + 1, bd', by omega, by go_num, HN2, HM1, HF1⟩
        case measure => simp [intOf]; omega
      | some e' =>
        have hx := HHj.out e' rfl
        subst hx
        clear HHj HNj
        go_wp2_with (go_at_fn 44; refine (HT.out).mono ?_; rintro r w1 ⟨bd', rfl, hm1, hf1⟩; have HM1 := Lib.hid hm1; have HF1 := Lib.hid (HF.out.trans hf1); clear hm1 hf1)
        go_ret
        exact ⟨_, bd', rfl, by simp, HM1.out, HF1.out⟩
    · have hx := HN.out (fun k hk => HNo.out k (by omega) hk)
      subst hx
      obtain rfl : j = fl.length := by omega
      clear HN HHit HNo
      go_wp2
      go_ret
      exact ⟨-1, bj, rfl, rfl, HM.out, HF.out⟩
set_option maxRecDepth 100000 in
set_option maxHeartbeats 4000000 in
theorem contains10_any (h : M10 B w nb n e0 e0 ho hc vo vc bd) (hB : B ≤ w.heap.size) (cb : Nat) (hcn : cb ≠ nb) (c : C10) (ao : Option Addr) (ac : Nat) (xo : Option Addr) (xc : Nat) (hcb : w.heap[cb]? = some (.cells (cellsC c ao ac xo xc) 33 (0, 0))) (ha : Sl10 B w c.args.length ao ac (cellsA c.args))
    (fl : List F10) (fo : Option Addr) (fc : Nat) (hf : Facts10 B w fl fo fc) :
    Calls Tryz.prog 43 #[.slice fo fl.length fc, .func (.func 44) #[] #[.pointer (some ⟨cb, 0, none⟩), .pointer (some ⟨nb, 0, none⟩)]] w (TestP B nb n e0 ho hc vo vc (first10 c.type c.args e0 fl) w) := by
  have HI := Lib.hid (index10_any h hB cb hcn c ao ac xo xc hcb ha fl fo fc hf)
  unfold IndexP at HI
  unfold TestP
  generalize first10 c.type c.args e0 fl = x at *
  clear h ha hf hcb
  go_enter Tryz.func43, Tryz.ntmps43
  go_wp2_with (go_at_call 55; refine (HI.out).mono ?_; rintro r w1 ⟨i, bd', rfl, hi, hm1, hf1⟩; have HX := Lib.hid hi; have HM1 := Lib.hid hm1; have HF1 := Lib.hid hf1; clear hm1 hf1 hi)
  go_ret
  exact ⟨bd', by rw [← HX.out]; rfl, HM1.out, HF1.out⟩
end
end Go.Proofs.YtnnhgbncghpecaaGreat
