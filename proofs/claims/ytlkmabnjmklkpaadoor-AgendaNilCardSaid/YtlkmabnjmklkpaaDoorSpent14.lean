/- The program's spent: what was fired, sorted. -/
import Derived.Test.YtlkmabnjmklkpaaDoorIter14
import Derived.Test.YtlkmabnjmklkpaaDoorSort14
namespace Go.Proofs.YtlkmabnjmklkpaaDoor
open Go.RowKit Go.Maps Go.Sort Go.Shelf
set_option maxRecDepth 100000

/-- maps.Values' iterator of the map at mb. -/
def IterV (mb : Nat) (w : World) (v : Value) : Prop := ∃ q, v = .func (.func 49) #[] #[.pointer (some ⟨q, 0, none⟩)] ∧ w.heap[q]? = some (.cells #[.map (some mb)] 55 (0, 0))
theorem IterV.old {mb : Nat} {w w' : World} {v : Value} (h : IterV mb w v) (b : Below w.heap.size w w') : IterV mb w' v := by
  obtain ⟨q, e, hq⟩ := h
  exact ⟨q, e, (b.block q (lt_of_heap hq)).trans hq⟩
/-- The fired ones, sorted, in a row of its own. -/
def SpV (base : Nat) (s : List Int) (FF : List MV) (w : World) (v : Value) : Prop := ∃ qs : List MV, qs.Perm FF ∧ Srt14 s qs ∧ w.ownsRow base 59 3 v qs.length (mcells qs)
theorem SpV.old {base : Nat} {s : List Int} {FF : List MV} {w w' : World} {v : Value} (h : SpV base s FF w v) (b : Below w.heap.size w w') : SpV base s FF w' v := by
  obtain ⟨qs, h1, h2, h3⟩ := h
  exact ⟨qs, h1, h2, owns_below h3 b⟩
def SortedP (s : List Int) (FF : List MV) (w : World) (e : Ending) (w' : World) : Prop := ∃ v, e = .returned v ∧ SpV w.heap.size s FF w' v ∧ Below w.heap.size w w'

theorem values_any (mb : Nat) (w : World) :
    Calls Tryd.prog 39 #[.map (some mb)] w fun e w' => e = .returned (.func (.func 49) #[] #[.pointer (some ⟨w.heap.size, 0, none⟩)]) ∧ w' = w.alloc (.cells #[.map (some mb)] 55) := by
  go_enter Tryd.func39, Tryd.ntmps39
  go_wp2
  go_ret
  exact ⟨rfl, rfl⟩
theorem slG_low {B : Nat} {w : World} {ao : Option Addr} {cs : List Value} (h : SlG B w ao cs) (hB : B ≤ w.heap.size) : SlS (fun b => b < B) w ao cs := fun hn => by
  obtain ⟨sb, off, e, lt, hc⟩ := h hn
  exact ⟨sb, off, e, lt, Nat.lt_of_lt_of_le lt hB, hc⟩

set_option maxHeartbeats 1000000 in
theorem sortedFunc_any (N : Nat) (hN : SortsM N) (hNN : N ≤ 1000000) (s : List Int) (so : Option Addr) (sc mb q : Nat) (FF : List MV) (w : World) (hq : w.heap[q]? = some (.cells #[.map (some mb)] 55 (0, 0))) (hP : PMap w mb FF) (hl : FF.length ≤ N) (hs : SlG w.heap.size w so (icells s)) (hF : ∀ p, p ∈ FF → MvS (fun b => b < w.heap.size) w p ∧ p.1.2.length ≤ 1000000) :
    Calls Tryd.prog 38 #[.func (.func 49) #[] #[.pointer (some ⟨q, 0, none⟩)], .func (.func 28) #[aggO so s.length sc] #[]] w (SortedP s FF w) := by
  have KC := Lib.hid (callsIn_wide.1 (collect14 Fence.wide 3 trivial trivial rfl (by decide) 49 #[.pointer (some ⟨q, 0, none⟩)] trivial (enters_of Tryd.func49 (by kernel_rfl) rfl) _ _ _ (Nat.le_trans hl hNN) w
    (values_stops Fence.wide (3 - 1 - 1) trivial rfl (by decide) q mb FF w (lt_of_heap hq) (Lib.cell_of_heap hq 0) hP)))
  have HS := Lib.hid (slG_low hs (Nat.le_refl _))
  have HF := Lib.hid hF
  clear hq hP hs hF
  go_enter Tryd.func38, Tryd.ntmps38
  go_wp2_with (go_at_call 48; refine KC.out.mono ?_; rintro e w1 ⟨v, ps, rfl, hpm, ho, hb⟩; obtain ⟨ov, oc, rfl⟩ := owns_slice ho; have HO := Lib.hid ho; have HB := Lib.hid hb; have HPm := Lib.hid hpm; clear ho hb hpm; refine Hid.out ?_)
  refine Lib.hid ?_
  have ht : Touch (fun _ => False) w w1 := Touch.of_below HB.out _
  have K2 := Lib.hid (hN s so ov sc oc w.heap.size ps w1 (by rw [HPm.out.length_eq]; exact hl) HO.out (fun g hg => by
    have hgB : w.heap.size ≤ g := by
      have := (HO.out.lt g (by rw [hg]; rfl)).1
      exact this
    exact ⟨(HS.out.touch ht (fun _ _ h => h)).mono (fun b hb => by omega), fun p hp => ⟨((HF.out p (HPm.out.mem_iff.1 hp)).1.touch ht (fun _ _ h => h)).mono (fun b hb => by omega), (HF.out p (HPm.out.mem_iff.1 hp)).2⟩⟩))
  have HLt := Lib.hid (fun k hk => (HO.out.lt k hk).1)
  clear KC HS HF ht
  go_wp2_with (go_at_call 32; refine K2.out.mono ?_; rintro e w2 ⟨rfl, qs, hp2, hsr, ho2, hg2⟩; have HRes : Hid (SortedP s FF w (.returned (.slice ov ps.length oc)) w2) := ⟨_, rfl, ⟨qs, hp2.trans HPm.out, hsr, by rw [hp2.length_eq]; exact ho2⟩, HB.out.grown hg2 HB.out.size HLt.out⟩; clear hp2 hsr ho2 hg2)
  go_ret
  exact HRes.out
def spD (i : Nat) : Option Nat := ([some 3, some 4, some 5, some 6, some 7, some 8, some 9, some 10, some 11, some 12, some 13, some 2] : List (Option Nat)).getD i none
set_option linter.unusedVariables false in
def spF (w9 : World) (lb mb : Nat) (s : List Int) (so : Option Addr) (sc : Nat) (FF : List MV) (l : Nat → Bool) (i : Nat) (w : World) (v : Value) : Prop :=
  match i with
  | 0 => v = .pointer (some ⟨lb, 0, none⟩)
  | 1 => v = .pointer (some ⟨lb, 0, none⟩)
  | 2 => v = .pointer (some ⟨lb, 2, none⟩)
  | 3 => v = .map (some mb)
  | 4 => IterV mb w v
  | 5 => v = .pointer (some ⟨lb, 0, none⟩)
  | 6 => v = .pointer (some ⟨lb, 0, none⟩)
  | 7 => v = .pointer (some ⟨lb, 0, none⟩)
  | 8 => v = .agg #[.slice so s.length sc]
  | 9 => v = .func (.func 28) #[.agg #[.slice so s.length sc]] #[]
  | 10 => SpV w9.heap.size s FF w v
  | 11 => SpV w9.heap.size s FF w v
  | _ => True
set_option linter.unusedVariables false in
def spJ (w9 : World) (lb mb : Nat) (s : List Int) (so : Option Addr) (sc : Nat) (FF : List MV) (l : Nat → Bool) (w : World) : Prop := Below w9.heap.size w9 w
set_option linter.unusedVariables false in
theorem sp_mild (w9 : World) (lb mb : Nat) (s : List Int) (so : Option Addr) (sc : Nat) (FF : List MV) : Mild (spF w9 lb mb s so sc FF) (spJ w9 lb mb s so sc FF) := by
  refine ⟨fun l i j w w' v hb h => ?_, fun l i w w' hb h => ?_⟩
  · match j with
    | 0 => exact h
    | 1 => exact h
    | 2 => exact h
    | 3 => exact h
    | 4 => exact h.old hb
    | 5 => exact h
    | 6 => exact h
    | 7 => exact h
    | 8 => exact h
    | 9 => exact h
    | 10 => exact h.old hb
    | 11 => exact h.old hb
    | k + 12 => trivial
  · exact h.trans (hb.mono h.size)
set_option linter.unusedVariables false in
theorem sp_s0 (w9 : World) (lb mb : Nat) (s : List Int) (so : Option Addr) (sc : Nat) (FF : List MV) {ops : Array Oper} {Q : Exit → Act → World → Prop} {a0 a : Act} {w : World} {l : Nat → Bool} {ty : TypeId} {pos : String} {after : Array Edge} (e_0 : a0.eval (.tmp 0) = .pointer (some ⟨lb, 0, none⟩)) (hm : ∀ W, Below w9.heap.size w9 W → W.cell? ⟨lb, 0, none⟩ = some (.slice so s.length sc) ∧ W.cell? ⟨lb, 2, none⟩ = some (.map (some mb))) (hSo : ∀ W, Below w9.heap.size w9 W → ∀ q, W.heap[q]? = some (.cells #[.map (some mb)] 55 (0, 0)) → Calls Tryd.prog 38 #[.func (.func 49) #[] #[.pointer (some ⟨q, 0, none⟩)], .func (.func 28) #[.agg #[.slice so s.length sc]] #[]] W (SortedP s FF W)) (hs : St ops spD (spF w9 lb mb s so sc FF) (spJ w9 lb mb s so sc FF) 12 a0 l a w) (hi : ops[0]? = some { dst := some 3, op := Op.move (Operand.tmp 0), type := ty, pos := pos, after := after, guard := none }) (nl : l 0 = false)  : wpOp Tryd.prog ops Q 0 (Did spD (spF w9 lb mb s so sc FF) (spJ w9 lb mb s so sc FF) 12 l 0 a) a w := by
  have e0 : a.eval (.tmp 0) = .pointer (some ⟨lb, 0, none⟩) := (hs.kept 0 (by decide)).trans (e_0)
  have hK := did (sp_mild w9 lb mb s so sc FF) hs (v := .pointer (some ⟨lb, 0, none⟩)) (d := 3) (i := 0) rfl (Below.refl _ w) rfl
  refine wpOp_move hi ?_
  rw [e0]
  exact hK
set_option linter.unusedVariables false in
theorem sp_s1 (w9 : World) (lb mb : Nat) (s : List Int) (so : Option Addr) (sc : Nat) (FF : List MV) {ops : Array Oper} {Q : Exit → Act → World → Prop} {a0 a : Act} {w : World} {l : Nat → Bool} {ty : TypeId} {pos : String} {after : Array Edge} (e_0 : a0.eval (.tmp 0) = .pointer (some ⟨lb, 0, none⟩)) (hm : ∀ W, Below w9.heap.size w9 W → W.cell? ⟨lb, 0, none⟩ = some (.slice so s.length sc) ∧ W.cell? ⟨lb, 2, none⟩ = some (.map (some mb))) (hSo : ∀ W, Below w9.heap.size w9 W → ∀ q, W.heap[q]? = some (.cells #[.map (some mb)] 55 (0, 0)) → Calls Tryd.prog 38 #[.func (.func 49) #[] #[.pointer (some ⟨q, 0, none⟩)], .func (.func 28) #[.agg #[.slice so s.length sc]] #[]] W (SortedP s FF W)) (hs : St ops spD (spF w9 lb mb s so sc FF) (spJ w9 lb mb s so sc FF) 12 a0 l a w) (hi : ops[1]? = some { dst := some 4, op := Op.nilCheck (Operand.tmp 3), type := ty, pos := pos, after := after, guard := none }) (nl : l 1 = false) (q0 : l 0 = true) : wpOp Tryd.prog ops Q 1 (Did spD (spF w9 lb mb s so sc FF) (spJ w9 lb mb s so sc FF) 12 l 1 a) a w := by
  have e3 : spF w9 lb mb s so sc FF l 0 w (a.eval (.tmp 3)) := hs.get (by decide) q0 rfl
  have e3 : a.eval (.tmp 3) = .pointer (some ⟨lb, 0, none⟩) := e3
  have hK := did (sp_mild w9 lb mb s so sc FF) hs (v := .pointer (some ⟨lb, 0, none⟩)) (d := 4) (i := 1) rfl (Below.refl _ w) rfl
  exact wpOp_nilCheck hi e3 hK
set_option linter.unusedVariables false in
theorem sp_s2 (w9 : World) (lb mb : Nat) (s : List Int) (so : Option Addr) (sc : Nat) (FF : List MV) {ops : Array Oper} {Q : Exit → Act → World → Prop} {a0 a : Act} {w : World} {l : Nat → Bool} {ty : TypeId} {pos : String} {after : Array Edge} (e_0 : a0.eval (.tmp 0) = .pointer (some ⟨lb, 0, none⟩)) (hm : ∀ W, Below w9.heap.size w9 W → W.cell? ⟨lb, 0, none⟩ = some (.slice so s.length sc) ∧ W.cell? ⟨lb, 2, none⟩ = some (.map (some mb))) (hSo : ∀ W, Below w9.heap.size w9 W → ∀ q, W.heap[q]? = some (.cells #[.map (some mb)] 55 (0, 0)) → Calls Tryd.prog 38 #[.func (.func 49) #[] #[.pointer (some ⟨q, 0, none⟩)], .func (.func 28) #[.agg #[.slice so s.length sc]] #[]] W (SortedP s FF W)) (hs : St ops spD (spF w9 lb mb s so sc FF) (spJ w9 lb mb s so sc FF) 12 a0 l a w) (hi : ops[2]? = some { dst := some 5, op := Op.fieldAddr 57 (Operand.tmp 4) 2, type := ty, pos := pos, after := after, guard := none }) (nl : l 2 = false) (q1 : l 1 = true) : wpOp Tryd.prog ops Q 2 (Did spD (spF w9 lb mb s so sc FF) (spJ w9 lb mb s so sc FF) 12 l 2 a) a w := by
  have e4 : spF w9 lb mb s so sc FF l 1 w (a.eval (.tmp 4)) := hs.get (by decide) q1 rfl
  have e4 : a.eval (.tmp 4) = .pointer (some ⟨lb, 0, none⟩) := e4
  have hK := did (sp_mild w9 lb mb s so sc FF) hs (v := .pointer (some ⟨lb, 2, none⟩)) (d := 5) (i := 2) rfl (Below.refl _ w) rfl
  refine wpOp_go hi rfl ?_
  unfold Oper.wp
  have KK := Lib.hid hK
  clear hK hi
  generalize a.eval = ρ at *
  go_simp
  exact KK.out
set_option linter.unusedVariables false in
theorem sp_s3 (w9 : World) (lb mb : Nat) (s : List Int) (so : Option Addr) (sc : Nat) (FF : List MV) {ops : Array Oper} {Q : Exit → Act → World → Prop} {a0 a : Act} {w : World} {l : Nat → Bool} {ty : TypeId} {pos : String} {after : Array Edge} (e_0 : a0.eval (.tmp 0) = .pointer (some ⟨lb, 0, none⟩)) (hm : ∀ W, Below w9.heap.size w9 W → W.cell? ⟨lb, 0, none⟩ = some (.slice so s.length sc) ∧ W.cell? ⟨lb, 2, none⟩ = some (.map (some mb))) (hSo : ∀ W, Below w9.heap.size w9 W → ∀ q, W.heap[q]? = some (.cells #[.map (some mb)] 55 (0, 0)) → Calls Tryd.prog 38 #[.func (.func 49) #[] #[.pointer (some ⟨q, 0, none⟩)], .func (.func 28) #[.agg #[.slice so s.length sc]] #[]] W (SortedP s FF W)) (hs : St ops spD (spF w9 lb mb s so sc FF) (spJ w9 lb mb s so sc FF) 12 a0 l a w) (hi : ops[3]? = some { dst := some 6, op := Op.load 55 (Operand.tmp 5), type := ty, pos := pos, after := after, guard := none }) (nl : l 3 = false) (q2 : l 2 = true) : wpOp Tryd.prog ops Q 3 (Did spD (spF w9 lb mb s so sc FF) (spJ w9 lb mb s so sc FF) 12 l 3 a) a w := by
  have e5 : spF w9 lb mb s so sc FF l 2 w (a.eval (.tmp 5)) := hs.get (by decide) q2 rfl
  have f5 : a.eval (.tmp 5) = .pointer (some ⟨lb, 2, none⟩) := e5
  obtain ⟨h1, h2⟩ := hm w hs.j
  have hK := did (sp_mild w9 lb mb s so sc FF) hs (v := .map (some mb)) (d := 6) (i := 3) rfl (Below.refl _ w) rfl
  refine wpOp_go hi rfl ?_
  unfold Oper.wp
  have KK := Lib.hid hK
  clear hK hi e5 hs
  generalize a.eval = ρ at *
  go_simp
  exact KK.out
set_option linter.unusedVariables false in
theorem sp_s4 (w9 : World) (lb mb : Nat) (s : List Int) (so : Option Addr) (sc : Nat) (FF : List MV) {ops : Array Oper} {Q : Exit → Act → World → Prop} {a0 a : Act} {w : World} {l : Nat → Bool} {ty : TypeId} {pos : String} {after : Array Edge} (e_0 : a0.eval (.tmp 0) = .pointer (some ⟨lb, 0, none⟩)) (hm : ∀ W, Below w9.heap.size w9 W → W.cell? ⟨lb, 0, none⟩ = some (.slice so s.length sc) ∧ W.cell? ⟨lb, 2, none⟩ = some (.map (some mb))) (hSo : ∀ W, Below w9.heap.size w9 W → ∀ q, W.heap[q]? = some (.cells #[.map (some mb)] 55 (0, 0)) → Calls Tryd.prog 38 #[.func (.func 49) #[] #[.pointer (some ⟨q, 0, none⟩)], .func (.func 28) #[.agg #[.slice so s.length sc]] #[]] W (SortedP s FF W)) (hs : St ops spD (spF w9 lb mb s so sc FF) (spJ w9 lb mb s so sc FF) 12 a0 l a w) (hi : ops[4]? = some { dst := some 7, op := Op.call { callee := Callee.value (Operand.func 39), args := #[Operand.tmp 6], argTypes := #[55] }, type := ty, pos := pos, after := after, guard := none }) (nl : l 4 = false) (q3 : l 3 = true) : wpOp Tryd.prog ops Q 4 (Did spD (spF w9 lb mb s so sc FF) (spJ w9 lb mb s so sc FF) 12 l 4 a) a w := by
  have e6 : spF w9 lb mb s so sc FF l 3 w (a.eval (.tmp 6)) := hs.get (by decide) q3 rfl
  have f6 : a.eval (.tmp 6) = .map (some mb) := e6
  refine wpOp_callW (vs := #[.map (some mb)]) hi rfl (enters_of Tryd.func39 (by kernel_rfl) rfl) (by simp [f6]) ?_
  refine (values_any mb w).mono ?_
  rintro e w' ⟨rfl, rfl⟩
  exact ⟨_, rfl, did (sp_mild w9 lb mb s so sc FF) hs (d := 7) (i := 4) rfl (below_own _) ⟨w.heap.size, rfl, heap_alloc_new w _⟩⟩
set_option linter.unusedVariables false in
theorem sp_s5 (w9 : World) (lb mb : Nat) (s : List Int) (so : Option Addr) (sc : Nat) (FF : List MV) {ops : Array Oper} {Q : Exit → Act → World → Prop} {a0 a : Act} {w : World} {l : Nat → Bool} {ty : TypeId} {pos : String} {after : Array Edge} (e_0 : a0.eval (.tmp 0) = .pointer (some ⟨lb, 0, none⟩)) (hm : ∀ W, Below w9.heap.size w9 W → W.cell? ⟨lb, 0, none⟩ = some (.slice so s.length sc) ∧ W.cell? ⟨lb, 2, none⟩ = some (.map (some mb))) (hSo : ∀ W, Below w9.heap.size w9 W → ∀ q, W.heap[q]? = some (.cells #[.map (some mb)] 55 (0, 0)) → Calls Tryd.prog 38 #[.func (.func 49) #[] #[.pointer (some ⟨q, 0, none⟩)], .func (.func 28) #[.agg #[.slice so s.length sc]] #[]] W (SortedP s FF W)) (hs : St ops spD (spF w9 lb mb s so sc FF) (spJ w9 lb mb s so sc FF) 12 a0 l a w) (hi : ops[5]? = some { dst := some 8, op := Op.move (Operand.tmp 0), type := ty, pos := pos, after := after, guard := none }) (nl : l 5 = false)  : wpOp Tryd.prog ops Q 5 (Did spD (spF w9 lb mb s so sc FF) (spJ w9 lb mb s so sc FF) 12 l 5 a) a w := by
  have e0 : a.eval (.tmp 0) = .pointer (some ⟨lb, 0, none⟩) := (hs.kept 0 (by decide)).trans (e_0)
  have hK := did (sp_mild w9 lb mb s so sc FF) hs (v := .pointer (some ⟨lb, 0, none⟩)) (d := 8) (i := 5) rfl (Below.refl _ w) rfl
  refine wpOp_move hi ?_
  rw [e0]
  exact hK
set_option linter.unusedVariables false in
theorem sp_s6 (w9 : World) (lb mb : Nat) (s : List Int) (so : Option Addr) (sc : Nat) (FF : List MV) {ops : Array Oper} {Q : Exit → Act → World → Prop} {a0 a : Act} {w : World} {l : Nat → Bool} {ty : TypeId} {pos : String} {after : Array Edge} (e_0 : a0.eval (.tmp 0) = .pointer (some ⟨lb, 0, none⟩)) (hm : ∀ W, Below w9.heap.size w9 W → W.cell? ⟨lb, 0, none⟩ = some (.slice so s.length sc) ∧ W.cell? ⟨lb, 2, none⟩ = some (.map (some mb))) (hSo : ∀ W, Below w9.heap.size w9 W → ∀ q, W.heap[q]? = some (.cells #[.map (some mb)] 55 (0, 0)) → Calls Tryd.prog 38 #[.func (.func 49) #[] #[.pointer (some ⟨q, 0, none⟩)], .func (.func 28) #[.agg #[.slice so s.length sc]] #[]] W (SortedP s FF W)) (hs : St ops spD (spF w9 lb mb s so sc FF) (spJ w9 lb mb s so sc FF) 12 a0 l a w) (hi : ops[6]? = some { dst := some 9, op := Op.nilCheck (Operand.tmp 8), type := ty, pos := pos, after := after, guard := none }) (nl : l 6 = false) (q5 : l 5 = true) : wpOp Tryd.prog ops Q 6 (Did spD (spF w9 lb mb s so sc FF) (spJ w9 lb mb s so sc FF) 12 l 6 a) a w := by
  have e8 : spF w9 lb mb s so sc FF l 5 w (a.eval (.tmp 8)) := hs.get (by decide) q5 rfl
  have e8 : a.eval (.tmp 8) = .pointer (some ⟨lb, 0, none⟩) := e8
  have hK := did (sp_mild w9 lb mb s so sc FF) hs (v := .pointer (some ⟨lb, 0, none⟩)) (d := 9) (i := 6) rfl (Below.refl _ w) rfl
  exact wpOp_nilCheck hi e8 hK
set_option linter.unusedVariables false in
theorem sp_s7 (w9 : World) (lb mb : Nat) (s : List Int) (so : Option Addr) (sc : Nat) (FF : List MV) {ops : Array Oper} {Q : Exit → Act → World → Prop} {a0 a : Act} {w : World} {l : Nat → Bool} {ty : TypeId} {pos : String} {after : Array Edge} (e_0 : a0.eval (.tmp 0) = .pointer (some ⟨lb, 0, none⟩)) (hm : ∀ W, Below w9.heap.size w9 W → W.cell? ⟨lb, 0, none⟩ = some (.slice so s.length sc) ∧ W.cell? ⟨lb, 2, none⟩ = some (.map (some mb))) (hSo : ∀ W, Below w9.heap.size w9 W → ∀ q, W.heap[q]? = some (.cells #[.map (some mb)] 55 (0, 0)) → Calls Tryd.prog 38 #[.func (.func 49) #[] #[.pointer (some ⟨q, 0, none⟩)], .func (.func 28) #[.agg #[.slice so s.length sc]] #[]] W (SortedP s FF W)) (hs : St ops spD (spF w9 lb mb s so sc FF) (spJ w9 lb mb s so sc FF) 12 a0 l a w) (hi : ops[7]? = some { dst := some 10, op := Op.fieldAddr 57 (Operand.tmp 9) 0, type := ty, pos := pos, after := after, guard := none }) (nl : l 7 = false) (q6 : l 6 = true) : wpOp Tryd.prog ops Q 7 (Did spD (spF w9 lb mb s so sc FF) (spJ w9 lb mb s so sc FF) 12 l 7 a) a w := by
  have e9 : spF w9 lb mb s so sc FF l 6 w (a.eval (.tmp 9)) := hs.get (by decide) q6 rfl
  have e9 : a.eval (.tmp 9) = .pointer (some ⟨lb, 0, none⟩) := e9
  have hK := did (sp_mild w9 lb mb s so sc FF) hs (v := .pointer (some ⟨lb, 0, none⟩)) (d := 10) (i := 7) rfl (Below.refl _ w) rfl
  refine wpOp_go hi rfl ?_
  unfold Oper.wp
  have KK := Lib.hid hK
  clear hK hi
  generalize a.eval = ρ at *
  go_simp
  exact KK.out
set_option linter.unusedVariables false in
theorem sp_s8 (w9 : World) (lb mb : Nat) (s : List Int) (so : Option Addr) (sc : Nat) (FF : List MV) {ops : Array Oper} {Q : Exit → Act → World → Prop} {a0 a : Act} {w : World} {l : Nat → Bool} {ty : TypeId} {pos : String} {after : Array Edge} (e_0 : a0.eval (.tmp 0) = .pointer (some ⟨lb, 0, none⟩)) (hm : ∀ W, Below w9.heap.size w9 W → W.cell? ⟨lb, 0, none⟩ = some (.slice so s.length sc) ∧ W.cell? ⟨lb, 2, none⟩ = some (.map (some mb))) (hSo : ∀ W, Below w9.heap.size w9 W → ∀ q, W.heap[q]? = some (.cells #[.map (some mb)] 55 (0, 0)) → Calls Tryd.prog 38 #[.func (.func 49) #[] #[.pointer (some ⟨q, 0, none⟩)], .func (.func 28) #[.agg #[.slice so s.length sc]] #[]] W (SortedP s FF W)) (hs : St ops spD (spF w9 lb mb s so sc FF) (spJ w9 lb mb s so sc FF) 12 a0 l a w) (hi : ops[8]? = some { dst := some 11, op := Op.load 53 (Operand.tmp 10), type := ty, pos := pos, after := after, guard := none }) (nl : l 8 = false) (q7 : l 7 = true) : wpOp Tryd.prog ops Q 8 (Did spD (spF w9 lb mb s so sc FF) (spJ w9 lb mb s so sc FF) 12 l 8 a) a w := by
  have e10 : spF w9 lb mb s so sc FF l 7 w (a.eval (.tmp 10)) := hs.get (by decide) q7 rfl
  exact wpOp_ldO hi rfl e10 ((hm w hs.j).1) (did (sp_mild w9 lb mb s so sc FF) hs (d := 11) (i := 8) rfl (Below.refl _ w) rfl)
set_option linter.unusedVariables false in
theorem sp_s9 (w9 : World) (lb mb : Nat) (s : List Int) (so : Option Addr) (sc : Nat) (FF : List MV) {ops : Array Oper} {Q : Exit → Act → World → Prop} {a0 a : Act} {w : World} {l : Nat → Bool} {ty : TypeId} {pos : String} {after : Array Edge} (e_0 : a0.eval (.tmp 0) = .pointer (some ⟨lb, 0, none⟩)) (hm : ∀ W, Below w9.heap.size w9 W → W.cell? ⟨lb, 0, none⟩ = some (.slice so s.length sc) ∧ W.cell? ⟨lb, 2, none⟩ = some (.map (some mb))) (hSo : ∀ W, Below w9.heap.size w9 W → ∀ q, W.heap[q]? = some (.cells #[.map (some mb)] 55 (0, 0)) → Calls Tryd.prog 38 #[.func (.func 49) #[] #[.pointer (some ⟨q, 0, none⟩)], .func (.func 28) #[.agg #[.slice so s.length sc]] #[]] W (SortedP s FF W)) (hs : St ops spD (spF w9 lb mb s so sc FF) (spJ w9 lb mb s so sc FF) 12 a0 l a w) (hi : ops[9]? = some { dst := some 12, op := Op.makeFunc (Fn.func 28) #[Operand.tmp 11] #[], type := ty, pos := pos, after := after, guard := none }) (nl : l 9 = false) (q8 : l 8 = true) : wpOp Tryd.prog ops Q 9 (Did spD (spF w9 lb mb s so sc FF) (spJ w9 lb mb s so sc FF) 12 l 9 a) a w := by
  have e11 : spF w9 lb mb s so sc FF l 8 w (a.eval (.tmp 11)) := hs.get (by decide) q8 rfl
  have e11 : a.eval (.tmp 11) = .agg #[.slice so s.length sc] := e11
  have hK := did (sp_mild w9 lb mb s so sc FF) hs (v := .func (.func 28) #[.agg #[.slice so s.length sc]] #[]) (d := 12) (i := 9) rfl (Below.refl _ w) rfl
  refine wpOp_go hi rfl ?_
  unfold Oper.wp
  have KK := Lib.hid hK
  clear hK hi
  generalize a.eval = ρ at *
  go_simp
  exact KK.out
set_option linter.unusedVariables false in
theorem sp_s10 (w9 : World) (lb mb : Nat) (s : List Int) (so : Option Addr) (sc : Nat) (FF : List MV) {ops : Array Oper} {Q : Exit → Act → World → Prop} {a0 a : Act} {w : World} {l : Nat → Bool} {ty : TypeId} {pos : String} {after : Array Edge} (e_0 : a0.eval (.tmp 0) = .pointer (some ⟨lb, 0, none⟩)) (hm : ∀ W, Below w9.heap.size w9 W → W.cell? ⟨lb, 0, none⟩ = some (.slice so s.length sc) ∧ W.cell? ⟨lb, 2, none⟩ = some (.map (some mb))) (hSo : ∀ W, Below w9.heap.size w9 W → ∀ q, W.heap[q]? = some (.cells #[.map (some mb)] 55 (0, 0)) → Calls Tryd.prog 38 #[.func (.func 49) #[] #[.pointer (some ⟨q, 0, none⟩)], .func (.func 28) #[.agg #[.slice so s.length sc]] #[]] W (SortedP s FF W)) (hs : St ops spD (spF w9 lb mb s so sc FF) (spJ w9 lb mb s so sc FF) 12 a0 l a w) (hi : ops[10]? = some { dst := some 13, op := Op.call { callee := Callee.value (Operand.func 38), args := #[Operand.tmp 7, Operand.tmp 12], argTypes := #[87, 75] }, type := ty, pos := pos, after := after, guard := none }) (nl : l 10 = false) (q4 : l 4 = true) (q9 : l 9 = true) : wpOp Tryd.prog ops Q 10 (Did spD (spF w9 lb mb s so sc FF) (spJ w9 lb mb s so sc FF) 12 l 10 a) a w := by
  have e7 : spF w9 lb mb s so sc FF l 4 w (a.eval (.tmp 7)) := hs.get (by decide) q4 rfl
  have e12 : spF w9 lb mb s so sc FF l 9 w (a.eval (.tmp 12)) := hs.get (by decide) q9 rfl
  obtain ⟨q, f7, hq⟩ := e7
  have f12 : a.eval (.tmp 12) = .func (.func 28) #[.agg #[.slice so s.length sc]] #[] := e12
  refine wpOp_callW (vs := #[.func (.func 49) #[] #[.pointer (some ⟨q, 0, none⟩)], .func (.func 28) #[.agg #[.slice so s.length sc]] #[]]) hi rfl (enters_of Tryd.func38 (by kernel_rfl) rfl) (by simp [f7, f12]) ?_
  refine (hSo w hs.j q hq).mono ?_
  rintro e w' ⟨v, rfl, ⟨qs, h1, h2, h3⟩, hb⟩
  have hJ : Below w9.heap.size w9 w := hs.j
  exact ⟨_, rfl, did (sp_mild w9 lb mb s so sc FF) hs (d := 13) (i := 10) rfl hb ⟨qs, h1, h2, owns_mono h3 hJ.size⟩⟩
set_option linter.unusedVariables false in
theorem sp_s11 (w9 : World) (lb mb : Nat) (s : List Int) (so : Option Addr) (sc : Nat) (FF : List MV) {ops : Array Oper} {Q : Exit → Act → World → Prop} {a0 a : Act} {w : World} {l : Nat → Bool} {ty : TypeId} {pos : String} {after : Array Edge} (e_0 : a0.eval (.tmp 0) = .pointer (some ⟨lb, 0, none⟩)) (hm : ∀ W, Below w9.heap.size w9 W → W.cell? ⟨lb, 0, none⟩ = some (.slice so s.length sc) ∧ W.cell? ⟨lb, 2, none⟩ = some (.map (some mb))) (hSo : ∀ W, Below w9.heap.size w9 W → ∀ q, W.heap[q]? = some (.cells #[.map (some mb)] 55 (0, 0)) → Calls Tryd.prog 38 #[.func (.func 49) #[] #[.pointer (some ⟨q, 0, none⟩)], .func (.func 28) #[.agg #[.slice so s.length sc]] #[]] W (SortedP s FF W)) (hs : St ops spD (spF w9 lb mb s so sc FF) (spJ w9 lb mb s so sc FF) 12 a0 l a w) (hi : ops[11]? = some { dst := some 2, op := Op.assign (Operand.tmp 13), type := ty, pos := pos, after := after, guard := none }) (nl : l 11 = false) (q0 : l 0 = true) (q1 : l 1 = true) (q2 : l 2 = true) (q3 : l 3 = true) (q4 : l 4 = true) (q5 : l 5 = true) (q6 : l 6 = true) (q7 : l 7 = true) (q8 : l 8 = true) (q9 : l 9 = true) (q10 : l 10 = true) : wpOp Tryd.prog ops Q 11 (Did spD (spF w9 lb mb s so sc FF) (spJ w9 lb mb s so sc FF) 12 l 11 a) a w := by
  have e13 : spF w9 lb mb s so sc FF l 10 w (a.eval (.tmp 13)) := hs.get (by decide) q10 rfl
  have hK := did (sp_mild w9 lb mb s so sc FF) hs (v := a.eval (.tmp 13)) (d := 2) (i := 11) rfl (Below.refl _ w) e13
  exact wpOp_assign hi hK
set_option maxHeartbeats 4000000 in
theorem spent_any (N : Nat) (hN : SortsM N) (hNN : N ≤ 1000000) (s : List Int) (so wo : Option Addr) (sc wn wc lb mb : Nat) (FF : List MV) (w : World) (hlb : w.heap[lb]? = some (.cells #[.slice so s.length sc, .slice wo wn wc, .map (some mb)] 57 (0, 0))) (hP : PMap w mb FF) (hl : FF.length ≤ N) (hs : SlG w.heap.size w so (icells s)) (hF : ∀ p, p ∈ FF → MvS (fun b => b < w.heap.size) w p ∧ p.1.2.length ≤ 1000000) :
    Calls Tryd.prog 26 #[.pointer (some ⟨lb, 0, none⟩)] w (SortedP s FF w) := by
  have mixed : Tryd.prog.follows .mixedOrders = true := by kernel_rfl
  have hm : ∀ W, Below w.heap.size w W → W.cell? ⟨lb, 0, none⟩ = some (.slice so s.length sc) ∧ W.cell? ⟨lb, 2, none⟩ = some (.map (some mb)) := fun W hW => by
    have h1 := (hW.block lb (lt_of_heap hlb)).trans hlb
    exact ⟨Lib.cell_of_heap h1 0, Lib.cell_of_heap h1 2⟩
  have hSo : ∀ W, Below w.heap.size w W → ∀ q, W.heap[q]? = some (.cells #[.map (some mb)] 55 (0, 0)) → Calls Tryd.prog 38 #[.func (.func 49) #[] #[.pointer (some ⟨q, 0, none⟩)], .func (.func 28) #[.agg #[.slice so s.length sc]] #[]] W (SortedP s FF W) := fun W hW q hq =>
    sortedFunc_any N hN hNN s so sc mb q FF W hq (hP.keep (hW.block mb hP.lt)) hl (hs.up hW hW.size) (fun p hp => ⟨((hF p hp).1.touch (Touch.of_below hW (fun _ => False)) (fun _ _ h => h)).mono (fun b hb => Nat.lt_of_lt_of_le hb hW.size), (hF p hp).2⟩)
  clear hlb hP hs hF
  go_enter Tryd.func26, Tryd.ntmps26
  go_wp2_with fail
  generalize ha0 : ({ tmps := _, defers := _ } : Act) = a0
  have e_0 : a0.eval (.tmp 0) = .pointer (some ⟨lb, 0, none⟩) := by rw [← ha0]; rfl
  have hsz : a0.tmps.size = 14 := by rw [← ha0]; rfl
  have hdf : a0.defers = [] := by rw [← ha0]
  clear ha0
  refine wp_region_st spD (spF w lb mb s so sc FF) (spJ w lb mb s so sc FF) 12 mixed (by kernel_rfl) rfl (by kernel_rfl) (by rw [hsz]; kernel_rfl) (below_drew (Below.refl _ _))
      (fun ll aa ww i hi hs nl hw => by
        have h : i = 0 ∨ i = 1 ∨ i = 2 ∨ i = 3 ∨ i = 4 ∨ i = 5 ∨ i = 6 ∨ i = 7 ∨ i = 8 ∨ i = 9 ∨ i = 10 ∨ i = 11 := by omega
        rcases h with rfl | rfl | rfl | rfl | rfl | rfl | rfl | rfl | rfl | rfl | rfl | rfl
        · exact sp_s0 _ lb mb s so sc FF e_0 hm hSo hs rfl nl 
        · exact sp_s1 _ lb mb s so sc FF e_0 hm hSo hs rfl nl (hw 0 (by kernel_rfl))
        · exact sp_s2 _ lb mb s so sc FF e_0 hm hSo hs rfl nl (hw 1 (by kernel_rfl))
        · exact sp_s3 _ lb mb s so sc FF e_0 hm hSo hs rfl nl (hw 2 (by kernel_rfl))
        · exact sp_s4 _ lb mb s so sc FF e_0 hm hSo hs rfl nl (hw 3 (by kernel_rfl))
        · exact sp_s5 _ lb mb s so sc FF e_0 hm hSo hs rfl nl 
        · exact sp_s6 _ lb mb s so sc FF e_0 hm hSo hs rfl nl (hw 5 (by kernel_rfl))
        · exact sp_s7 _ lb mb s so sc FF e_0 hm hSo hs rfl nl (hw 6 (by kernel_rfl))
        · exact sp_s8 _ lb mb s so sc FF e_0 hm hSo hs rfl nl (hw 7 (by kernel_rfl))
        · exact sp_s9 _ lb mb s so sc FF e_0 hm hSo hs rfl nl (hw 8 (by kernel_rfl))
        · exact sp_s10 _ lb mb s so sc FF e_0 hm hSo hs rfl nl (hw 4 (by kernel_rfl)) (hw 9 (by kernel_rfl))
        · exact sp_s11 _ lb mb s so sc FF e_0 hm hSo hs rfl nl (hw 0 (by kernel_rfl)) (hw 1 (by kernel_rfl)) (hw 2 (by kernel_rfl)) (hw 3 (by kernel_rfl)) (hw 4 (by kernel_rfl)) (hw 5 (by kernel_rfl)) (hw 6 (by kernel_rfl)) (hw 7 (by kernel_rfl)) (hw 8 (by kernel_rfl)) (hw 9 (by kernel_rfl)) (hw 10 (by kernel_rfl)))
    ?_
  intro ll aa ww hall hst
  have h2 : SpV w.heap.size s FF ww (aa.eval (.tmp 2)) := hst.get (i := 11) (by decide) (hall 11 (by decide)) rfl
  have hd6 : aa.defers = [] := hst.defs.trans hdf
  have hJ : Below w.heap.size w ww := hst.j
  obtain ⟨v, hv⟩ : ∃ v, aa.eval (.tmp 2) = v := ⟨_, rfl⟩
  rw [hv] at h2
  have HE : Hid (SortedP s FF w (.returned v) ww) := ⟨v, rfl, h2, hJ⟩
  clear hst hall hm hSo hJ h2
  go_wp2_with fail
  refine bodyPost_ret (v := v) ?_ hd6 HE.out
  simp [results, Tryd.results26, go_sem]
  simpa [Act.eval] using hv
end Go.Proofs.YtlkmabnjmklkpaaDoor
