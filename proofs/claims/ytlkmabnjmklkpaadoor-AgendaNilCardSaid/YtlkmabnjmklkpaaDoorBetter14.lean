/- The program's Better tells what the document's order of matches says. -/
import Derived.Test.YtlkmabnjmklkpaaDoorOrder14
import Derived.Test.YtlkmabnjmklkpaaDoorBetM14
namespace Go.Proofs.YtlkmabnjmklkpaaDoor
open Go.RowKit
set_option maxRecDepth 100000

def OrdAt (s : List Int) (w : World) (v : Value) : Prop := ∃ ao c, v = aggO ao s.length c ∧ SlG w.heap.size w ao (icells s)
theorem OrdAt.old {w w' : World} {s : List Int} {v : Value} (h : OrdAt s w v) (b : Below w.heap.size w w') : OrdAt s w' v := by
  obtain ⟨ao, c, e, hs⟩ := h
  exact ⟨ao, c, e, hs.up b b.size⟩
/-- A match of the program's, wherever its rows lie. -/
def MvV (t : TK) (w : World) (v : Value) : Prop := ∃ a c d e, v = aggM t.1 a t.2.length c d e ∧ Mt w.heap.size w t a d
theorem MvV.old {w w' : World} {t : TK} {v : Value} (h : MvV t w v) (b : Below w.heap.size w w') : MvV t w' v := by
  obtain ⟨a, c, d, e, h1, h2⟩ := h
  exact ⟨a, c, d, e, h1, h2.up b b.size⟩
def btD (i : Nat) : Option Nat := ([some 7, some 8, some 9, some 10, some 11, some 12, some 13, some 14, some 6] : List (Option Nat)).getD i none
set_option linter.unusedVariables false in
def btF (w9 : World) (s l1 l2 : List Int) (k1 k2 : Int) (b3 b4 b5 : Nat) (so a1 a2 : Option Addr) (sc c1 c2 : Nat) (l : Nat → Bool) (i : Nat) (w : World) (v : Value) : Prop :=
  match i with
  | 0 => v = .agg #[.slice none 0 0, .slice so s.length sc]
  | 1 => OrdAt s w v
  | 2 => v = .agg #[.int .i64 k1, .slice a1 l1.length c1]
  | 3 => MvV (k1, l1) w v
  | 4 => v = .agg #[.int .i64 k2, .slice a2 l2.length c2]
  | 5 => MvV (k2, l2) w v
  | 6 => v = .int .i64 (cmp14 s (k1, l1) (k2, l2))
  | 7 => v = .bool (decide (cmp14 s (k1, l1) (k2, l2) < 0))
  | 8 => v = .bool (decide (cmp14 s (k1, l1) (k2, l2) < 0))
  | _ => True
set_option linter.unusedVariables false in
def btJ (w9 : World) (s l1 l2 : List Int) (k1 k2 : Int) (b3 b4 b5 : Nat) (so a1 a2 : Option Addr) (sc c1 c2 : Nat) (l : Nat → Bool) (w : World) : Prop := Below w9.heap.size w9 w
set_option linter.unusedVariables false in
theorem bt_mild (w9 : World) (s l1 l2 : List Int) (k1 k2 : Int) (b3 b4 b5 : Nat) (so a1 a2 : Option Addr) (sc c1 c2 : Nat) : Mild (btF w9 s l1 l2 k1 k2 b3 b4 b5 so a1 a2 sc c1 c2) (btJ w9 s l1 l2 k1 k2 b3 b4 b5 so a1 a2 sc c1 c2) := by
  refine ⟨fun l i j w w' v hb h => ?_, fun l i w w' hb h => ?_⟩
  · match j with
    | 0 => exact h
    | 1 => exact h.old hb
    | 2 => exact h
    | 3 => exact h.old hb
    | 4 => exact h
    | 5 => exact h.old hb
    | 6 => exact h
    | 7 => exact h
    | 8 => exact h
    | k + 9 => trivial
  · exact h.trans (hb.mono h.size)
set_option linter.unusedVariables false in
theorem bt_s0 (w9 : World) (s l1 l2 : List Int) (k1 k2 : Int) (b3 b4 b5 : Nat) (so a1 a2 : Option Addr) (sc c1 c2 : Nat) {ops : Array Oper} {Q : Exit → Act → World → Prop} {a0 a : Act} {w : World} {l : Nat → Bool} {ty : TypeId} {pos : String} {after : Array Edge} (e_3 : a0.eval (.tmp 3) = .pointer (some ⟨b3, 0, none⟩)) (e_4 : a0.eval (.tmp 4) = .pointer (some ⟨b4, 0, none⟩)) (e_5 : a0.eval (.tmp 5) = .pointer (some ⟨b5, 0, none⟩)) (hm : ∀ W, Below w9.heap.size w9 W → W.heap[b3]? = some (.cells #[.slice none 0 0, .slice so s.length sc] 44 (0, 0)) ∧ W.heap[b4]? = some (.cells #[.int .i64 k1, .slice a1 l1.length c1] 24 (0, 0)) ∧ W.heap[b5]? = some (.cells #[.int .i64 k2, .slice a2 l2.length c2] 24 (0, 0))) (hO : ∀ W, Below w9.heap.size w9 W → Calls Tryd.prog 27 #[.agg #[.slice none 0 0, .slice so s.length sc]] W (OrdP s W)) (hX : ∀ W, Below w9.heap.size w9 W → Calls Tryd.prog 24 #[.agg #[.int .i64 k1, .slice a1 l1.length c1]] W (MatP (k1, l1) W)) (hY : ∀ W, Below w9.heap.size w9 W → Calls Tryd.prog 24 #[.agg #[.int .i64 k2, .slice a2 l2.length c2]] W (MatP (k2, l2) W)) (hl1 : l1.length ≤ 1000000) (hl2 : l2.length ≤ 1000000) (hs : St ops btD (btF w9 s l1 l2 k1 k2 b3 b4 b5 so a1 a2 sc c1 c2) (btJ w9 s l1 l2 k1 k2 b3 b4 b5 so a1 a2 sc c1 c2) 9 a0 l a w) (hi : ops[0]? = some { dst := some 7, op := Op.load 44 (Operand.tmp 3), type := ty, pos := pos, after := after, guard := none }) (nl : l 0 = false)  : wpOp Tryd.prog ops Q 0 (Did btD (btF w9 s l1 l2 k1 k2 b3 b4 b5 so a1 a2 sc c1 c2) (btJ w9 s l1 l2 k1 k2 b3 b4 b5 so a1 a2 sc c1 c2) 9 l 0 a) a w := by
  have e3 : a.eval (.tmp 3) = .pointer (some ⟨b3, 0, none⟩) := (hs.kept 3 (by decide)).trans (e_3)
  exact wpOp_ldR hi rfl e3 ((hm w hs.j).1) (did (bt_mild w9 s l1 l2 k1 k2 b3 b4 b5 so a1 a2 sc c1 c2) hs (d := 7) (i := 0) rfl (Below.refl _ w) rfl)
set_option linter.unusedVariables false in
theorem bt_s1 (w9 : World) (s l1 l2 : List Int) (k1 k2 : Int) (b3 b4 b5 : Nat) (so a1 a2 : Option Addr) (sc c1 c2 : Nat) {ops : Array Oper} {Q : Exit → Act → World → Prop} {a0 a : Act} {w : World} {l : Nat → Bool} {ty : TypeId} {pos : String} {after : Array Edge} (e_3 : a0.eval (.tmp 3) = .pointer (some ⟨b3, 0, none⟩)) (e_4 : a0.eval (.tmp 4) = .pointer (some ⟨b4, 0, none⟩)) (e_5 : a0.eval (.tmp 5) = .pointer (some ⟨b5, 0, none⟩)) (hm : ∀ W, Below w9.heap.size w9 W → W.heap[b3]? = some (.cells #[.slice none 0 0, .slice so s.length sc] 44 (0, 0)) ∧ W.heap[b4]? = some (.cells #[.int .i64 k1, .slice a1 l1.length c1] 24 (0, 0)) ∧ W.heap[b5]? = some (.cells #[.int .i64 k2, .slice a2 l2.length c2] 24 (0, 0))) (hO : ∀ W, Below w9.heap.size w9 W → Calls Tryd.prog 27 #[.agg #[.slice none 0 0, .slice so s.length sc]] W (OrdP s W)) (hX : ∀ W, Below w9.heap.size w9 W → Calls Tryd.prog 24 #[.agg #[.int .i64 k1, .slice a1 l1.length c1]] W (MatP (k1, l1) W)) (hY : ∀ W, Below w9.heap.size w9 W → Calls Tryd.prog 24 #[.agg #[.int .i64 k2, .slice a2 l2.length c2]] W (MatP (k2, l2) W)) (hl1 : l1.length ≤ 1000000) (hl2 : l2.length ≤ 1000000) (hs : St ops btD (btF w9 s l1 l2 k1 k2 b3 b4 b5 so a1 a2 sc c1 c2) (btJ w9 s l1 l2 k1 k2 b3 b4 b5 so a1 a2 sc c1 c2) 9 a0 l a w) (hi : ops[1]? = some { dst := some 8, op := Op.call { callee := Callee.value (Operand.func 27), args := #[Operand.tmp 7], argTypes := #[44] }, type := ty, pos := pos, after := after, guard := none }) (nl : l 1 = false) (q0 : l 0 = true) : wpOp Tryd.prog ops Q 1 (Did btD (btF w9 s l1 l2 k1 k2 b3 b4 b5 so a1 a2 sc c1 c2) (btJ w9 s l1 l2 k1 k2 b3 b4 b5 so a1 a2 sc c1 c2) 9 l 1 a) a w := by
  have e7 : btF w9 s l1 l2 k1 k2 b3 b4 b5 so a1 a2 sc c1 c2 l 0 w (a.eval (.tmp 7)) := hs.get (by decide) q0 rfl
  have f7 : a.eval (.tmp 7) = .agg #[.slice none 0 0, .slice so s.length sc] := e7
  refine wpOp_callW (vs := #[.agg #[.slice none 0 0, .slice so s.length sc]]) hi rfl (enters_of Tryd.func27 (by kernel_rfl) rfl) (by simp [f7]) ?_
  refine (hO w hs.j).mono ?_
  rintro e w' ⟨v, rfl, ho, hb⟩
  obtain ⟨ao, c, rfl⟩ := owns_slice ho
  exact ⟨_, rfl, did (bt_mild w9 s l1 l2 k1 k2 b3 b4 b5 so a1 a2 sc c1 c2) hs (d := 8) (i := 1) rfl hb ⟨ao, c, rfl, owns_slG ho⟩⟩
set_option linter.unusedVariables false in
theorem bt_s2 (w9 : World) (s l1 l2 : List Int) (k1 k2 : Int) (b3 b4 b5 : Nat) (so a1 a2 : Option Addr) (sc c1 c2 : Nat) {ops : Array Oper} {Q : Exit → Act → World → Prop} {a0 a : Act} {w : World} {l : Nat → Bool} {ty : TypeId} {pos : String} {after : Array Edge} (e_3 : a0.eval (.tmp 3) = .pointer (some ⟨b3, 0, none⟩)) (e_4 : a0.eval (.tmp 4) = .pointer (some ⟨b4, 0, none⟩)) (e_5 : a0.eval (.tmp 5) = .pointer (some ⟨b5, 0, none⟩)) (hm : ∀ W, Below w9.heap.size w9 W → W.heap[b3]? = some (.cells #[.slice none 0 0, .slice so s.length sc] 44 (0, 0)) ∧ W.heap[b4]? = some (.cells #[.int .i64 k1, .slice a1 l1.length c1] 24 (0, 0)) ∧ W.heap[b5]? = some (.cells #[.int .i64 k2, .slice a2 l2.length c2] 24 (0, 0))) (hO : ∀ W, Below w9.heap.size w9 W → Calls Tryd.prog 27 #[.agg #[.slice none 0 0, .slice so s.length sc]] W (OrdP s W)) (hX : ∀ W, Below w9.heap.size w9 W → Calls Tryd.prog 24 #[.agg #[.int .i64 k1, .slice a1 l1.length c1]] W (MatP (k1, l1) W)) (hY : ∀ W, Below w9.heap.size w9 W → Calls Tryd.prog 24 #[.agg #[.int .i64 k2, .slice a2 l2.length c2]] W (MatP (k2, l2) W)) (hl1 : l1.length ≤ 1000000) (hl2 : l2.length ≤ 1000000) (hs : St ops btD (btF w9 s l1 l2 k1 k2 b3 b4 b5 so a1 a2 sc c1 c2) (btJ w9 s l1 l2 k1 k2 b3 b4 b5 so a1 a2 sc c1 c2) 9 a0 l a w) (hi : ops[2]? = some { dst := some 9, op := Op.load 24 (Operand.tmp 4), type := ty, pos := pos, after := after, guard := none }) (nl : l 2 = false)  : wpOp Tryd.prog ops Q 2 (Did btD (btF w9 s l1 l2 k1 k2 b3 b4 b5 so a1 a2 sc c1 c2) (btJ w9 s l1 l2 k1 k2 b3 b4 b5 so a1 a2 sc c1 c2) 9 l 2 a) a w := by
  have e4 : a.eval (.tmp 4) = .pointer (some ⟨b4, 0, none⟩) := (hs.kept 4 (by decide)).trans (e_4)
  exact wpOp_ldK hi rfl e4 ((hm w hs.j).2.1) (did (bt_mild w9 s l1 l2 k1 k2 b3 b4 b5 so a1 a2 sc c1 c2) hs (d := 9) (i := 2) rfl (Below.refl _ w) rfl)
set_option linter.unusedVariables false in
theorem bt_s3 (w9 : World) (s l1 l2 : List Int) (k1 k2 : Int) (b3 b4 b5 : Nat) (so a1 a2 : Option Addr) (sc c1 c2 : Nat) {ops : Array Oper} {Q : Exit → Act → World → Prop} {a0 a : Act} {w : World} {l : Nat → Bool} {ty : TypeId} {pos : String} {after : Array Edge} (e_3 : a0.eval (.tmp 3) = .pointer (some ⟨b3, 0, none⟩)) (e_4 : a0.eval (.tmp 4) = .pointer (some ⟨b4, 0, none⟩)) (e_5 : a0.eval (.tmp 5) = .pointer (some ⟨b5, 0, none⟩)) (hm : ∀ W, Below w9.heap.size w9 W → W.heap[b3]? = some (.cells #[.slice none 0 0, .slice so s.length sc] 44 (0, 0)) ∧ W.heap[b4]? = some (.cells #[.int .i64 k1, .slice a1 l1.length c1] 24 (0, 0)) ∧ W.heap[b5]? = some (.cells #[.int .i64 k2, .slice a2 l2.length c2] 24 (0, 0))) (hO : ∀ W, Below w9.heap.size w9 W → Calls Tryd.prog 27 #[.agg #[.slice none 0 0, .slice so s.length sc]] W (OrdP s W)) (hX : ∀ W, Below w9.heap.size w9 W → Calls Tryd.prog 24 #[.agg #[.int .i64 k1, .slice a1 l1.length c1]] W (MatP (k1, l1) W)) (hY : ∀ W, Below w9.heap.size w9 W → Calls Tryd.prog 24 #[.agg #[.int .i64 k2, .slice a2 l2.length c2]] W (MatP (k2, l2) W)) (hl1 : l1.length ≤ 1000000) (hl2 : l2.length ≤ 1000000) (hs : St ops btD (btF w9 s l1 l2 k1 k2 b3 b4 b5 so a1 a2 sc c1 c2) (btJ w9 s l1 l2 k1 k2 b3 b4 b5 so a1 a2 sc c1 c2) 9 a0 l a w) (hi : ops[3]? = some { dst := some 10, op := Op.call { callee := Callee.value (Operand.func 24), args := #[Operand.tmp 9], argTypes := #[24] }, type := ty, pos := pos, after := after, guard := none }) (nl : l 3 = false) (q1 : l 1 = true) (q2 : l 2 = true) : wpOp Tryd.prog ops Q 3 (Did btD (btF w9 s l1 l2 k1 k2 b3 b4 b5 so a1 a2 sc c1 c2) (btJ w9 s l1 l2 k1 k2 b3 b4 b5 so a1 a2 sc c1 c2) 9 l 3 a) a w := by
  have e9 : btF w9 s l1 l2 k1 k2 b3 b4 b5 so a1 a2 sc c1 c2 l 2 w (a.eval (.tmp 9)) := hs.get (by decide) q2 rfl
  have f9 : a.eval (.tmp 9) = .agg #[.int .i64 k1, .slice a1 l1.length c1] := e9
  refine wpOp_callW (vs := #[.agg #[.int .i64 k1, .slice a1 l1.length c1]]) hi rfl (enters_of Tryd.func24 (by kernel_rfl) rfl) (by simp [f9]) ?_
  refine (hX w hs.j).mono ?_
  rintro e w' ⟨v, u, rfl, ho, ho2, hb⟩
  obtain ⟨ao, c, rfl⟩ := owns_slice ho
  obtain ⟨ao2, oc2, rfl⟩ := owns_slice ho2
  exact ⟨_, rfl, did (bt_mild w9 s l1 l2 k1 k2 b3 b4 b5 so a1 a2 sc c1 c2) hs (d := 10) (i := 3) rfl hb ⟨ao, c, ao2, oc2, rfl, ⟨owns_slG ho, owns_slG ho2⟩⟩⟩
set_option linter.unusedVariables false in
theorem bt_s4 (w9 : World) (s l1 l2 : List Int) (k1 k2 : Int) (b3 b4 b5 : Nat) (so a1 a2 : Option Addr) (sc c1 c2 : Nat) {ops : Array Oper} {Q : Exit → Act → World → Prop} {a0 a : Act} {w : World} {l : Nat → Bool} {ty : TypeId} {pos : String} {after : Array Edge} (e_3 : a0.eval (.tmp 3) = .pointer (some ⟨b3, 0, none⟩)) (e_4 : a0.eval (.tmp 4) = .pointer (some ⟨b4, 0, none⟩)) (e_5 : a0.eval (.tmp 5) = .pointer (some ⟨b5, 0, none⟩)) (hm : ∀ W, Below w9.heap.size w9 W → W.heap[b3]? = some (.cells #[.slice none 0 0, .slice so s.length sc] 44 (0, 0)) ∧ W.heap[b4]? = some (.cells #[.int .i64 k1, .slice a1 l1.length c1] 24 (0, 0)) ∧ W.heap[b5]? = some (.cells #[.int .i64 k2, .slice a2 l2.length c2] 24 (0, 0))) (hO : ∀ W, Below w9.heap.size w9 W → Calls Tryd.prog 27 #[.agg #[.slice none 0 0, .slice so s.length sc]] W (OrdP s W)) (hX : ∀ W, Below w9.heap.size w9 W → Calls Tryd.prog 24 #[.agg #[.int .i64 k1, .slice a1 l1.length c1]] W (MatP (k1, l1) W)) (hY : ∀ W, Below w9.heap.size w9 W → Calls Tryd.prog 24 #[.agg #[.int .i64 k2, .slice a2 l2.length c2]] W (MatP (k2, l2) W)) (hl1 : l1.length ≤ 1000000) (hl2 : l2.length ≤ 1000000) (hs : St ops btD (btF w9 s l1 l2 k1 k2 b3 b4 b5 so a1 a2 sc c1 c2) (btJ w9 s l1 l2 k1 k2 b3 b4 b5 so a1 a2 sc c1 c2) 9 a0 l a w) (hi : ops[4]? = some { dst := some 11, op := Op.load 24 (Operand.tmp 5), type := ty, pos := pos, after := after, guard := none }) (nl : l 4 = false)  : wpOp Tryd.prog ops Q 4 (Did btD (btF w9 s l1 l2 k1 k2 b3 b4 b5 so a1 a2 sc c1 c2) (btJ w9 s l1 l2 k1 k2 b3 b4 b5 so a1 a2 sc c1 c2) 9 l 4 a) a w := by
  have e5 : a.eval (.tmp 5) = .pointer (some ⟨b5, 0, none⟩) := (hs.kept 5 (by decide)).trans (e_5)
  exact wpOp_ldK hi rfl e5 ((hm w hs.j).2.2) (did (bt_mild w9 s l1 l2 k1 k2 b3 b4 b5 so a1 a2 sc c1 c2) hs (d := 11) (i := 4) rfl (Below.refl _ w) rfl)
set_option linter.unusedVariables false in
theorem bt_s5 (w9 : World) (s l1 l2 : List Int) (k1 k2 : Int) (b3 b4 b5 : Nat) (so a1 a2 : Option Addr) (sc c1 c2 : Nat) {ops : Array Oper} {Q : Exit → Act → World → Prop} {a0 a : Act} {w : World} {l : Nat → Bool} {ty : TypeId} {pos : String} {after : Array Edge} (e_3 : a0.eval (.tmp 3) = .pointer (some ⟨b3, 0, none⟩)) (e_4 : a0.eval (.tmp 4) = .pointer (some ⟨b4, 0, none⟩)) (e_5 : a0.eval (.tmp 5) = .pointer (some ⟨b5, 0, none⟩)) (hm : ∀ W, Below w9.heap.size w9 W → W.heap[b3]? = some (.cells #[.slice none 0 0, .slice so s.length sc] 44 (0, 0)) ∧ W.heap[b4]? = some (.cells #[.int .i64 k1, .slice a1 l1.length c1] 24 (0, 0)) ∧ W.heap[b5]? = some (.cells #[.int .i64 k2, .slice a2 l2.length c2] 24 (0, 0))) (hO : ∀ W, Below w9.heap.size w9 W → Calls Tryd.prog 27 #[.agg #[.slice none 0 0, .slice so s.length sc]] W (OrdP s W)) (hX : ∀ W, Below w9.heap.size w9 W → Calls Tryd.prog 24 #[.agg #[.int .i64 k1, .slice a1 l1.length c1]] W (MatP (k1, l1) W)) (hY : ∀ W, Below w9.heap.size w9 W → Calls Tryd.prog 24 #[.agg #[.int .i64 k2, .slice a2 l2.length c2]] W (MatP (k2, l2) W)) (hl1 : l1.length ≤ 1000000) (hl2 : l2.length ≤ 1000000) (hs : St ops btD (btF w9 s l1 l2 k1 k2 b3 b4 b5 so a1 a2 sc c1 c2) (btJ w9 s l1 l2 k1 k2 b3 b4 b5 so a1 a2 sc c1 c2) 9 a0 l a w) (hi : ops[5]? = some { dst := some 12, op := Op.call { callee := Callee.value (Operand.func 24), args := #[Operand.tmp 11], argTypes := #[24] }, type := ty, pos := pos, after := after, guard := none }) (nl : l 5 = false) (q3 : l 3 = true) (q4 : l 4 = true) : wpOp Tryd.prog ops Q 5 (Did btD (btF w9 s l1 l2 k1 k2 b3 b4 b5 so a1 a2 sc c1 c2) (btJ w9 s l1 l2 k1 k2 b3 b4 b5 so a1 a2 sc c1 c2) 9 l 5 a) a w := by
  have e11 : btF w9 s l1 l2 k1 k2 b3 b4 b5 so a1 a2 sc c1 c2 l 4 w (a.eval (.tmp 11)) := hs.get (by decide) q4 rfl
  have f11 : a.eval (.tmp 11) = .agg #[.int .i64 k2, .slice a2 l2.length c2] := e11
  refine wpOp_callW (vs := #[.agg #[.int .i64 k2, .slice a2 l2.length c2]]) hi rfl (enters_of Tryd.func24 (by kernel_rfl) rfl) (by simp [f11]) ?_
  refine (hY w hs.j).mono ?_
  rintro e w' ⟨v, u, rfl, ho, ho2, hb⟩
  obtain ⟨ao, c, rfl⟩ := owns_slice ho
  obtain ⟨ao2, oc2, rfl⟩ := owns_slice ho2
  exact ⟨_, rfl, did (bt_mild w9 s l1 l2 k1 k2 b3 b4 b5 so a1 a2 sc c1 c2) hs (d := 12) (i := 5) rfl hb ⟨ao, c, ao2, oc2, rfl, ⟨owns_slG ho, owns_slG ho2⟩⟩⟩
set_option linter.unusedVariables false in
theorem bt_s6 (w9 : World) (s l1 l2 : List Int) (k1 k2 : Int) (b3 b4 b5 : Nat) (so a1 a2 : Option Addr) (sc c1 c2 : Nat) {ops : Array Oper} {Q : Exit → Act → World → Prop} {a0 a : Act} {w : World} {l : Nat → Bool} {ty : TypeId} {pos : String} {after : Array Edge} (e_3 : a0.eval (.tmp 3) = .pointer (some ⟨b3, 0, none⟩)) (e_4 : a0.eval (.tmp 4) = .pointer (some ⟨b4, 0, none⟩)) (e_5 : a0.eval (.tmp 5) = .pointer (some ⟨b5, 0, none⟩)) (hm : ∀ W, Below w9.heap.size w9 W → W.heap[b3]? = some (.cells #[.slice none 0 0, .slice so s.length sc] 44 (0, 0)) ∧ W.heap[b4]? = some (.cells #[.int .i64 k1, .slice a1 l1.length c1] 24 (0, 0)) ∧ W.heap[b5]? = some (.cells #[.int .i64 k2, .slice a2 l2.length c2] 24 (0, 0))) (hO : ∀ W, Below w9.heap.size w9 W → Calls Tryd.prog 27 #[.agg #[.slice none 0 0, .slice so s.length sc]] W (OrdP s W)) (hX : ∀ W, Below w9.heap.size w9 W → Calls Tryd.prog 24 #[.agg #[.int .i64 k1, .slice a1 l1.length c1]] W (MatP (k1, l1) W)) (hY : ∀ W, Below w9.heap.size w9 W → Calls Tryd.prog 24 #[.agg #[.int .i64 k2, .slice a2 l2.length c2]] W (MatP (k2, l2) W)) (hl1 : l1.length ≤ 1000000) (hl2 : l2.length ≤ 1000000) (hs : St ops btD (btF w9 s l1 l2 k1 k2 b3 b4 b5 so a1 a2 sc c1 c2) (btJ w9 s l1 l2 k1 k2 b3 b4 b5 so a1 a2 sc c1 c2) 9 a0 l a w) (hi : ops[6]? = some { dst := some 13, op := Op.call { callee := Callee.value (Operand.func 28), args := #[Operand.tmp 8, Operand.tmp 10, Operand.tmp 12], argTypes := #[53, 59, 59] }, type := ty, pos := pos, after := after, guard := none }) (nl : l 6 = false) (q1 : l 1 = true) (q3 : l 3 = true) (q5 : l 5 = true) : wpOp Tryd.prog ops Q 6 (Did btD (btF w9 s l1 l2 k1 k2 b3 b4 b5 so a1 a2 sc c1 c2) (btJ w9 s l1 l2 k1 k2 b3 b4 b5 so a1 a2 sc c1 c2) 9 l 6 a) a w := by
  have e8 : btF w9 s l1 l2 k1 k2 b3 b4 b5 so a1 a2 sc c1 c2 l 1 w (a.eval (.tmp 8)) := hs.get (by decide) q1 rfl
  have e10 : btF w9 s l1 l2 k1 k2 b3 b4 b5 so a1 a2 sc c1 c2 l 3 w (a.eval (.tmp 10)) := hs.get (by decide) q3 rfl
  have e12 : btF w9 s l1 l2 k1 k2 b3 b4 b5 so a1 a2 sc c1 c2 l 5 w (a.eval (.tmp 12)) := hs.get (by decide) q5 rfl
  obtain ⟨so', sc', f8, hso⟩ := e8
  obtain ⟨xa, xc, xd, xe, f10, hx⟩ := e10
  obtain ⟨ya, yc, yd, ye, f12, hy⟩ := e12
  refine wpOp_callW (vs := #[aggO so' s.length sc', aggM k1 xa l1.length xc xd xe, aggM k2 ya l2.length yc yd ye]) hi rfl (enters_of Tryd.func28 (by kernel_rfl) rfl) (by simp [f8, f10, f12]) ?_
  refine (compare_any s (k1, l1) (k2, l2) so' xa xd ya yd sc' xc xe yc ye (Nat.le_trans hl1 (by omega)) (Nat.le_trans hl2 (by omega)) w hso hx hy).mono ?_
  rintro e w' ⟨rfl, hb⟩
  exact ⟨_, rfl, did (bt_mild w9 s l1 l2 k1 k2 b3 b4 b5 so a1 a2 sc c1 c2) hs (d := 13) (i := 6) rfl hb.below rfl⟩
set_option linter.unusedVariables false in
theorem bt_s7 (w9 : World) (s l1 l2 : List Int) (k1 k2 : Int) (b3 b4 b5 : Nat) (so a1 a2 : Option Addr) (sc c1 c2 : Nat) {ops : Array Oper} {Q : Exit → Act → World → Prop} {a0 a : Act} {w : World} {l : Nat → Bool} {ty : TypeId} {pos : String} {after : Array Edge} (e_3 : a0.eval (.tmp 3) = .pointer (some ⟨b3, 0, none⟩)) (e_4 : a0.eval (.tmp 4) = .pointer (some ⟨b4, 0, none⟩)) (e_5 : a0.eval (.tmp 5) = .pointer (some ⟨b5, 0, none⟩)) (hm : ∀ W, Below w9.heap.size w9 W → W.heap[b3]? = some (.cells #[.slice none 0 0, .slice so s.length sc] 44 (0, 0)) ∧ W.heap[b4]? = some (.cells #[.int .i64 k1, .slice a1 l1.length c1] 24 (0, 0)) ∧ W.heap[b5]? = some (.cells #[.int .i64 k2, .slice a2 l2.length c2] 24 (0, 0))) (hO : ∀ W, Below w9.heap.size w9 W → Calls Tryd.prog 27 #[.agg #[.slice none 0 0, .slice so s.length sc]] W (OrdP s W)) (hX : ∀ W, Below w9.heap.size w9 W → Calls Tryd.prog 24 #[.agg #[.int .i64 k1, .slice a1 l1.length c1]] W (MatP (k1, l1) W)) (hY : ∀ W, Below w9.heap.size w9 W → Calls Tryd.prog 24 #[.agg #[.int .i64 k2, .slice a2 l2.length c2]] W (MatP (k2, l2) W)) (hl1 : l1.length ≤ 1000000) (hl2 : l2.length ≤ 1000000) (hs : St ops btD (btF w9 s l1 l2 k1 k2 b3 b4 b5 so a1 a2 sc c1 c2) (btJ w9 s l1 l2 k1 k2 b3 b4 b5 so a1 a2 sc c1 c2) 9 a0 l a w) (hi : ops[7]? = some { dst := some 14, op := Op.binOp BinOp.lss 3 (Operand.tmp 13) (Operand.const (Value.int IntKind.i64 0)) 3, type := ty, pos := pos, after := after, guard := none }) (nl : l 7 = false) (q6 : l 6 = true) : wpOp Tryd.prog ops Q 7 (Did btD (btF w9 s l1 l2 k1 k2 b3 b4 b5 so a1 a2 sc c1 c2) (btJ w9 s l1 l2 k1 k2 b3 b4 b5 so a1 a2 sc c1 c2) 9 l 7 a) a w := by
  have e13 : btF w9 s l1 l2 k1 k2 b3 b4 b5 so a1 a2 sc c1 c2 l 6 w (a.eval (.tmp 13)) := hs.get (by decide) q6 rfl
  have f13 : a.eval (.tmp 13) = .int .i64 (cmp14 s (k1, l1) (k2, l2)) := e13
  have ec : a.eval (.const (.int .i64 0)) = .int .i64 0 := rfl
  have hK := did (bt_mild w9 s l1 l2 k1 k2 b3 b4 b5 so a1 a2 sc c1 c2) hs (v := .bool (decide (cmp14 s (k1, l1) (k2, l2) < 0))) (d := 14) (i := 7) rfl (Below.refl _ w) rfl
  refine wpOp_go hi rfl ?_
  unfold Oper.wp
  have KK := Lib.hid hK
  clear hK hi
  generalize a.eval = ρ at *
  go_simp
  exact KK.out
set_option linter.unusedVariables false in
theorem bt_s8 (w9 : World) (s l1 l2 : List Int) (k1 k2 : Int) (b3 b4 b5 : Nat) (so a1 a2 : Option Addr) (sc c1 c2 : Nat) {ops : Array Oper} {Q : Exit → Act → World → Prop} {a0 a : Act} {w : World} {l : Nat → Bool} {ty : TypeId} {pos : String} {after : Array Edge} (e_3 : a0.eval (.tmp 3) = .pointer (some ⟨b3, 0, none⟩)) (e_4 : a0.eval (.tmp 4) = .pointer (some ⟨b4, 0, none⟩)) (e_5 : a0.eval (.tmp 5) = .pointer (some ⟨b5, 0, none⟩)) (hm : ∀ W, Below w9.heap.size w9 W → W.heap[b3]? = some (.cells #[.slice none 0 0, .slice so s.length sc] 44 (0, 0)) ∧ W.heap[b4]? = some (.cells #[.int .i64 k1, .slice a1 l1.length c1] 24 (0, 0)) ∧ W.heap[b5]? = some (.cells #[.int .i64 k2, .slice a2 l2.length c2] 24 (0, 0))) (hO : ∀ W, Below w9.heap.size w9 W → Calls Tryd.prog 27 #[.agg #[.slice none 0 0, .slice so s.length sc]] W (OrdP s W)) (hX : ∀ W, Below w9.heap.size w9 W → Calls Tryd.prog 24 #[.agg #[.int .i64 k1, .slice a1 l1.length c1]] W (MatP (k1, l1) W)) (hY : ∀ W, Below w9.heap.size w9 W → Calls Tryd.prog 24 #[.agg #[.int .i64 k2, .slice a2 l2.length c2]] W (MatP (k2, l2) W)) (hl1 : l1.length ≤ 1000000) (hl2 : l2.length ≤ 1000000) (hs : St ops btD (btF w9 s l1 l2 k1 k2 b3 b4 b5 so a1 a2 sc c1 c2) (btJ w9 s l1 l2 k1 k2 b3 b4 b5 so a1 a2 sc c1 c2) 9 a0 l a w) (hi : ops[8]? = some { dst := some 6, op := Op.assign (Operand.tmp 14), type := ty, pos := pos, after := after, guard := none }) (nl : l 8 = false) (q0 : l 0 = true) (q1 : l 1 = true) (q2 : l 2 = true) (q3 : l 3 = true) (q4 : l 4 = true) (q5 : l 5 = true) (q6 : l 6 = true) (q7 : l 7 = true) : wpOp Tryd.prog ops Q 8 (Did btD (btF w9 s l1 l2 k1 k2 b3 b4 b5 so a1 a2 sc c1 c2) (btJ w9 s l1 l2 k1 k2 b3 b4 b5 so a1 a2 sc c1 c2) 9 l 8 a) a w := by
  have e14 : btF w9 s l1 l2 k1 k2 b3 b4 b5 so a1 a2 sc c1 c2 l 7 w (a.eval (.tmp 14)) := hs.get (by decide) q7 rfl
  have e14 : a.eval (.tmp 14) = .bool (decide (cmp14 s (k1, l1) (k2, l2) < 0)) := e14
  have hK := did (bt_mild w9 s l1 l2 k1 k2 b3 b4 b5 so a1 a2 sc c1 c2) hs (v := .bool (decide (cmp14 s (k1, l1) (k2, l2) < 0))) (d := 6) (i := 8) rfl (Below.refl _ w) rfl
  refine wpOp_assign hi ?_
  rw [e14]
  exact hK

set_option maxHeartbeats 8000000 in
theorem better_tells : BetterTells := by
  intro s x y so a1 a2 sc c1 c2 w hs1 hl1 hl2 hs h1 h2 n0 n1 n2 g0 g1 g2
  obtain ⟨k1, l1⟩ := x
  obtain ⟨k2, l2⟩ := y
  simp only at hl1 hl2 h1 h2 g1 g2 ⊢
  have mixed : Tryd.prog.follows .mixedOrders = true := by kernel_rfl
  have HS := Lib.hid hs
  have H1 := Lib.hid h1
  have H2 := Lib.hid h2
  have HG0 := Lib.hid (gr_three w (.cells #[.slice none 0 0, .slice so s.length sc] 44) (.cells #[.int .i64 k1, .slice a1 l1.length c1] 24) (.cells #[.int .i64 k2, .slice a2 l2.length c2] 24)).below
  obtain ⟨q1, q2, q3⟩ := heap_three (w := w) (.cells #[.slice none 0 0, .slice so s.length sc] 44) (.cells #[.int .i64 k1, .slice a1 l1.length c1] 24) (.cells #[.int .i64 k2, .slice a2 l2.length c2] 24)
  have HQ1 := Lib.hid q1
  have HQ2 := Lib.hid q2
  have HQ3 := Lib.hid q3
  have HN := Lib.hid (And.intro n0 (And.intro n1 (And.intro n2 (And.intro g0 (And.intro g1 g2)))))
  clear hs h1 h2 q1 q2 q3 n0 n1 n2 g0 g1 g2
  go_enter Tryd.func13, Tryd.ntmps13
  go_wp2_with fail
  generalize ha0 : ({ tmps := _, defers := _ } : Act) = a0
  have e_3 : a0.eval (.tmp 3) = .pointer (some ⟨w.heap.size, 0, none⟩) := by rw [← ha0]; rfl
  have e_4 : a0.eval (.tmp 4) = .pointer (some ⟨w.heap.size + 1, 0, none⟩) := by rw [← ha0]; rfl
  have e_5 : a0.eval (.tmp 5) = .pointer (some ⟨w.heap.size + 1 + 1, 0, none⟩) := by rw [← ha0]; rfl
  have hsz : a0.tmps.size = 15 := by rw [← ha0]; rfl
  have hdf : a0.defers = [] := by rw [← ha0]
  clear ha0
  generalize hW : ((w.alloc (.cells #[.slice none 0 0, .slice so s.length sc] 44)).alloc (.cells #[.int .i64 k1, .slice a1 l1.length c1] 24)).alloc (.cells #[.int .i64 k2, .slice a2 l2.length c2] 24) = W0
  have HG : Hid (Below w.heap.size w W0) := by rw [Hid, ← hW]; exact HG0.out
  have P1 : Hid (W0.heap[w.heap.size]? = some (.cells #[.slice none 0 0, .slice so s.length sc] 44 (0, 0))) := by rw [Hid, ← hW]; exact HQ1.out
  have P2 : Hid (W0.heap[w.heap.size + 1]? = some (.cells #[.int .i64 k1, .slice a1 l1.length c1] 24 (0, 0))) := by rw [Hid, ← hW]; exact HQ2.out
  have P3 : Hid (W0.heap[w.heap.size + 2]? = some (.cells #[.int .i64 k2, .slice a2 l2.length c2] 24 (0, 0))) := by rw [Hid, ← hW]; exact HQ3.out
  clear hW HG0 HQ1 HQ2 HQ3
  have hm : ∀ Z, Below W0.heap.size W0 Z → _ := fun Z hZ => And.intro ((hZ.block _ (lt_of_heap P1.out)).trans P1.out) (And.intro ((hZ.block _ (lt_of_heap P2.out)).trans P2.out) ((hZ.block _ (lt_of_heap P3.out)).trans P3.out))
  have hU : ∀ Z, Below W0.heap.size W0 Z → Below w.heap.size w Z := fun Z hZ => HG.out.trans (hZ.mono HG.out.size)
  have hO := fun Z (hZ : Below W0.heap.size W0 Z) => orderOf_any s so sc hs1 Z (HS.out.up (hU Z hZ) (hU Z hZ).size)
  have hX := fun Z (hZ : Below W0.heap.size W0 Z) => matchOf_any (k1, l1) a1 c1 Z (H1.out.up (hU Z hZ) (hU Z hZ).size) HN.out.2.1 HN.out.2.2.2.2.1 hl1
  have hY := fun Z (hZ : Below W0.heap.size W0 Z) => matchOf_any (k2, l2) a2 c2 Z (H2.out.up (hU Z hZ) (hU Z hZ).size) HN.out.2.2.1 HN.out.2.2.2.2.2 hl2
  refine wp_region_st btD (btF W0 s l1 l2 k1 k2 w.heap.size (w.heap.size + 1) (w.heap.size + 1 + 1) so a1 a2 sc c1 c2) (btJ W0 s l1 l2 k1 k2 w.heap.size (w.heap.size + 1) (w.heap.size + 1 + 1) so a1 a2 sc c1 c2) 9 mixed (by kernel_rfl) rfl (by kernel_rfl) (by rw [hsz]; kernel_rfl) (below_drew (Below.refl _ _))
    (fun ll aa ww i hi hs nl hw => by
      have h : i = 0 ∨ i = 1 ∨ i = 2 ∨ i = 3 ∨ i = 4 ∨ i = 5 ∨ i = 6 ∨ i = 7 ∨ i = 8 := by omega
      rcases h with rfl | rfl | rfl | rfl | rfl | rfl | rfl | rfl | rfl
      · exact bt_s0 _ s l1 l2 k1 k2 w.heap.size (w.heap.size + 1) (w.heap.size + 1 + 1) so a1 a2 sc c1 c2 e_3 e_4 e_5 hm hO hX hY hl1 hl2 hs rfl nl 
      · exact bt_s1 _ s l1 l2 k1 k2 w.heap.size (w.heap.size + 1) (w.heap.size + 1 + 1) so a1 a2 sc c1 c2 e_3 e_4 e_5 hm hO hX hY hl1 hl2 hs rfl nl (hw 0 (by kernel_rfl))
      · exact bt_s2 _ s l1 l2 k1 k2 w.heap.size (w.heap.size + 1) (w.heap.size + 1 + 1) so a1 a2 sc c1 c2 e_3 e_4 e_5 hm hO hX hY hl1 hl2 hs rfl nl 
      · exact bt_s3 _ s l1 l2 k1 k2 w.heap.size (w.heap.size + 1) (w.heap.size + 1 + 1) so a1 a2 sc c1 c2 e_3 e_4 e_5 hm hO hX hY hl1 hl2 hs rfl nl (hw 1 (by kernel_rfl)) (hw 2 (by kernel_rfl))
      · exact bt_s4 _ s l1 l2 k1 k2 w.heap.size (w.heap.size + 1) (w.heap.size + 1 + 1) so a1 a2 sc c1 c2 e_3 e_4 e_5 hm hO hX hY hl1 hl2 hs rfl nl 
      · exact bt_s5 _ s l1 l2 k1 k2 w.heap.size (w.heap.size + 1) (w.heap.size + 1 + 1) so a1 a2 sc c1 c2 e_3 e_4 e_5 hm hO hX hY hl1 hl2 hs rfl nl (hw 3 (by kernel_rfl)) (hw 4 (by kernel_rfl))
      · exact bt_s6 _ s l1 l2 k1 k2 w.heap.size (w.heap.size + 1) (w.heap.size + 1 + 1) so a1 a2 sc c1 c2 e_3 e_4 e_5 hm hO hX hY hl1 hl2 hs rfl nl (hw 1 (by kernel_rfl)) (hw 3 (by kernel_rfl)) (hw 5 (by kernel_rfl))
      · exact bt_s7 _ s l1 l2 k1 k2 w.heap.size (w.heap.size + 1) (w.heap.size + 1 + 1) so a1 a2 sc c1 c2 e_3 e_4 e_5 hm hO hX hY hl1 hl2 hs rfl nl (hw 6 (by kernel_rfl))
      · exact bt_s8 _ s l1 l2 k1 k2 w.heap.size (w.heap.size + 1) (w.heap.size + 1 + 1) so a1 a2 sc c1 c2 e_3 e_4 e_5 hm hO hX hY hl1 hl2 hs rfl nl (hw 0 (by kernel_rfl)) (hw 1 (by kernel_rfl)) (hw 2 (by kernel_rfl)) (hw 3 (by kernel_rfl)) (hw 4 (by kernel_rfl)) (hw 5 (by kernel_rfl)) (hw 6 (by kernel_rfl)) (hw 7 (by kernel_rfl)))
    ?_
  intro ll aa ww hall hst
  have h6 : aa.eval (.tmp 6) = .bool (decide (cmp14 s (k1, l1) (k2, l2) < 0)) := hst.get (i := 8) (by decide) (hall 8 (by decide)) rfl
  have hd6 : aa.defers = [] := hst.defs.trans hdf
  have hJ : Below W0.heap.size W0 ww := hst.j
  have HFin := Lib.hid (hU ww hJ)
  have he : decide (cmp14 s (k1, l1) (k2, l2) < 0) = better14 s (k1, l1) (k2, l2) := cmp14_lt s (k1, l1) (k2, l2)
  rw [he] at h6
  clear hst hall hm hO hX hY hJ hU he
  go_wp2_with fail
  refine bodyPost_ret (v := .bool (better14 s (k1, l1) (k2, l2))) ?_ hd6 ⟨rfl, HFin.out⟩
  simp [results, Tryd.results13, go_sem]
  simpa [Act.eval] using h6
end Go.Proofs.YtlkmabnjmklkpaaDoor
