/- The row of facts; which one says so. -/
import Derived.Test.YtajhngkdnkbfcaaEq11
namespace Go.Proofs.Ytajhngkdnkbfcaa
open Go.RowKit

theorem eqGuardS : Try.prog.eqGuardType Try.prog.depth 64 = false := by kernel_rfl
def cellsFs : List F11 → List Value
  | [] => []
  | f :: l => factL f ++ cellsFs l
def Few (l : List F11) : Prop := ∀ f ∈ l, f.args.length ≤ 6
theorem cellsFs_length {l : List F11} (h : Few l) : (cellsFs l).length = l.length * 21 := by
  induction l with
  | nil => rfl
  | cons f l ih =>
    rw [cellsFs, List.length_append, factL_length f (h f (by simp)), ih (fun g hg => h g (by simp [hg])), List.length_cons]
    omega
theorem cellsFs_one (l : List F11) : ∀ u ∈ cellsFs l, u.oneCell' = true := by
  induction l with
  | nil => intro u hu; cases hu
  | cons f l ih =>
    intro u hu
    rw [cellsFs] at hu
    rcases List.mem_append.1 hu with h | h
    · exact factL_one f u h
    · exact ih u h
theorem cellsFs_append (l m : List F11) : cellsFs (l ++ m) = cellsFs l ++ cellsFs m := by
  induction l with
  | nil => rfl
  | cons f l ih => rw [List.cons_append, cellsFs, ih, cellsFs, List.append_assoc]
instance : Inhabited F11 := ⟨⟨0, 0, []⟩⟩
theorem cellsFs_get {l : List F11} (h : Few l) : ∀ (k : Nat), k < l.length → ∀ (j : Nat) (u : Value), (factL (l.getD k default))[j]? = some u → (cellsFs l)[k * 21 + j]? = some u := by
  induction l with
  | nil => intro k hk; cases hk
  | cons f l ih =>
    intro k hk j u hu
    have hf := factL_length f (h f (by simp))
    match k with
    | 0 =>
      have hu' : (factL f)[j]? = some u := hu
      have hj := (List.getElem?_eq_some_iff.1 hu').1
      rw [cellsFs, List.getElem?_append_left (by omega), Nat.zero_mul, Nat.zero_add]
      exact hu'
    | k + 1 =>
      rw [cellsFs, List.getElem?_append_right (by omega), hf, show (k + 1) * 21 + j - 21 = k * 21 + j by omega]
      exact ih (fun g hg => h g (by simp [hg])) k (by simpa using hk) j u hu
/-- A row of facts, as it stands. -/
structure Rw (w : World) (rb : Nat) (ao : Option Addr) (c : Nat) (l : List F11) (nx : Int) : Prop where
  box : Box w rb 74 [.slice ao l.length c, .int .i64 nx]
  own : w.ownsRow 0 71 21 (.slice ao l.length c) l.length (cellsFs l)
  few : Few l
  many : l.length ≤ 256
theorem Rw.old {w w' : World} {rb : Nat} {ao : Option Addr} {c : Nat} {l : List F11} {nx : Int} (h : Rw w rb ao c l nx) (b : Below w.heap.size w w') : Rw w' rb ao c l nx := ⟨h.box.old b, owns_below h.own b, h.few, h.many⟩
theorem Rw.next {w : World} {rb : Nat} {ao : Option Addr} {c : Nat} {l : List F11} {nx : Int} (h : Rw w rb ao c l nx) : w.cell? ⟨rb, 0, none⟩ = some (.slice ao l.length c) ∧ w.cell? ⟨rb, 1, none⟩ = some (.int .i64 nx) := ⟨by rw [h.box.cell]; rfl, by rw [h.box.cell]; rfl⟩
theorem Rw.at {w : World} {rb : Nat} {ao : Option Addr} {c : Nat} {l : List F11} {nx : Int} (h : Rw w rb ao c l nx) {k : Nat} (hk : k < l.length) : ∃ fb, ao = some ⟨fb, 0, none⟩ ∧ fb < w.heap.size ∧ w.rangeAt fb (k * 21) (factL (l.getD k default)) := by
  obtain ⟨g, cap, cur, e, -, hg, -, -, hc⟩ := owns_at h.own (by omega)
  simp only [Value.slice.injEq, true_and] at e
  refine ⟨g, e.1, lt_of_heap hg, fun j u hu => ?_⟩
  have h1 := cellsFs_get h.few k hk j u hu
  have hj := (List.getElem?_eq_some_iff.1 h1).1
  rw [cellsFs_length h.few] at hj
  rw [hc _ hj]
  exact h1
theorem getD_few {l : List F11} (h : Few l) {k : Nat} (hk : k < l.length) : (l.getD k default).args.length ≤ 6 := by
  rw [List.getD_eq_getElem?_getD, List.getElem?_eq_getElem hk]
  exact h _ (List.getElem_mem hk)
/-- The number of the fact that says so. -/
def whoF (l : List F11) (kind : Int) (vs : List V3) : Option Int := (l.find? fun f => decide (f.kind = kind ∧ f.args = vs)).map F11.id
theorem find_none {α : Type} [Inhabited α] {l : List α} {p : α → Bool} (h : ∀ k, k < l.length → p (l.getD k default) = false) : l.find? p = none := by
  rw [List.find?_eq_none]
  intro x hx
  obtain ⟨k, hk, rfl⟩ := List.getElem_of_mem hx
  have := h k hk
  rw [List.getD_eq_getElem?_getD, List.getElem?_eq_getElem hk] at this
  simpa using this
theorem find_first {α : Type} [Inhabited α] {l : List α} {p : α → Bool} {k : Nat} (hk : k < l.length) (h : ∀ j, j < k → p (l.getD j default) = false) (hp : p (l.getD k default) = true) : l.find? p = some (l.getD k default) := by
  induction l generalizing k with
  | nil => cases hk
  | cons x l ih =>
    match k with
    | 0 => exact List.find?_cons_of_pos hp
    | k + 1 =>
      have h0 : p x = false := h 0 (by omega)
      rw [List.find?_cons_of_neg (by rw [h0]; decide)]
      exact ih (by simpa using hk) (fun j hj => h (j + 1) (by omega)) hp
def whoRD (i : Nat) : Option Nat := ([some 15, some 16, some 17, some 18, some 19, some 20, some 21, some 22, some 23, some 24] : List (Option Nat)).getD i none
set_option linter.unusedVariables false in
def whoRF (w0 : World) (rb fb c n k sb : Nat) (L1 L2 : List Value) (bv : Bool) (l : Nat → Bool) (i : Nat) (w : World) (v : Value) : Prop :=
  match i with
  | 0 => v = .pointer (some ⟨rb, 0, none⟩)
  | 1 => v = .pointer (some ⟨rb, 0, none⟩)
  | 2 => v = .pointer (some ⟨rb, 0, none⟩)
  | 3 => v = .slice (some ⟨fb, 0, none⟩) n c
  | 4 => v = .int .i64 (k : Int)
  | 5 => v = .pointer (some ⟨fb, k * 21, none⟩)
  | 6 => v = .pointer (some ⟨fb, k * 21 + 1, none⟩)
  | 7 => v = .agg L1.toArray
  | 8 => v = .agg L2.toArray
  | 9 => v = .bool bv
  | _ => True
set_option linter.unusedVariables false in
def whoRJ (w0 : World) (rb fb c n k sb : Nat) (L1 L2 : List Value) (bv : Bool) (l : Nat → Bool) (w : World) : Prop := Below w0.heap.size w0 w
set_option linter.unusedVariables false in
theorem whoR_mild (w0 : World) (rb fb c n k sb : Nat) (L1 L2 : List Value) (bv : Bool) : Mild (whoRF w0 rb fb c n k sb L1 L2 bv) (whoRJ w0 rb fb c n k sb L1 L2 bv) := by
  refine ⟨fun l i j w w' v hb h => ?_, fun l i w w' hb h => ?_⟩
  · match j with
    | 0 => exact h
    | 1 => exact h
    | 2 => exact h
    | 3 => exact h
    | 4 => exact h
    | 5 => exact h
    | 6 => exact h
    | 7 => exact h
    | 8 => exact h
    | 9 => exact h
    | k + 10 => trivial
  · exact h.trans (hb.mono h.size)
set_option linter.unusedVariables false in
theorem whoR_s0 (w0 : World) (rb fb c n k sb : Nat) (L1 L2 : List Value) (bv : Bool) {ops : Array Oper} {Q : Exit → Act → World → Prop} {a0 a : Act} {w : World} {l : Nat → Bool} {ty : TypeId} {pos : String} {after : Array Edge} (h0 : ∀ W, Below w0.heap.size w0 W → W.cell? ⟨rb, 0, none⟩ = some (.slice (some ⟨fb, 0, none⟩) n c) ∧ W.rangeAt fb (k * 21 + 1) L1 ∧ W.rangeAt sb 0 L2) (hL1 : L1.length = 20) (hL2 : L2.length = 20) (hE : ∀ W, (binOp .eql 64 (.agg L1.toArray) (.agg L2.toArray)).run Try.prog W = .ok (.bool bv) W) (hk : k < n) (k0 : a0.eval (.tmp 0) = .pointer (some ⟨rb, 0, none⟩)) (k6 : a0.eval (.tmp 6) = .int .i64 (k : Int)) (k3 : a0.eval (.tmp 3) = .pointer (some ⟨sb, 0, none⟩)) (hs : St ops whoRD (whoRF w0 rb fb c n k sb L1 L2 bv) (whoRJ w0 rb fb c n k sb L1 L2 bv) 10 a0 l a w) (hi : ops[0]? = some { dst := some 15, op := Op.move (Operand.tmp 0), type := ty, pos := pos, after := after, guard := none }) (nl : l 0 = false)  : wpOp Try.prog ops Q 0 (Did whoRD (whoRF w0 rb fb c n k sb L1 L2 bv) (whoRJ w0 rb fb c n k sb L1 L2 bv) 10 l 0 a) a w := by
  have e0 : a.eval (.tmp 0) = .pointer (some ⟨rb, 0, none⟩) := (hs.kept 0 (by decide)).trans (k0)
  have hK := did (whoR_mild w0 rb fb c n k sb L1 L2 bv) hs (v := .pointer (some ⟨rb, 0, none⟩)) (d := 15) (i := 0) rfl (Below.refl _ w) rfl
  refine wpOp_move hi ?_
  rw [e0]
  exact hK
set_option linter.unusedVariables false in
theorem whoR_s1 (w0 : World) (rb fb c n k sb : Nat) (L1 L2 : List Value) (bv : Bool) {ops : Array Oper} {Q : Exit → Act → World → Prop} {a0 a : Act} {w : World} {l : Nat → Bool} {ty : TypeId} {pos : String} {after : Array Edge} (h0 : ∀ W, Below w0.heap.size w0 W → W.cell? ⟨rb, 0, none⟩ = some (.slice (some ⟨fb, 0, none⟩) n c) ∧ W.rangeAt fb (k * 21 + 1) L1 ∧ W.rangeAt sb 0 L2) (hL1 : L1.length = 20) (hL2 : L2.length = 20) (hE : ∀ W, (binOp .eql 64 (.agg L1.toArray) (.agg L2.toArray)).run Try.prog W = .ok (.bool bv) W) (hk : k < n) (k0 : a0.eval (.tmp 0) = .pointer (some ⟨rb, 0, none⟩)) (k6 : a0.eval (.tmp 6) = .int .i64 (k : Int)) (k3 : a0.eval (.tmp 3) = .pointer (some ⟨sb, 0, none⟩)) (hs : St ops whoRD (whoRF w0 rb fb c n k sb L1 L2 bv) (whoRJ w0 rb fb c n k sb L1 L2 bv) 10 a0 l a w) (hi : ops[1]? = some { dst := some 16, op := Op.nilCheck (Operand.tmp 15), type := ty, pos := pos, after := after, guard := none }) (nl : l 1 = false) (q0 : l 0 = true) : wpOp Try.prog ops Q 1 (Did whoRD (whoRF w0 rb fb c n k sb L1 L2 bv) (whoRJ w0 rb fb c n k sb L1 L2 bv) 10 l 1 a) a w := by
  have e15 : whoRF w0 rb fb c n k sb L1 L2 bv l 0 w (a.eval (.tmp 15)) := hs.get (by decide) q0 rfl
  have e15 : a.eval (.tmp 15) = .pointer (some ⟨rb, 0, none⟩) := e15
  have hK := did (whoR_mild w0 rb fb c n k sb L1 L2 bv) hs (v := .pointer (some ⟨rb, 0, none⟩)) (d := 16) (i := 1) rfl (Below.refl _ w) rfl
  exact wpOp_nilCheck hi e15 hK
set_option linter.unusedVariables false in
theorem whoR_s2 (w0 : World) (rb fb c n k sb : Nat) (L1 L2 : List Value) (bv : Bool) {ops : Array Oper} {Q : Exit → Act → World → Prop} {a0 a : Act} {w : World} {l : Nat → Bool} {ty : TypeId} {pos : String} {after : Array Edge} (h0 : ∀ W, Below w0.heap.size w0 W → W.cell? ⟨rb, 0, none⟩ = some (.slice (some ⟨fb, 0, none⟩) n c) ∧ W.rangeAt fb (k * 21 + 1) L1 ∧ W.rangeAt sb 0 L2) (hL1 : L1.length = 20) (hL2 : L2.length = 20) (hE : ∀ W, (binOp .eql 64 (.agg L1.toArray) (.agg L2.toArray)).run Try.prog W = .ok (.bool bv) W) (hk : k < n) (k0 : a0.eval (.tmp 0) = .pointer (some ⟨rb, 0, none⟩)) (k6 : a0.eval (.tmp 6) = .int .i64 (k : Int)) (k3 : a0.eval (.tmp 3) = .pointer (some ⟨sb, 0, none⟩)) (hs : St ops whoRD (whoRF w0 rb fb c n k sb L1 L2 bv) (whoRJ w0 rb fb c n k sb L1 L2 bv) 10 a0 l a w) (hi : ops[2]? = some { dst := some 17, op := Op.fieldAddr 74 (Operand.tmp 16) 0, type := ty, pos := pos, after := after, guard := none }) (nl : l 2 = false) (q1 : l 1 = true) : wpOp Try.prog ops Q 2 (Did whoRD (whoRF w0 rb fb c n k sb L1 L2 bv) (whoRJ w0 rb fb c n k sb L1 L2 bv) 10 l 2 a) a w := by
  have e16 : whoRF w0 rb fb c n k sb L1 L2 bv l 1 w (a.eval (.tmp 16)) := hs.get (by decide) q1 rfl
  have e16 : a.eval (.tmp 16) = .pointer (some ⟨rb, 0, none⟩) := e16
  have hK := did (whoR_mild w0 rb fb c n k sb L1 L2 bv) hs (v := .pointer (some ⟨rb, 0, none⟩)) (d := 17) (i := 2) rfl (Below.refl _ w) rfl
  refine wpOp_go hi rfl ?_
  unfold Oper.wp
  have KK := Lib.hid hK
  clear hK hi
  have c0 := (h0 w hs.j).1
  have hkn : (k : Int) < (n : Int) := by omega
  generalize a.eval = ρ at *
  go_simp
  exact KK.out
set_option linter.unusedVariables false in
theorem whoR_s3 (w0 : World) (rb fb c n k sb : Nat) (L1 L2 : List Value) (bv : Bool) {ops : Array Oper} {Q : Exit → Act → World → Prop} {a0 a : Act} {w : World} {l : Nat → Bool} {ty : TypeId} {pos : String} {after : Array Edge} (h0 : ∀ W, Below w0.heap.size w0 W → W.cell? ⟨rb, 0, none⟩ = some (.slice (some ⟨fb, 0, none⟩) n c) ∧ W.rangeAt fb (k * 21 + 1) L1 ∧ W.rangeAt sb 0 L2) (hL1 : L1.length = 20) (hL2 : L2.length = 20) (hE : ∀ W, (binOp .eql 64 (.agg L1.toArray) (.agg L2.toArray)).run Try.prog W = .ok (.bool bv) W) (hk : k < n) (k0 : a0.eval (.tmp 0) = .pointer (some ⟨rb, 0, none⟩)) (k6 : a0.eval (.tmp 6) = .int .i64 (k : Int)) (k3 : a0.eval (.tmp 3) = .pointer (some ⟨sb, 0, none⟩)) (hs : St ops whoRD (whoRF w0 rb fb c n k sb L1 L2 bv) (whoRJ w0 rb fb c n k sb L1 L2 bv) 10 a0 l a w) (hi : ops[3]? = some { dst := some 18, op := Op.load 72 (Operand.tmp 17), type := ty, pos := pos, after := after, guard := none }) (nl : l 3 = false) (q2 : l 2 = true) : wpOp Try.prog ops Q 3 (Did whoRD (whoRF w0 rb fb c n k sb L1 L2 bv) (whoRJ w0 rb fb c n k sb L1 L2 bv) 10 l 3 a) a w := by
  have e17 : whoRF w0 rb fb c n k sb L1 L2 bv l 2 w (a.eval (.tmp 17)) := hs.get (by decide) q2 rfl
  have e17 : a.eval (.tmp 17) = .pointer (some ⟨rb, 0, none⟩) := e17
  have hK := did (whoR_mild w0 rb fb c n k sb L1 L2 bv) hs (v := .slice (some ⟨fb, 0, none⟩) n c) (d := 18) (i := 3) rfl (Below.refl _ w) rfl
  refine wpOp_go hi rfl ?_
  unfold Oper.wp
  have KK := Lib.hid hK
  clear hK hi
  have c0 := (h0 w hs.j).1
  have hkn : (k : Int) < (n : Int) := by omega
  generalize a.eval = ρ at *
  go_simp
  exact KK.out
set_option linter.unusedVariables false in
theorem whoR_s4 (w0 : World) (rb fb c n k sb : Nat) (L1 L2 : List Value) (bv : Bool) {ops : Array Oper} {Q : Exit → Act → World → Prop} {a0 a : Act} {w : World} {l : Nat → Bool} {ty : TypeId} {pos : String} {after : Array Edge} (h0 : ∀ W, Below w0.heap.size w0 W → W.cell? ⟨rb, 0, none⟩ = some (.slice (some ⟨fb, 0, none⟩) n c) ∧ W.rangeAt fb (k * 21 + 1) L1 ∧ W.rangeAt sb 0 L2) (hL1 : L1.length = 20) (hL2 : L2.length = 20) (hE : ∀ W, (binOp .eql 64 (.agg L1.toArray) (.agg L2.toArray)).run Try.prog W = .ok (.bool bv) W) (hk : k < n) (k0 : a0.eval (.tmp 0) = .pointer (some ⟨rb, 0, none⟩)) (k6 : a0.eval (.tmp 6) = .int .i64 (k : Int)) (k3 : a0.eval (.tmp 3) = .pointer (some ⟨sb, 0, none⟩)) (hs : St ops whoRD (whoRF w0 rb fb c n k sb L1 L2 bv) (whoRJ w0 rb fb c n k sb L1 L2 bv) 10 a0 l a w) (hi : ops[4]? = some { dst := some 19, op := Op.move (Operand.tmp 6), type := ty, pos := pos, after := after, guard := none }) (nl : l 4 = false)  : wpOp Try.prog ops Q 4 (Did whoRD (whoRF w0 rb fb c n k sb L1 L2 bv) (whoRJ w0 rb fb c n k sb L1 L2 bv) 10 l 4 a) a w := by
  have e6 : a.eval (.tmp 6) = .int .i64 (k : Int) := (hs.kept 6 (by decide)).trans (k6)
  have hK := did (whoR_mild w0 rb fb c n k sb L1 L2 bv) hs (v := .int .i64 (k : Int)) (d := 19) (i := 4) rfl (Below.refl _ w) rfl
  refine wpOp_move hi ?_
  rw [e6]
  exact hK
set_option linter.unusedVariables false in
theorem whoR_s5 (w0 : World) (rb fb c n k sb : Nat) (L1 L2 : List Value) (bv : Bool) {ops : Array Oper} {Q : Exit → Act → World → Prop} {a0 a : Act} {w : World} {l : Nat → Bool} {ty : TypeId} {pos : String} {after : Array Edge} (h0 : ∀ W, Below w0.heap.size w0 W → W.cell? ⟨rb, 0, none⟩ = some (.slice (some ⟨fb, 0, none⟩) n c) ∧ W.rangeAt fb (k * 21 + 1) L1 ∧ W.rangeAt sb 0 L2) (hL1 : L1.length = 20) (hL2 : L2.length = 20) (hE : ∀ W, (binOp .eql 64 (.agg L1.toArray) (.agg L2.toArray)).run Try.prog W = .ok (.bool bv) W) (hk : k < n) (k0 : a0.eval (.tmp 0) = .pointer (some ⟨rb, 0, none⟩)) (k6 : a0.eval (.tmp 6) = .int .i64 (k : Int)) (k3 : a0.eval (.tmp 3) = .pointer (some ⟨sb, 0, none⟩)) (hs : St ops whoRD (whoRF w0 rb fb c n k sb L1 L2 bv) (whoRJ w0 rb fb c n k sb L1 L2 bv) 10 a0 l a w) (hi : ops[5]? = some { dst := some 20, op := Op.indexAddr 72 (Operand.tmp 18) (Operand.tmp 19), type := ty, pos := pos, after := after, guard := none }) (nl : l 5 = false) (q3 : l 3 = true) (q4 : l 4 = true) : wpOp Try.prog ops Q 5 (Did whoRD (whoRF w0 rb fb c n k sb L1 L2 bv) (whoRJ w0 rb fb c n k sb L1 L2 bv) 10 l 5 a) a w := by
  have e18 : whoRF w0 rb fb c n k sb L1 L2 bv l 3 w (a.eval (.tmp 18)) := hs.get (by decide) q3 rfl
  have e19 : whoRF w0 rb fb c n k sb L1 L2 bv l 4 w (a.eval (.tmp 19)) := hs.get (by decide) q4 rfl
  have e18 : a.eval (.tmp 18) = .slice (some ⟨fb, 0, none⟩) n c := e18
  have e19 : a.eval (.tmp 19) = .int .i64 (k : Int) := e19
  have hK := did (whoR_mild w0 rb fb c n k sb L1 L2 bv) hs (v := .pointer (some ⟨fb, k * 21, none⟩)) (d := 20) (i := 5) rfl (Below.refl _ w) rfl
  refine wpOp_go hi rfl ?_
  unfold Oper.wp
  have KK := Lib.hid hK
  clear hK hi
  have c0 := (h0 w hs.j).1
  have hkn : (k : Int) < (n : Int) := by omega
  generalize a.eval = ρ at *
  go_simp
  exact KK.out
set_option linter.unusedVariables false in
theorem whoR_s6 (w0 : World) (rb fb c n k sb : Nat) (L1 L2 : List Value) (bv : Bool) {ops : Array Oper} {Q : Exit → Act → World → Prop} {a0 a : Act} {w : World} {l : Nat → Bool} {ty : TypeId} {pos : String} {after : Array Edge} (h0 : ∀ W, Below w0.heap.size w0 W → W.cell? ⟨rb, 0, none⟩ = some (.slice (some ⟨fb, 0, none⟩) n c) ∧ W.rangeAt fb (k * 21 + 1) L1 ∧ W.rangeAt sb 0 L2) (hL1 : L1.length = 20) (hL2 : L2.length = 20) (hE : ∀ W, (binOp .eql 64 (.agg L1.toArray) (.agg L2.toArray)).run Try.prog W = .ok (.bool bv) W) (hk : k < n) (k0 : a0.eval (.tmp 0) = .pointer (some ⟨rb, 0, none⟩)) (k6 : a0.eval (.tmp 6) = .int .i64 (k : Int)) (k3 : a0.eval (.tmp 3) = .pointer (some ⟨sb, 0, none⟩)) (hs : St ops whoRD (whoRF w0 rb fb c n k sb L1 L2 bv) (whoRJ w0 rb fb c n k sb L1 L2 bv) 10 a0 l a w) (hi : ops[6]? = some { dst := some 21, op := Op.fieldAddr 71 (Operand.tmp 20) 1, type := ty, pos := pos, after := after, guard := none }) (nl : l 6 = false) (q5 : l 5 = true) : wpOp Try.prog ops Q 6 (Did whoRD (whoRF w0 rb fb c n k sb L1 L2 bv) (whoRJ w0 rb fb c n k sb L1 L2 bv) 10 l 6 a) a w := by
  have e20 : whoRF w0 rb fb c n k sb L1 L2 bv l 5 w (a.eval (.tmp 20)) := hs.get (by decide) q5 rfl
  have e20 : a.eval (.tmp 20) = .pointer (some ⟨fb, k * 21, none⟩) := e20
  have hK := did (whoR_mild w0 rb fb c n k sb L1 L2 bv) hs (v := .pointer (some ⟨fb, k * 21 + 1, none⟩)) (d := 21) (i := 6) rfl (Below.refl _ w) rfl
  refine wpOp_go hi rfl ?_
  unfold Oper.wp
  have KK := Lib.hid hK
  clear hK hi
  have c0 := (h0 w hs.j).1
  have hkn : (k : Int) < (n : Int) := by omega
  generalize a.eval = ρ at *
  go_simp
  exact KK.out
set_option linter.unusedVariables false in
theorem whoR_s7 (w0 : World) (rb fb c n k sb : Nat) (L1 L2 : List Value) (bv : Bool) {ops : Array Oper} {Q : Exit → Act → World → Prop} {a0 a : Act} {w : World} {l : Nat → Bool} {ty : TypeId} {pos : String} {after : Array Edge} (h0 : ∀ W, Below w0.heap.size w0 W → W.cell? ⟨rb, 0, none⟩ = some (.slice (some ⟨fb, 0, none⟩) n c) ∧ W.rangeAt fb (k * 21 + 1) L1 ∧ W.rangeAt sb 0 L2) (hL1 : L1.length = 20) (hL2 : L2.length = 20) (hE : ∀ W, (binOp .eql 64 (.agg L1.toArray) (.agg L2.toArray)).run Try.prog W = .ok (.bool bv) W) (hk : k < n) (k0 : a0.eval (.tmp 0) = .pointer (some ⟨rb, 0, none⟩)) (k6 : a0.eval (.tmp 6) = .int .i64 (k : Int)) (k3 : a0.eval (.tmp 3) = .pointer (some ⟨sb, 0, none⟩)) (hs : St ops whoRD (whoRF w0 rb fb c n k sb L1 L2 bv) (whoRJ w0 rb fb c n k sb L1 L2 bv) 10 a0 l a w) (hi : ops[7]? = some { dst := some 22, op := Op.load 64 (Operand.tmp 21), type := ty, pos := pos, after := after, guard := none }) (nl : l 7 = false) (q6 : l 6 = true) : wpOp Try.prog ops Q 7 (Did whoRD (whoRF w0 rb fb c n k sb L1 L2 bv) (whoRJ w0 rb fb c n k sb L1 L2 bv) 10 l 7 a) a w := by
  have e21 : whoRF w0 rb fb c n k sb L1 L2 bv l 6 w (a.eval (.tmp 21)) := hs.get (by decide) q6 rfl
  exact wpOp_load hi e21 (h0 w hs.j).2.1 Try.underlying64 rfl (say_infoL hL1) (did (whoR_mild w0 rb fb c n k sb L1 L2 bv) hs (d := 22) (i := 7) rfl (Below.refl _ w) rfl)
set_option linter.unusedVariables false in
theorem whoR_s8 (w0 : World) (rb fb c n k sb : Nat) (L1 L2 : List Value) (bv : Bool) {ops : Array Oper} {Q : Exit → Act → World → Prop} {a0 a : Act} {w : World} {l : Nat → Bool} {ty : TypeId} {pos : String} {after : Array Edge} (h0 : ∀ W, Below w0.heap.size w0 W → W.cell? ⟨rb, 0, none⟩ = some (.slice (some ⟨fb, 0, none⟩) n c) ∧ W.rangeAt fb (k * 21 + 1) L1 ∧ W.rangeAt sb 0 L2) (hL1 : L1.length = 20) (hL2 : L2.length = 20) (hE : ∀ W, (binOp .eql 64 (.agg L1.toArray) (.agg L2.toArray)).run Try.prog W = .ok (.bool bv) W) (hk : k < n) (k0 : a0.eval (.tmp 0) = .pointer (some ⟨rb, 0, none⟩)) (k6 : a0.eval (.tmp 6) = .int .i64 (k : Int)) (k3 : a0.eval (.tmp 3) = .pointer (some ⟨sb, 0, none⟩)) (hs : St ops whoRD (whoRF w0 rb fb c n k sb L1 L2 bv) (whoRJ w0 rb fb c n k sb L1 L2 bv) 10 a0 l a w) (hi : ops[8]? = some { dst := some 23, op := Op.load 64 (Operand.tmp 3), type := ty, pos := pos, after := after, guard := none }) (nl : l 8 = false)  : wpOp Try.prog ops Q 8 (Did whoRD (whoRF w0 rb fb c n k sb L1 L2 bv) (whoRJ w0 rb fb c n k sb L1 L2 bv) 10 l 8 a) a w := by
  have e3 : a.eval (.tmp 3) = .pointer (some ⟨sb, 0, none⟩) := (hs.kept 3 (by decide)).trans (k3)
  exact wpOp_load hi e3 (h0 w hs.j).2.2 Try.underlying64 rfl (say_infoL hL2) (did (whoR_mild w0 rb fb c n k sb L1 L2 bv) hs (d := 23) (i := 8) rfl (Below.refl _ w) rfl)
set_option linter.unusedVariables false in
theorem whoR_s9 (w0 : World) (rb fb c n k sb : Nat) (L1 L2 : List Value) (bv : Bool) {ops : Array Oper} {Q : Exit → Act → World → Prop} {a0 a : Act} {w : World} {l : Nat → Bool} {ty : TypeId} {pos : String} {after : Array Edge} (h0 : ∀ W, Below w0.heap.size w0 W → W.cell? ⟨rb, 0, none⟩ = some (.slice (some ⟨fb, 0, none⟩) n c) ∧ W.rangeAt fb (k * 21 + 1) L1 ∧ W.rangeAt sb 0 L2) (hL1 : L1.length = 20) (hL2 : L2.length = 20) (hE : ∀ W, (binOp .eql 64 (.agg L1.toArray) (.agg L2.toArray)).run Try.prog W = .ok (.bool bv) W) (hk : k < n) (k0 : a0.eval (.tmp 0) = .pointer (some ⟨rb, 0, none⟩)) (k6 : a0.eval (.tmp 6) = .int .i64 (k : Int)) (k3 : a0.eval (.tmp 3) = .pointer (some ⟨sb, 0, none⟩)) (hs : St ops whoRD (whoRF w0 rb fb c n k sb L1 L2 bv) (whoRJ w0 rb fb c n k sb L1 L2 bv) 10 a0 l a w) (hi : ops[9]? = some { dst := some 24, op := Op.binOp BinOp.eql 64 (Operand.tmp 22) (Operand.tmp 23) 64, type := ty, pos := pos, after := after, guard := none }) (nl : l 9 = false) (q7 : l 7 = true) (q8 : l 8 = true) : wpOp Try.prog ops Q 9 (Did whoRD (whoRF w0 rb fb c n k sb L1 L2 bv) (whoRJ w0 rb fb c n k sb L1 L2 bv) 10 l 9 a) a w := by
  have e22 : whoRF w0 rb fb c n k sb L1 L2 bv l 7 w (a.eval (.tmp 22)) := hs.get (by decide) q7 rfl
  have e23 : whoRF w0 rb fb c n k sb L1 L2 bv l 8 w (a.eval (.tmp 23)) := hs.get (by decide) q8 rfl
  have e22' : a.eval (.tmp 22) = .agg L1.toArray := e22
  have e23' : a.eval (.tmp 23) = .agg L2.toArray := e23
  have hK := did (v := .bool bv) (whoR_mild w0 rb fb c n k sb L1 L2 bv) hs (d := 24) (i := 9) rfl (Below.refl _ w) rfl
  have hg := eqGuardS
  refine wpOp_go hi rfl ?_
  unfold Oper.wp
  have KK := Lib.hid hK
  clear hK hi e22 e23
  generalize a.eval = ρ at *
  go_simp
  exact KK.out
def whoA (l : List F11) (kind : Int) (vs : List V3) : Value := match whoF l kind vs with | some i => .tuple #[.int .i64 i, .bool true] | none => .tuple #[.int .i64 0, .bool false]
def WhoP (l : List F11) (kind : Int) (vs : List V3) (w : World) (e : Ending) (w' : World) : Prop := e = .returned (whoA l kind vs) ∧ Below w.heap.size w w'
theorem fact_range {w : World} {fb o : Nat} {f : F11} (h : w.rangeAt fb o (factL f)) : w.cell? ⟨fb, o, none⟩ = some (.int .i64 f.id) ∧ w.rangeAt fb (o + 1) (sayL f.kind f.args.length (pad6 f.args)) :=
  ⟨h 0 _ rfl, fun j u hu => by
    have := h (j + 1) u hu
    rwa [show o + (j + 1) = o + 1 + j by omega] at this⟩
theorem range_old {w w' : World} {b o : Nat} {L : List Value} (h : w.rangeAt b o L) (hb : b < w.heap.size) (bl : Below w.heap.size w w') : w'.rangeAt b o L := fun j u hu => (bl.cell (p := ⟨b, o + j, none⟩) hb).trans (h j u hu)
set_option maxRecDepth 100000 in
set_option maxHeartbeats 4000000 in
theorem who_any (kind : Int) (vs : List V3) (h6 : vs.length ≤ 6) (rb : Nat) (ao : Option Addr) (c : Nat) (l : List F11) (nx : Int) (w : World) (hr : Rw w rb ao c l nx) :
    Calls Try.prog 26 #[.pointer (some ⟨rb, 0, none⟩), .agg (sayL kind vs.length (pad6 vs)).toArray] w (WhoP l kind vs w) := by
  have HR := Lib.hid (fun W (hW : Below w.heap.size w W) => hr.old hW)
  have HB := Lib.hid (Box.new w 64 (sayL kind vs.length (pad6 vs)))
  have HL2 : Hid ((sayL kind vs.length (pad6 vs)).length = 20) := by show _ = _; rw [sayL_length, pad6_length h6]
  have HEq := Lib.hid (fun (f : F11) (hf : f.args.length ≤ 6) W => (eqSay f.kind f.args.length kind vs.length (pad6 f.args) (pad6 vs) (pad6_length hf) (pad6_length h6) W))
  have HSm := Lib.hid (fun (f : F11) (hf : f.args.length ≤ 6) => say_same (k1 := f.kind) (k2 := kind) hf h6)
  have hm : l.length ≤ 256 := hr.many
  have hf := hr.few
  obtain ⟨x0, -⟩ := (hr.old (below_own (.cells (sayL kind vs.length (pad6 vs)).toArray 64))).next
  clear hr
  generalize sayL kind vs.length (pad6 vs) = L2 at *
  have HB2 : Hid (Below w.heap.size w (w.alloc (.cells L2.toArray 64))) := below_own _
  have hno : ∀ k, Hid (∀ j, j < k → decide ((l.getD j default).kind = kind ∧ (l.getD j default).args = vs) = false) → k = l.length → Hid (whoA l kind vs = .tuple #[.int .i64 0, .bool false]) := fun k h e => by
    subst e
    unfold Hid whoA whoF
    rw [find_none (fun j hj => h.out j hj)]
    rfl
  have HNo := Lib.hid hno
  have hyes : ∀ k, Hid (∀ j, j < k → decide ((l.getD j default).kind = kind ∧ (l.getD j default).args = vs) = false) → k < l.length → decide ((l.getD k default).kind = kind ∧ (l.getD k default).args = vs) = true → Hid (whoA l kind vs = .tuple #[.int .i64 (l.getD k default).id, .bool true]) := fun k h e hp => by
    unfold Hid whoA whoF
    rw [find_first e (fun j hj => h.out j hj) hp]
    rfl
  have HYes := Lib.hid hyes
  clear hno hyes
  unfold WhoP
  generalize whoA l kind vs = RA at *
  have HF := Lib.hid hf
  clear hf h6
  go_enter Try.func26, Try.ntmps26
  go_wp2_with fail
  go_loopw [12] (fun i wr => ∃ k : Nat, k ≤ l.length ∧ i = .int .i64 k ∧ Hid (Below w.heap.size w wr) ∧ Hid (Box wr w.heap.size 64 L2) ∧ Hid (∀ j, j < k → decide ((l.getD j default).kind = kind ∧ (l.getD j default).args = vs) = false)) (fun i _ => l.length - (intOf i).toNat)
  case atStart => exact ⟨0, Nat.zero_le _, rfl, HB2, HB, fun j hj => absurd hj (Nat.not_lt_zero _)⟩
  case round =>
    obtain ⟨k, hk, rfl, HW, HBw, HK⟩ := hrel
    by_cases hlt : k < l.length
    · have hRw := HR.out wr HW.out
      obtain ⟨fb, rfl, lfb, hrng⟩ := hRw.at hlt
      have hfk := getD_few HF.out hlt
      obtain ⟨y0, hrs⟩ := fact_range hrng
      have hE := HEq.out _ hfk
      have hSm := HSm.out _ hfk
      have hkn : (k : Int) < (l.length : Int) := by omega
      have HY := Lib.hid (HYes.out k HK hlt)
      have hnx : Hid (decide ((l.getD k default).kind = kind ∧ (l.getD k default).args = vs) = false → ∀ j, j < k + 1 → decide ((l.getD j default).kind = kind ∧ (l.getD j default).args = vs) = false) := fun h j hj => by
        rcases Nat.lt_or_ge j k with h1 | h1
        · exact HK.out j h1
        · obtain rfl : j = k := by omega
          exact h
      rw [hSm] at hE
      clear hSm
      have hL1 : (sayL (l.getD k default).kind (l.getD k default).args.length (pad6 (l.getD k default).args)).length = 20 := by rw [sayL_length, pad6_length hfk]
      generalize decide ((l.getD k default).kind = kind ∧ (l.getD k default).args = vs) = bv at *
      generalize sayL (l.getD k default).kind (l.getD k default).args.length (pad6 (l.getD k default).args) = L1 at *
      generalize (l.getD k default).id = fid at *
      have h0 : ∀ W, Below wr.heap.size wr W → W.cell? ⟨rb, 0, none⟩ = some (.slice (some ⟨fb, 0, none⟩) l.length c) ∧ W.rangeAt fb (k * 21 + 1) L1 ∧ W.rangeAt w.heap.size 0 L2 := fun W hW => ⟨(hRw.old hW).next.1, range_old hrs lfb hW, (HBw.out.old hW).range⟩
      have H0 := Lib.hid h0
      have HE := Lib.hid hE
      have HL1 := Lib.hid hL1
      have HOld := Lib.hid (fun W (hW : Below wr.heap.size wr W) => (⟨HW.out.trans (hW.mono HW.out.size), HBw.out.old hW⟩ : Below w.heap.size w W ∧ Box W w.heap.size 64 L2))
      have HY0 := Lib.hid (fun W (hW : Below wr.heap.size wr W) => (⟨(hRw.old hW).next.1, (hW.cell (p := ⟨fb, k * 21, none⟩) lfb).trans y0⟩ : _ ∧ _))
      clear h0 hE hL1 hrs hrng hRw HR HEq HSm HK HYes HNo y0 HF x0
      generalize l.length = n at *
      go_upto_region 4 with fail
      generalize ha0 : ({ tmps := _, defers := _ } : Act) = a0
      have k0 : a0.eval (.tmp 0) = .pointer (some ⟨rb, 0, none⟩) := by rw [← ha0]; rfl
      have k6 : a0.eval (.tmp 6) = .int .i64 (k : Int) := by rw [← ha0]; rfl
      have k3 : a0.eval (.tmp 3) = .pointer (some ⟨w.heap.size, 0, none⟩) := by rw [← ha0]; rfl
      have hsz : a0.tmps.size = 34 := by rw [← ha0]; rfl
      have h0 := H0.out
      have hL1 := HL1.out
      have hL2 := HL2.out
      have hE := HE.out
      refine wp_region_st whoRD (whoRF wr rb fb c n k w.heap.size L1 L2 bv) (whoRJ wr rb fb c n k w.heap.size L1 L2 bv) 10 (by kernel_rfl) (by kernel_rfl) rfl (by kernel_rfl) (by rw [hsz]; kernel_rfl) (below_drew (Below.refl _ _))
          (fun ll aa ww i hi hs nl hw => by
            have h : i = 0 ∨ i = 1 ∨ i = 2 ∨ i = 3 ∨ i = 4 ∨ i = 5 ∨ i = 6 ∨ i = 7 ∨ i = 8 ∨ i = 9 := by omega
            rcases h with rfl | rfl | rfl | rfl | rfl | rfl | rfl | rfl | rfl | rfl
            · exact whoR_s0 _ rb fb c n k _ L1 L2 bv h0 hL1 hL2 hE hlt k0 k6 k3 hs rfl nl 
            · exact whoR_s1 _ rb fb c n k _ L1 L2 bv h0 hL1 hL2 hE hlt k0 k6 k3 hs rfl nl (hw 0 (by kernel_rfl))
            · exact whoR_s2 _ rb fb c n k _ L1 L2 bv h0 hL1 hL2 hE hlt k0 k6 k3 hs rfl nl (hw 1 (by kernel_rfl))
            · exact whoR_s3 _ rb fb c n k _ L1 L2 bv h0 hL1 hL2 hE hlt k0 k6 k3 hs rfl nl (hw 2 (by kernel_rfl))
            · exact whoR_s4 _ rb fb c n k _ L1 L2 bv h0 hL1 hL2 hE hlt k0 k6 k3 hs rfl nl 
            · exact whoR_s5 _ rb fb c n k _ L1 L2 bv h0 hL1 hL2 hE hlt k0 k6 k3 hs rfl nl (hw 3 (by kernel_rfl)) (hw 4 (by kernel_rfl))
            · exact whoR_s6 _ rb fb c n k _ L1 L2 bv h0 hL1 hL2 hE hlt k0 k6 k3 hs rfl nl (hw 5 (by kernel_rfl))
            · exact whoR_s7 _ rb fb c n k _ L1 L2 bv h0 hL1 hL2 hE hlt k0 k6 k3 hs rfl nl (hw 6 (by kernel_rfl))
            · exact whoR_s8 _ rb fb c n k _ L1 L2 bv h0 hL1 hL2 hE hlt k0 k6 k3 hs rfl nl 
            · exact whoR_s9 _ rb fb c n k _ L1 L2 bv h0 hL1 hL2 hE hlt k0 k6 k3 hs rfl nl (hw 7 (by kernel_rfl)) (hw 8 (by kernel_rfl)))
        ?_
      intro ll aa W hall hst
      have hJ := Lib.hid hst.j
      have hfr := frame_end [(15, .pointer (some ⟨rb, 0, none⟩)), (16, .pointer (some ⟨rb, 0, none⟩)), (17, .pointer (some ⟨rb, 0, none⟩)), (18, .slice (some ⟨fb, 0, none⟩) n c), (19, .int .i64 (k : Int)), (20, .pointer (some ⟨fb, k * 21, none⟩)), (21, .pointer (some ⟨fb, k * 21 + 1, none⟩)), (22, .agg L1.toArray), (23, .agg L2.toArray), (24, .bool bv)] aa a0 hst.size hst.defs (by
        intro p hp
        simp only [List.mem_cons, List.not_mem_nil, or_false] at hp
        rcases hp with rfl | rfl | rfl | rfl | rfl | rfl | rfl | rfl | rfl | rfl
        · exact hst.get (i := 0) (by decide) (hall 0 (by decide)) rfl
        · exact hst.get (i := 1) (by decide) (hall 1 (by decide)) rfl
        · exact hst.get (i := 2) (by decide) (hall 2 (by decide)) rfl
        · exact hst.get (i := 3) (by decide) (hall 3 (by decide)) rfl
        · exact hst.get (i := 4) (by decide) (hall 4 (by decide)) rfl
        · exact hst.get (i := 5) (by decide) (hall 5 (by decide)) rfl
        · exact hst.get (i := 6) (by decide) (hall 6 (by decide)) rfl
        · exact hst.get (i := 7) (by decide) (hall 7 (by decide)) rfl
        · exact hst.get (i := 8) (by decide) (hall 8 (by decide)) rfl
        · exact hst.get (i := 9) (by decide) (hall 9 (by decide)) rfl
        ) (fun t ht => hst.kept t (fun i hi => by
          have h : i = 0 ∨ i = 1 ∨ i = 2 ∨ i = 3 ∨ i = 4 ∨ i = 5 ∨ i = 6 ∨ i = 7 ∨ i = 8 ∨ i = 9 := by omega
          rcases h with rfl | rfl | rfl | rfl | rfl | rfl | rfl | rfl | rfl | rfl
          · exact fun e => ht (by have e1 := Option.some.inj e; subst e1; simp)
          · exact fun e => ht (by have e1 := Option.some.inj e; subst e1; simp)
          · exact fun e => ht (by have e1 := Option.some.inj e; subst e1; simp)
          · exact fun e => ht (by have e1 := Option.some.inj e; subst e1; simp)
          · exact fun e => ht (by have e1 := Option.some.inj e; subst e1; simp)
          · exact fun e => ht (by have e1 := Option.some.inj e; subst e1; simp)
          · exact fun e => ht (by have e1 := Option.some.inj e; subst e1; simp)
          · exact fun e => ht (by have e1 := Option.some.inj e; subst e1; simp)
          · exact fun e => ht (by have e1 := Option.some.inj e; subst e1; simp)
          · exact fun e => ht (by have e1 := Option.some.inj e; subst e1; simp)))
      rw [hfr, ← ha0]
      clear hfr
      simp only [List.foldl_cons, List.foldl_nil, Act.put, List.setIfInBounds_toArray, List.set_cons_succ, List.set_cons_zero]
      clear hst hall h0 hL1 hL2 hE k0 k6 k3 hsz ha0 H0 HE HL1 HL2
      obtain ⟨z0, z1⟩ := HY0.out W hJ.out
      have HO := Lib.hid (HOld.out W hJ.out)
      clear HY0 HOld hJ HW HBw HB HB2 lfb hfk
      cases bv with
      | true =>
        clear hnx
        have HR1 := HY.out rfl
        clear HY
        go_wp2_with fail
        go_ret2
        exact ⟨by rw [HR1.out]; rfl, HO.out.1⟩
      | false =>
        have HN := Lib.hid (hnx.out rfl)
        have HO1 := Lib.hid HO.out.1
        have HO2 := Lib.hid HO.out.2
        clear hnx HY HO z0 z1
        go_wp2_with fail
        go_roundw
        case rel => exact ⟨k + 1, by omega, by go_num, HO1, HO2, HN⟩
        case measure => simp [intOf]; omega
    · obtain rfl : k = l.length := by omega
      have HR1 := HNo.out _ HK rfl
      have HW1 := HW
      clear HR HEq HSm HK HYes HNo HF x0 HB HB2 HBw HW
      go_wp2_with fail
      go_ret2
      exact ⟨by rw [HR1.out]; rfl, HW1.out⟩
end Go.Proofs.Ytajhngkdnkbfcaa
