/- tell: a fact, its values in new memory. -/
import Derived.Test.YtajhngkdnkbfcaaGreg11
namespace Go.Proofs.Ytajhngkdnkbfcaa
open Go.RowKit

/-- A fact: its number, its type, its values. -/
structure F11 where
  id : Int
  kind : Int
  args : List V3
/-- Its cells, as they stand in the row. -/
def factL (f : F11) : List Value := .int .i64 f.id :: sayL f.kind f.args.length (pad6 f.args)
theorem factL_length (f : F11) (h : f.args.length ≤ 6) : (factL f).length = 21 := by
  unfold factL
  rw [List.length_cons, sayL_length, pad6_length h]
theorem factL_one (f : F11) : ∀ u ∈ factL f, u.oneCell' = true := by
  intro u hu
  unfold factL at hu
  rcases List.mem_cons.1 hu with rfl | h
  · rfl
  · exact sayL_one _ _ _ u h
/-- A function whose result stands in a cell. -/
theorem box_end {F : Func} {Q : Ending → World → Prop} {a : Act} {W : World} {g s1 : Nat} {T : TypeId} {L : List Value} {d : TypeDesc} (hr : F.results = #[ResultVar.cell s1 T]) (hp : a.tmps[s1]?.getD undef = .pointer (some ⟨g, 0, none⟩)) (hd : a.defers = []) (h : Box W g T L) (hu : Try.prog.underlying T = some d) (hdr : d.isRow = true) (hi : (Try.prog.info? T).map (·.size) = some L.length)
    (hQ : Q (.returned (.agg L.toArray)) W) : bodyPost Try.prog F Q .ret a W := by
  have hrun := run_loadVar_mid (P := Try.prog) W g 0 T L _ h.range hu hdr hi
  refine bodyPost_ret (v := .agg L.toArray) ?_ hd hQ
  simp [results, hr, hp, asAddr, hrun]
theorem box_end2 {F : Func} {Q : Ending → World → Prop} {a : Act} {W : World} {g s1 s2 : Nat} {T : TypeId} {L : List Value} {d : TypeDesc} {v2 : Value} (hr : F.results = #[ResultVar.cell s1 T, .tmp s2]) (hp : a.tmps[s1]?.getD undef = .pointer (some ⟨g, 0, none⟩)) (he : a.tmps[s2]?.getD undef = v2) (hd : a.defers = []) (h : Box W g T L) (hu : Try.prog.underlying T = some d) (hdr : d.isRow = true) (hi : (Try.prog.info? T).map (·.size) = some L.length)
    (hQ : Q (.returned (.tuple #[.agg L.toArray, v2])) W) : bodyPost Try.prog F Q .ret a W := by
  have hrun := run_loadVar_mid (P := Try.prog) W g 0 T L _ h.range hu hdr hi
  refine bodyPost_ret (v := .tuple #[.agg L.toArray, v2]) ?_ hd hQ
  simp [results, hr, hp, he, asAddr, hrun]
theorem infoFact3 {a b c : Value} : (Try.prog.info? 37).map (·.size) = some ([a, b, c] : List Value).length := by
  show _ = some 3
  kernel_rfl
theorem setL_no {l : Nat → Bool} {i j : Nat} (h : setL l i j = false) : l j = false := by
  unfold setL at h
  split at h
  · cases h
  · exact h
def tellRD (i : Nat) : Option Nat := ([some 3, some 4, some 5, some 6, some 7, some 8, some 9, some 10, some 11, none] : List (Option Nat)).getD i none
set_option linter.unusedVariables false in
def tellRF (w0 : World) (id kind : Int) (n : Nat) (cv L FL : List Value) (l : Nat → Bool) (i : Nat) (w : World) (v : Value) : Prop :=
  match i with
  | 0 => v = .pointer (some ⟨w0.heap.size, 0, none⟩)
  | 1 => v = .int .i64 id
  | 2 => v = .pointer (some ⟨w0.heap.size, 1, none⟩)
  | 3 => v = .pointer (some ⟨w0.heap.size, 1, none⟩)
  | 4 => v = .int .i64 kind
  | 5 => v = .pointer (some ⟨w0.heap.size, 1, none⟩)
  | 6 => v = .agg L.toArray
  | 7 => ∃ ao c, v = .slice ao n c ∧ w.ownsRow w0.heap.size 33 3 (.slice ao n c) n cv
  | 8 => ∃ ao c, v = .agg #[.int .i64 id, .int .i64 kind, .slice ao n c] ∧ w.ownsRow w0.heap.size 33 3 (.slice ao n c) n cv
  | 9 => ∃ ao c, Box w (w0.heap.size + 1) 37 [.int .i64 id, .int .i64 kind, .slice ao n c] ∧ w.ownsRow w0.heap.size 33 3 (.slice ao n c) n cv
  | _ => True
set_option linter.unusedVariables false in
def tellRJ (w0 : World) (id kind : Int) (n : Nat) (cv L FL : List Value) (l : Nat → Bool) (w : World) : Prop := Below w0.heap.size w0 w ∧ Box w w0.heap.size 71 FL ∧ (l 9 = false → Box w (w0.heap.size + 1) 37 [.int .i64 0, .int .i64 0, .slice none 0 0])
set_option linter.unusedVariables false in
theorem tellR_mild (w0 : World) (id kind : Int) (n : Nat) (cv L FL : List Value) : Mild (tellRF w0 id kind n cv L FL) (tellRJ w0 id kind n cv L FL) := by
  refine ⟨fun l i j w w' v hb h => ?_, fun l i w w' hb h => ?_⟩
  · match j with
    | 0 => exact h
    | 1 => exact h
    | 2 => exact h
    | 3 => exact h
    | 4 => exact h
    | 5 => exact h
    | 6 => exact h
    | 7 => obtain ⟨ao, c, h1, h2⟩ := h; exact ⟨ao, c, h1, owns_below h2 hb⟩
    | 8 => obtain ⟨ao, c, h1, h2⟩ := h; exact ⟨ao, c, h1, owns_below h2 hb⟩
    | 9 => obtain ⟨ao, c, h1, h2⟩ := h; exact ⟨ao, c, h1.old hb, owns_below h2 hb⟩
    | k + 10 => trivial
  · exact ⟨h.1.trans (hb.mono h.1.size), h.2.1.old hb, fun e => (h.2.2 (setL_no e)).old hb⟩
set_option linter.unusedVariables false in
theorem tellR_s0 (w0 : World) (id kind : Int) (n : Nat) (cv L FL : List Value) {ops : Array Oper} {Q : Exit → Act → World → Prop} {a0 a : Act} {w : World} {l : Nat → Bool} {ty : TypeId} {pos : String} {after : Array Edge} (h0 : ∀ W, Box W w0.heap.size 71 FL → W.cell? ⟨w0.heap.size, 0, none⟩ = some (.int .i64 id) ∧ W.cell? ⟨w0.heap.size, 1, none⟩ = some (.int .i64 kind) ∧ W.rangeAt w0.heap.size 1 L) (hL : L.length = 20) (hA : ∀ W, Calls Try.prog 39 #[.agg L.toArray] W fun e w' => ∃ ao c, e = .returned (.slice ao n c) ∧ w'.ownsRow W.heap.size 33 3 (.slice ao n c) n cv ∧ Below W.heap.size W w') (k1 : a0.eval (.tmp 1) = .pointer (some ⟨w0.heap.size, 0, none⟩)) (k2 : a0.eval (.tmp 2) = .pointer (some ⟨w0.heap.size + 1, 0, none⟩)) (hs : St ops tellRD (tellRF w0 id kind n cv L FL) (tellRJ w0 id kind n cv L FL) 10 a0 l a w) (hi : ops[0]? = some { dst := some 3, op := Op.fieldAddr 71 (Operand.tmp 1) 0, type := ty, pos := pos, after := after, guard := none }) (nl : l 0 = false)  : wpOp Try.prog ops Q 0 (Did tellRD (tellRF w0 id kind n cv L FL) (tellRJ w0 id kind n cv L FL) 10 l 0 a) a w := by
  have e1 : a.eval (.tmp 1) = .pointer (some ⟨w0.heap.size, 0, none⟩) := (hs.kept 1 (by decide)).trans (k1)
  have hK := did (tellR_mild w0 id kind n cv L FL) hs (v := .pointer (some ⟨w0.heap.size, 0, none⟩)) (d := 3) (i := 0) rfl (Below.refl _ w) rfl
  refine wpOp_go hi rfl ?_
  unfold Oper.wp
  have KK := Lib.hid hK
  clear hK hi
  have c0 := (h0 w hs.j.2.1).1
  have c1 := (h0 w hs.j.2.1).2.1
  generalize a.eval = ρ at *
  go_simp
  exact KK.out
set_option linter.unusedVariables false in
theorem tellR_s1 (w0 : World) (id kind : Int) (n : Nat) (cv L FL : List Value) {ops : Array Oper} {Q : Exit → Act → World → Prop} {a0 a : Act} {w : World} {l : Nat → Bool} {ty : TypeId} {pos : String} {after : Array Edge} (h0 : ∀ W, Box W w0.heap.size 71 FL → W.cell? ⟨w0.heap.size, 0, none⟩ = some (.int .i64 id) ∧ W.cell? ⟨w0.heap.size, 1, none⟩ = some (.int .i64 kind) ∧ W.rangeAt w0.heap.size 1 L) (hL : L.length = 20) (hA : ∀ W, Calls Try.prog 39 #[.agg L.toArray] W fun e w' => ∃ ao c, e = .returned (.slice ao n c) ∧ w'.ownsRow W.heap.size 33 3 (.slice ao n c) n cv ∧ Below W.heap.size W w') (k1 : a0.eval (.tmp 1) = .pointer (some ⟨w0.heap.size, 0, none⟩)) (k2 : a0.eval (.tmp 2) = .pointer (some ⟨w0.heap.size + 1, 0, none⟩)) (hs : St ops tellRD (tellRF w0 id kind n cv L FL) (tellRJ w0 id kind n cv L FL) 10 a0 l a w) (hi : ops[1]? = some { dst := some 4, op := Op.load 3 (Operand.tmp 3), type := ty, pos := pos, after := after, guard := none }) (nl : l 1 = false) (q0 : l 0 = true) : wpOp Try.prog ops Q 1 (Did tellRD (tellRF w0 id kind n cv L FL) (tellRJ w0 id kind n cv L FL) 10 l 1 a) a w := by
  have e3 : tellRF w0 id kind n cv L FL l 0 w (a.eval (.tmp 3)) := hs.get (by decide) q0 rfl
  have e3 : a.eval (.tmp 3) = .pointer (some ⟨w0.heap.size, 0, none⟩) := e3
  have hK := did (tellR_mild w0 id kind n cv L FL) hs (v := .int .i64 id) (d := 4) (i := 1) rfl (Below.refl _ w) rfl
  refine wpOp_go hi rfl ?_
  unfold Oper.wp
  have KK := Lib.hid hK
  clear hK hi
  have c0 := (h0 w hs.j.2.1).1
  have c1 := (h0 w hs.j.2.1).2.1
  generalize a.eval = ρ at *
  go_simp
  exact KK.out
set_option linter.unusedVariables false in
theorem tellR_s2 (w0 : World) (id kind : Int) (n : Nat) (cv L FL : List Value) {ops : Array Oper} {Q : Exit → Act → World → Prop} {a0 a : Act} {w : World} {l : Nat → Bool} {ty : TypeId} {pos : String} {after : Array Edge} (h0 : ∀ W, Box W w0.heap.size 71 FL → W.cell? ⟨w0.heap.size, 0, none⟩ = some (.int .i64 id) ∧ W.cell? ⟨w0.heap.size, 1, none⟩ = some (.int .i64 kind) ∧ W.rangeAt w0.heap.size 1 L) (hL : L.length = 20) (hA : ∀ W, Calls Try.prog 39 #[.agg L.toArray] W fun e w' => ∃ ao c, e = .returned (.slice ao n c) ∧ w'.ownsRow W.heap.size 33 3 (.slice ao n c) n cv ∧ Below W.heap.size W w') (k1 : a0.eval (.tmp 1) = .pointer (some ⟨w0.heap.size, 0, none⟩)) (k2 : a0.eval (.tmp 2) = .pointer (some ⟨w0.heap.size + 1, 0, none⟩)) (hs : St ops tellRD (tellRF w0 id kind n cv L FL) (tellRJ w0 id kind n cv L FL) 10 a0 l a w) (hi : ops[2]? = some { dst := some 5, op := Op.fieldAddr 71 (Operand.tmp 1) 1, type := ty, pos := pos, after := after, guard := none }) (nl : l 2 = false)  : wpOp Try.prog ops Q 2 (Did tellRD (tellRF w0 id kind n cv L FL) (tellRJ w0 id kind n cv L FL) 10 l 2 a) a w := by
  have e1 : a.eval (.tmp 1) = .pointer (some ⟨w0.heap.size, 0, none⟩) := (hs.kept 1 (by decide)).trans (k1)
  have hK := did (tellR_mild w0 id kind n cv L FL) hs (v := .pointer (some ⟨w0.heap.size, 1, none⟩)) (d := 5) (i := 2) rfl (Below.refl _ w) rfl
  refine wpOp_go hi rfl ?_
  unfold Oper.wp
  have KK := Lib.hid hK
  clear hK hi
  have c0 := (h0 w hs.j.2.1).1
  have c1 := (h0 w hs.j.2.1).2.1
  generalize a.eval = ρ at *
  go_simp
  exact KK.out
set_option linter.unusedVariables false in
theorem tellR_s3 (w0 : World) (id kind : Int) (n : Nat) (cv L FL : List Value) {ops : Array Oper} {Q : Exit → Act → World → Prop} {a0 a : Act} {w : World} {l : Nat → Bool} {ty : TypeId} {pos : String} {after : Array Edge} (h0 : ∀ W, Box W w0.heap.size 71 FL → W.cell? ⟨w0.heap.size, 0, none⟩ = some (.int .i64 id) ∧ W.cell? ⟨w0.heap.size, 1, none⟩ = some (.int .i64 kind) ∧ W.rangeAt w0.heap.size 1 L) (hL : L.length = 20) (hA : ∀ W, Calls Try.prog 39 #[.agg L.toArray] W fun e w' => ∃ ao c, e = .returned (.slice ao n c) ∧ w'.ownsRow W.heap.size 33 3 (.slice ao n c) n cv ∧ Below W.heap.size W w') (k1 : a0.eval (.tmp 1) = .pointer (some ⟨w0.heap.size, 0, none⟩)) (k2 : a0.eval (.tmp 2) = .pointer (some ⟨w0.heap.size + 1, 0, none⟩)) (hs : St ops tellRD (tellRF w0 id kind n cv L FL) (tellRJ w0 id kind n cv L FL) 10 a0 l a w) (hi : ops[3]? = some { dst := some 6, op := Op.fieldAddr 64 (Operand.tmp 5) 0, type := ty, pos := pos, after := after, guard := none }) (nl : l 3 = false) (q2 : l 2 = true) : wpOp Try.prog ops Q 3 (Did tellRD (tellRF w0 id kind n cv L FL) (tellRJ w0 id kind n cv L FL) 10 l 3 a) a w := by
  have e5 : tellRF w0 id kind n cv L FL l 2 w (a.eval (.tmp 5)) := hs.get (by decide) q2 rfl
  have e5 : a.eval (.tmp 5) = .pointer (some ⟨w0.heap.size, 1, none⟩) := e5
  have hK := did (tellR_mild w0 id kind n cv L FL) hs (v := .pointer (some ⟨w0.heap.size, 1, none⟩)) (d := 6) (i := 3) rfl (Below.refl _ w) rfl
  refine wpOp_go hi rfl ?_
  unfold Oper.wp
  have KK := Lib.hid hK
  clear hK hi
  have c0 := (h0 w hs.j.2.1).1
  have c1 := (h0 w hs.j.2.1).2.1
  generalize a.eval = ρ at *
  go_simp
  exact KK.out
set_option linter.unusedVariables false in
theorem tellR_s4 (w0 : World) (id kind : Int) (n : Nat) (cv L FL : List Value) {ops : Array Oper} {Q : Exit → Act → World → Prop} {a0 a : Act} {w : World} {l : Nat → Bool} {ty : TypeId} {pos : String} {after : Array Edge} (h0 : ∀ W, Box W w0.heap.size 71 FL → W.cell? ⟨w0.heap.size, 0, none⟩ = some (.int .i64 id) ∧ W.cell? ⟨w0.heap.size, 1, none⟩ = some (.int .i64 kind) ∧ W.rangeAt w0.heap.size 1 L) (hL : L.length = 20) (hA : ∀ W, Calls Try.prog 39 #[.agg L.toArray] W fun e w' => ∃ ao c, e = .returned (.slice ao n c) ∧ w'.ownsRow W.heap.size 33 3 (.slice ao n c) n cv ∧ Below W.heap.size W w') (k1 : a0.eval (.tmp 1) = .pointer (some ⟨w0.heap.size, 0, none⟩)) (k2 : a0.eval (.tmp 2) = .pointer (some ⟨w0.heap.size + 1, 0, none⟩)) (hs : St ops tellRD (tellRF w0 id kind n cv L FL) (tellRJ w0 id kind n cv L FL) 10 a0 l a w) (hi : ops[4]? = some { dst := some 7, op := Op.load 3 (Operand.tmp 6), type := ty, pos := pos, after := after, guard := none }) (nl : l 4 = false) (q3 : l 3 = true) : wpOp Try.prog ops Q 4 (Did tellRD (tellRF w0 id kind n cv L FL) (tellRJ w0 id kind n cv L FL) 10 l 4 a) a w := by
  have e6 : tellRF w0 id kind n cv L FL l 3 w (a.eval (.tmp 6)) := hs.get (by decide) q3 rfl
  have e6 : a.eval (.tmp 6) = .pointer (some ⟨w0.heap.size, 1, none⟩) := e6
  have hK := did (tellR_mild w0 id kind n cv L FL) hs (v := .int .i64 kind) (d := 7) (i := 4) rfl (Below.refl _ w) rfl
  refine wpOp_go hi rfl ?_
  unfold Oper.wp
  have KK := Lib.hid hK
  clear hK hi
  have c0 := (h0 w hs.j.2.1).1
  have c1 := (h0 w hs.j.2.1).2.1
  generalize a.eval = ρ at *
  go_simp
  exact KK.out
set_option linter.unusedVariables false in
theorem tellR_s5 (w0 : World) (id kind : Int) (n : Nat) (cv L FL : List Value) {ops : Array Oper} {Q : Exit → Act → World → Prop} {a0 a : Act} {w : World} {l : Nat → Bool} {ty : TypeId} {pos : String} {after : Array Edge} (h0 : ∀ W, Box W w0.heap.size 71 FL → W.cell? ⟨w0.heap.size, 0, none⟩ = some (.int .i64 id) ∧ W.cell? ⟨w0.heap.size, 1, none⟩ = some (.int .i64 kind) ∧ W.rangeAt w0.heap.size 1 L) (hL : L.length = 20) (hA : ∀ W, Calls Try.prog 39 #[.agg L.toArray] W fun e w' => ∃ ao c, e = .returned (.slice ao n c) ∧ w'.ownsRow W.heap.size 33 3 (.slice ao n c) n cv ∧ Below W.heap.size W w') (k1 : a0.eval (.tmp 1) = .pointer (some ⟨w0.heap.size, 0, none⟩)) (k2 : a0.eval (.tmp 2) = .pointer (some ⟨w0.heap.size + 1, 0, none⟩)) (hs : St ops tellRD (tellRF w0 id kind n cv L FL) (tellRJ w0 id kind n cv L FL) 10 a0 l a w) (hi : ops[5]? = some { dst := some 8, op := Op.fieldAddr 71 (Operand.tmp 1) 1, type := ty, pos := pos, after := after, guard := none }) (nl : l 5 = false)  : wpOp Try.prog ops Q 5 (Did tellRD (tellRF w0 id kind n cv L FL) (tellRJ w0 id kind n cv L FL) 10 l 5 a) a w := by
  have e1 : a.eval (.tmp 1) = .pointer (some ⟨w0.heap.size, 0, none⟩) := (hs.kept 1 (by decide)).trans (k1)
  have hK := did (tellR_mild w0 id kind n cv L FL) hs (v := .pointer (some ⟨w0.heap.size, 1, none⟩)) (d := 8) (i := 5) rfl (Below.refl _ w) rfl
  refine wpOp_go hi rfl ?_
  unfold Oper.wp
  have KK := Lib.hid hK
  clear hK hi
  have c0 := (h0 w hs.j.2.1).1
  have c1 := (h0 w hs.j.2.1).2.1
  generalize a.eval = ρ at *
  go_simp
  exact KK.out
set_option linter.unusedVariables false in
theorem tellR_s6 (w0 : World) (id kind : Int) (n : Nat) (cv L FL : List Value) {ops : Array Oper} {Q : Exit → Act → World → Prop} {a0 a : Act} {w : World} {l : Nat → Bool} {ty : TypeId} {pos : String} {after : Array Edge} (h0 : ∀ W, Box W w0.heap.size 71 FL → W.cell? ⟨w0.heap.size, 0, none⟩ = some (.int .i64 id) ∧ W.cell? ⟨w0.heap.size, 1, none⟩ = some (.int .i64 kind) ∧ W.rangeAt w0.heap.size 1 L) (hL : L.length = 20) (hA : ∀ W, Calls Try.prog 39 #[.agg L.toArray] W fun e w' => ∃ ao c, e = .returned (.slice ao n c) ∧ w'.ownsRow W.heap.size 33 3 (.slice ao n c) n cv ∧ Below W.heap.size W w') (k1 : a0.eval (.tmp 1) = .pointer (some ⟨w0.heap.size, 0, none⟩)) (k2 : a0.eval (.tmp 2) = .pointer (some ⟨w0.heap.size + 1, 0, none⟩)) (hs : St ops tellRD (tellRF w0 id kind n cv L FL) (tellRJ w0 id kind n cv L FL) 10 a0 l a w) (hi : ops[6]? = some { dst := some 9, op := Op.load 64 (Operand.tmp 8), type := ty, pos := pos, after := after, guard := none }) (nl : l 6 = false) (q5 : l 5 = true) : wpOp Try.prog ops Q 6 (Did tellRD (tellRF w0 id kind n cv L FL) (tellRJ w0 id kind n cv L FL) 10 l 6 a) a w := by
  have e8 : tellRF w0 id kind n cv L FL l 5 w (a.eval (.tmp 8)) := hs.get (by decide) q5 rfl
  exact wpOp_load hi e8 (h0 w hs.j.2.1).2.2 Try.underlying64 rfl (say_infoL hL) (did (tellR_mild w0 id kind n cv L FL) hs (d := 9) (i := 6) rfl (Below.refl _ w) rfl)
set_option linter.unusedVariables false in
theorem tellR_s7 (w0 : World) (id kind : Int) (n : Nat) (cv L FL : List Value) {ops : Array Oper} {Q : Exit → Act → World → Prop} {a0 a : Act} {w : World} {l : Nat → Bool} {ty : TypeId} {pos : String} {after : Array Edge} (h0 : ∀ W, Box W w0.heap.size 71 FL → W.cell? ⟨w0.heap.size, 0, none⟩ = some (.int .i64 id) ∧ W.cell? ⟨w0.heap.size, 1, none⟩ = some (.int .i64 kind) ∧ W.rangeAt w0.heap.size 1 L) (hL : L.length = 20) (hA : ∀ W, Calls Try.prog 39 #[.agg L.toArray] W fun e w' => ∃ ao c, e = .returned (.slice ao n c) ∧ w'.ownsRow W.heap.size 33 3 (.slice ao n c) n cv ∧ Below W.heap.size W w') (k1 : a0.eval (.tmp 1) = .pointer (some ⟨w0.heap.size, 0, none⟩)) (k2 : a0.eval (.tmp 2) = .pointer (some ⟨w0.heap.size + 1, 0, none⟩)) (hs : St ops tellRD (tellRF w0 id kind n cv L FL) (tellRJ w0 id kind n cv L FL) 10 a0 l a w) (hi : ops[7]? = some { dst := some 10, op := Op.call { callee := Callee.value (Operand.func 39), args := #[Operand.tmp 9], argTypes := #[64] }, type := ty, pos := pos, after := after, guard := none }) (nl : l 7 = false) (q6 : l 6 = true) : wpOp Try.prog ops Q 7 (Did tellRD (tellRF w0 id kind n cv L FL) (tellRJ w0 id kind n cv L FL) 10 l 7 a) a w := by
  have e9 : tellRF w0 id kind n cv L FL l 6 w (a.eval (.tmp 9)) := hs.get (by decide) q6 rfl
  have e9' : a.eval (.tmp 9) = .agg L.toArray := e9
  refine wpOp_call (vs := #[.agg L.toArray]) hi (enters_of Try.func39 (by kernel_rfl) rfl) (by simp [e9']) ?_
  refine (hA w).mono ?_
  rintro e w' ⟨ao, c, rfl, ho, hb⟩
  exact ⟨_, rfl, did (tellR_mild w0 id kind n cv L FL) hs (d := 10) (i := 7) rfl hb ⟨ao, c, rfl, owns_mono ho hs.j.1.size⟩⟩
set_option linter.unusedVariables false in
theorem tellR_s8 (w0 : World) (id kind : Int) (n : Nat) (cv L FL : List Value) {ops : Array Oper} {Q : Exit → Act → World → Prop} {a0 a : Act} {w : World} {l : Nat → Bool} {ty : TypeId} {pos : String} {after : Array Edge} (h0 : ∀ W, Box W w0.heap.size 71 FL → W.cell? ⟨w0.heap.size, 0, none⟩ = some (.int .i64 id) ∧ W.cell? ⟨w0.heap.size, 1, none⟩ = some (.int .i64 kind) ∧ W.rangeAt w0.heap.size 1 L) (hL : L.length = 20) (hA : ∀ W, Calls Try.prog 39 #[.agg L.toArray] W fun e w' => ∃ ao c, e = .returned (.slice ao n c) ∧ w'.ownsRow W.heap.size 33 3 (.slice ao n c) n cv ∧ Below W.heap.size W w') (k1 : a0.eval (.tmp 1) = .pointer (some ⟨w0.heap.size, 0, none⟩)) (k2 : a0.eval (.tmp 2) = .pointer (some ⟨w0.heap.size + 1, 0, none⟩)) (hs : St ops tellRD (tellRF w0 id kind n cv L FL) (tellRJ w0 id kind n cv L FL) 10 a0 l a w) (hi : ops[8]? = some { dst := some 11, op := Op.build 37 #[(0, Operand.tmp 4), (1, Operand.tmp 7), (2, Operand.tmp 10)], type := ty, pos := pos, after := after, guard := none }) (nl : l 8 = false) (q1 : l 1 = true) (q4 : l 4 = true) (q7 : l 7 = true) : wpOp Try.prog ops Q 8 (Did tellRD (tellRF w0 id kind n cv L FL) (tellRJ w0 id kind n cv L FL) 10 l 8 a) a w := by
  have e4 : tellRF w0 id kind n cv L FL l 1 w (a.eval (.tmp 4)) := hs.get (by decide) q1 rfl
  have e7 : tellRF w0 id kind n cv L FL l 4 w (a.eval (.tmp 7)) := hs.get (by decide) q4 rfl
  have e10 : tellRF w0 id kind n cv L FL l 7 w (a.eval (.tmp 10)) := hs.get (by decide) q7 rfl
  obtain ⟨ao, c, e10, ho⟩ := e10
  have e4' : a.eval (.tmp 4) = .int .i64 id := e4
  have e7' : a.eval (.tmp 7) = .int .i64 kind := e7
  have hK := did (v := .agg #[.int .i64 id, .int .i64 kind, .slice ao n c]) (tellR_mild w0 id kind n cv L FL) hs (d := 11) (i := 8) rfl (Below.refl _ w) ⟨ao, c, rfl, ho⟩
  refine wpOp_go hi rfl ?_
  unfold Oper.wp
  have KK := Lib.hid hK
  clear hK hi e4 e7
  generalize a.eval = ρ at *
  go_simp
  exact KK.out
set_option linter.unusedVariables false in
theorem tellR_s9 (w0 : World) (id kind : Int) (n : Nat) (cv L FL : List Value) {ops : Array Oper} {Q : Exit → Act → World → Prop} {a0 a : Act} {w : World} {l : Nat → Bool} {ty : TypeId} {pos : String} {after : Array Edge} (h0 : ∀ W, Box W w0.heap.size 71 FL → W.cell? ⟨w0.heap.size, 0, none⟩ = some (.int .i64 id) ∧ W.cell? ⟨w0.heap.size, 1, none⟩ = some (.int .i64 kind) ∧ W.rangeAt w0.heap.size 1 L) (hL : L.length = 20) (hA : ∀ W, Calls Try.prog 39 #[.agg L.toArray] W fun e w' => ∃ ao c, e = .returned (.slice ao n c) ∧ w'.ownsRow W.heap.size 33 3 (.slice ao n c) n cv ∧ Below W.heap.size W w') (k1 : a0.eval (.tmp 1) = .pointer (some ⟨w0.heap.size, 0, none⟩)) (k2 : a0.eval (.tmp 2) = .pointer (some ⟨w0.heap.size + 1, 0, none⟩)) (hs : St ops tellRD (tellRF w0 id kind n cv L FL) (tellRJ w0 id kind n cv L FL) 10 a0 l a w) (hi : ops[9]? = some { dst := none, op := Op.store 37 (Operand.tmp 2) (Operand.tmp 11), type := ty, pos := pos, after := after, guard := none }) (nl : l 9 = false) (q0 : l 0 = true) (q1 : l 1 = true) (q2 : l 2 = true) (q3 : l 3 = true) (q4 : l 4 = true) (q5 : l 5 = true) (q6 : l 6 = true) (q7 : l 7 = true) (q8 : l 8 = true) : wpOp Try.prog ops Q 9 (Did tellRD (tellRF w0 id kind n cv L FL) (tellRJ w0 id kind n cv L FL) 10 l 9 a) a w := by
  have e2 : a.eval (.tmp 2) = .pointer (some ⟨w0.heap.size + 1, 0, none⟩) := (hs.kept 2 (by decide)).trans (k2)
  have e11 : tellRF w0 id kind n cv L FL l 8 w (a.eval (.tmp 11)) := hs.get (by decide) q8 rfl
  obtain ⟨ao, c, e11, ho⟩ := e11
  have hB := hs.j.2.2 nl
  refine wpOp_store (cells := #[.int .i64 id, .int .i64 kind, .slice ao n c]) hi e2 e11 (hB.there 0 3 (by decide)) infoFact3 (all_oneCell_toArray (cs := [.int .i64 id, .int .i64 kind, .slice ao n c]) (by intro u hu; simp at hu; rcases hu with rfl | rfl | rfl <;> rfl)) ?_
  have g1 := grownBy_setCells (w0.heap.size + 1) [.int .i64 id, .int .i64 kind, .slice ao n c] 0 w
  have b2 := hB.setAll [.int .i64 id, .int .i64 kind, .slice ao n c] rfl
  have hf : ∀ {ao' c'}, w.ownsRow w0.heap.size 33 3 (.slice ao' n c') n cv → (w.setCells (w0.heap.size + 1) 0 [.int .i64 id, .int .i64 kind, .slice ao n c]).ownsRow w0.heap.size 33 3 (.slice ao' n c') n cv := fun h => owns_far (e' := 37) h (by decide) g1 (fun k hk => by obtain rfl := Option.some.inj hk; exact ⟨_, _, hB⟩)
  refine ⟨undef, rfl, ⟨hs.j.1.grown g1 hs.j.1.size (fun k hk => by obtain rfl := Option.some.inj hk; exact Nat.le_succ _), hs.j.2.1.far g1 (fun e => by have := Option.some.inj e; omega), fun e => by exact absurd e (by simp [setL])⟩, fun j hj hl => ?_, ⟨ao, c, b2, hf ho⟩⟩
  match j, hj with
  | 0, _ => exact hs.get (i := 0) (by decide) hl rfl
  | 1, _ => exact hs.get (i := 1) (by decide) hl rfl
  | 2, _ => exact hs.get (i := 2) (by decide) hl rfl
  | 3, _ => exact hs.get (i := 3) (by decide) hl rfl
  | 4, _ => exact hs.get (i := 4) (by decide) hl rfl
  | 5, _ => exact hs.get (i := 5) (by decide) hl rfl
  | 6, _ => exact hs.get (i := 6) (by decide) hl rfl
  | 7, _ => obtain ⟨ao', c', h1, h2⟩ := hs.get (i := 7) (by decide) hl rfl; exact ⟨ao', c', h1, hf h2⟩
  | 8, _ => obtain ⟨ao', c', h1, h2⟩ := hs.get (i := 8) (by decide) hl rfl; exact ⟨ao', c', h1, hf h2⟩
  | 9, _ => rw [nl] at hl; cases hl
/-- A fact that was told: its values a row of their own. -/
def TellP (f : F11) (w : World) (e : Ending) (w' : World) : Prop := ∃ ao c, e = .returned (.agg #[.int .i64 f.id, .int .i64 f.kind, .slice ao f.args.length c]) ∧ w'.ownsRow w.heap.size 33 3 (.slice ao f.args.length c) f.args.length (cellsV f.args) ∧ Below w.heap.size w w'
set_option maxRecDepth 100000 in
set_option maxHeartbeats 4000000 in
theorem tell_any (f : F11) (h6 : f.args.length ≤ 6) (hx : ∀ v ∈ f.args, v.2.2.size ≤ 281474976710656) (w : World) :
    Calls Try.prog 30 #[.agg (factL f).toArray] w (TellP f w) := by
  obtain ⟨id, kind, vs⟩ := f
  simp only at h6 hx
  have HA := Lib.hid (fun W => args_any kind vs h6 hx W)
  have hb1 : Box ((w.alloc (.cells (factL ⟨id, kind, vs⟩).toArray 71)).alloc (.cells ([.int .i64 0, .int .i64 0, .slice none 0 0] : List Value).toArray 37)) w.heap.size 71 (factL ⟨id, kind, vs⟩) := (Box.new _ _ _).keep _
  have hb2 : Box ((w.alloc (.cells (factL ⟨id, kind, vs⟩).toArray 71)).alloc (.cells ([.int .i64 0, .int .i64 0, .slice none 0 0] : List Value).toArray 37)) (w.heap.size + 1) 37 [.int .i64 0, .int .i64 0, .slice none 0 0] := alloc_at (by simp) _
  have hbl : Below w.heap.size w ((w.alloc (.cells (factL ⟨id, kind, vs⟩).toArray 71)).alloc (.cells ([.int .i64 0, .int .i64 0, .slice none 0 0] : List Value).toArray 37)) := below_new (below_own _) _
  have HLn : Hid ((sayL kind vs.length (pad6 vs)).length = 20) := by show _ = _; rw [sayL_length, pad6_length h6]
  have hR : ∀ W, Box W w.heap.size 71 (factL ⟨id, kind, vs⟩) → W.cell? ⟨w.heap.size, 0, none⟩ = some (.int .i64 id) ∧ W.cell? ⟨w.heap.size, 1, none⟩ = some (.int .i64 kind) ∧ W.rangeAt w.heap.size 1 (sayL kind vs.length (pad6 vs)) := fun W h =>
    ⟨by rw [h.cell]; rfl, by rw [h.cell]; rfl, h.rangeIn 1 (sayL kind vs.length (pad6 vs)) (fun j v hv => by rw [Nat.add_comm]; exact hv)⟩
  have HR := Lib.hid hR
  unfold TellP ArgsP at *
  simp only
  generalize factL ⟨id, kind, vs⟩ = FL at *
  generalize sayL kind vs.length (pad6 vs) = L at *
  generalize cellsV vs = cv at *
  generalize vs.length = n at *
  have HB1 := Lib.hid hb1
  have HB2 := Lib.hid hb2
  have HBl := Lib.hid hbl
  clear hb1 hb2 hbl h6 hx hR
  go_enter Try.func30, Try.ntmps30
  go_upto_region 1 with fail
  generalize hW0 : World.alloc _ _ = W0
  have H1 : Hid (Box W0 w.heap.size 71 FL) := by rw [← hW0]; exact HB1.out
  have H2 : Hid (Box W0 (w.heap.size + 1) 37 [.int .i64 0, .int .i64 0, .slice none 0 0]) := by rw [← hW0]; exact HB2.out
  have HL0 : Hid (Below w.heap.size w W0) := by rw [← hW0]; exact HBl.out
  clear hW0 HB1 HB2 HBl
  have h0 := HR.out
  have hL := HLn.out
  have hA := HA.out
  generalize ha0 : ({ tmps := _, defers := _ } : Act) = a0
  have k1 : a0.eval (.tmp 1) = .pointer (some ⟨w.heap.size, 0, none⟩) := by rw [← ha0]; rfl
  have k2 : a0.eval (.tmp 2) = .pointer (some ⟨w.heap.size + 1, 0, none⟩) := by rw [← ha0]; rfl
  have hsz : a0.tmps.size = 12 := by rw [← ha0]; rfl
  have hdf : a0.defers = [] := by rw [← ha0]
  clear ha0
  refine wp_region_st tellRD (tellRF w id kind n cv L FL) (tellRJ w id kind n cv L FL) 10 (by kernel_rfl) (by kernel_rfl) rfl (by kernel_rfl) (by rw [hsz]; kernel_rfl) ⟨below_drew HL0.out, H1.out, fun _ => H2.out⟩
    (fun ll aa ww i hi hs nl hw => by
      have h : i = 0 ∨ i = 1 ∨ i = 2 ∨ i = 3 ∨ i = 4 ∨ i = 5 ∨ i = 6 ∨ i = 7 ∨ i = 8 ∨ i = 9 := by omega
      rcases h with rfl | rfl | rfl | rfl | rfl | rfl | rfl | rfl | rfl | rfl
      · exact tellR_s0 w id kind n cv L FL h0 hL hA k1 k2 hs rfl nl 
      · exact tellR_s1 w id kind n cv L FL h0 hL hA k1 k2 hs rfl nl (hw 0 (by kernel_rfl))
      · exact tellR_s2 w id kind n cv L FL h0 hL hA k1 k2 hs rfl nl 
      · exact tellR_s3 w id kind n cv L FL h0 hL hA k1 k2 hs rfl nl (hw 2 (by kernel_rfl))
      · exact tellR_s4 w id kind n cv L FL h0 hL hA k1 k2 hs rfl nl (hw 3 (by kernel_rfl))
      · exact tellR_s5 w id kind n cv L FL h0 hL hA k1 k2 hs rfl nl 
      · exact tellR_s6 w id kind n cv L FL h0 hL hA k1 k2 hs rfl nl (hw 5 (by kernel_rfl))
      · exact tellR_s7 w id kind n cv L FL h0 hL hA k1 k2 hs rfl nl (hw 6 (by kernel_rfl))
      · exact tellR_s8 w id kind n cv L FL h0 hL hA k1 k2 hs rfl nl (hw 1 (by kernel_rfl)) (hw 4 (by kernel_rfl)) (hw 7 (by kernel_rfl))
      · exact tellR_s9 w id kind n cv L FL h0 hL hA k1 k2 hs rfl nl (hw 0 (by kernel_rfl)) (hw 1 (by kernel_rfl)) (hw 2 (by kernel_rfl)) (hw 3 (by kernel_rfl)) (hw 4 (by kernel_rfl)) (hw 5 (by kernel_rfl)) (hw 6 (by kernel_rfl)) (hw 7 (by kernel_rfl)) (hw 8 (by kernel_rfl)))
    ?_
  intro l a W hall hst
  obtain ⟨ao, c, hb, ho⟩ := hst.vals 9 (by decide) (hall 9 (by decide))
  have ht2 : a.eval (.tmp 2) = .pointer (some ⟨w.heap.size + 1, 0, none⟩) := (hst.kept 2 (by decide)).trans k2
  have hd : a.defers = [] := hst.defs.trans hdf
  have hJ := hst.j.1
  clear hst hall h0 hL hA HA HR HLn
  go_wp2_with fail
  exact box_end (g := w.heap.size + 1) (L := [.int .i64 id, .int .i64 kind, .slice ao n c]) rfl (by simpa [Act.eval] using ht2) hd hb Try.underlying37 rfl infoFact3 ⟨ao, c, rfl, ho, hJ⟩
end Go.Proofs.Ytajhngkdnkbfcaa
