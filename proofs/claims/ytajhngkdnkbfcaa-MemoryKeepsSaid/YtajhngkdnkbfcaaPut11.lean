/- put: a fact at the row's end. -/
import Derived.Test.YtajhngkdnkbfcaaPlace11
namespace Go.Proofs.Ytajhngkdnkbfcaa
open Go.RowKit

theorem no_of {ops : Array Oper} {D : Nat → Option Nat} {F : (Nat → Bool) → Nat → World → Value → Prop} {J : (Nat → Bool) → World → Prop} {n : Nat} {a0 : Act} {l : Nat → Bool} {a : Act} {w : World} (h : St ops D F J n a0 l a w) {i j : Nat} (hi : i < n) (hw : waitsFor ops i j = true) (hj : l j = false) : l i = false := by
  cases hl : l i with
  | false => rfl
  | true =>
    have := h.ord i hi hl j hw
    rw [hj] at this
    cases this
theorem Touch.trans {S : Nat → Prop} {a b c : World} (h : Touch S a b) (k : Touch S b c) : Touch S a c :=
  ⟨k.os.trans h.os, k.tape.trans h.tape, k.output.trans h.output, Nat.le_trans h.size k.size, fun j hj hs => (k.block j (Nat.lt_of_lt_of_le hj h.size) hs).trans (h.block j hj hs)⟩
/-- The blocks of a row of facts. -/
def RowS (rb : Nat) (ao : Option Addr) (j : Nat) : Prop := j = rb ∨ ∃ a, ao = some a ∧ a.block = j
/-- The same block as before, or a new one. -/
def NewB (ao ao' : Option Addr) (B : Nat) : Prop := ∀ a', ao' = some a' → (∃ a, ao = some a ∧ a.block = a'.block) ∨ B ≤ a'.block
theorem NewB.up {ao ao' : Option Addr} {B B' : Nat} (h : NewB ao ao' B') (hB : B ≤ B') : NewB ao ao' B := fun a' e => by
  rcases h a' e with h1 | h1
  · exact Or.inl h1
  · exact Or.inr (Nat.le_trans hB h1)
abbrev zeroFact : Value := .agg #[.int .i64 0, .int .i64 0, .int .i64 0, .int .u8 0, .int .i64 0, .string ⟨#[]⟩, .int .u8 0, .int .i64 0, .string ⟨#[]⟩, .int .u8 0, .int .i64 0, .string ⟨#[]⟩, .int .u8 0, .int .i64 0, .string ⟨#[]⟩, .int .u8 0, .int .i64 0, .string ⟨#[]⟩, .int .u8 0, .int .i64 0, .string ⟨#[]⟩]
theorem infoFact : (Try.prog.info? 71).map (fun i => (i.zero, i.size, i.bytes)) = some (some zeroFact, 21, 216) := by kernel_rfl
section
variable {ops : Array Oper} {Q : Exit → Act → World → Prop} {K : Act → World → Prop} {a : Act} {w : World} {i d : Nat} {ty : TypeId} {pos : String} {after : Array Edge}
theorem twenty_of {L : List Value} (h : L.length = 20) : ∃ c0 c1 c2 c3 c4 c5 c6 c7 c8 c9 c10 c11 c12 c13 c14 c15 c16 c17 c18 c19, L = [c0, c1, c2, c3, c4, c5, c6, c7, c8, c9, c10, c11, c12, c13, c14, c15, c16, c17, c18, c19] := by
  match L, h with
  | [_, _, _, _, _, _, _, _, _, _, _, _, _, _, _, _, _, _, _, _], _ => exact ⟨_, _, _, _, _, _, _, _, _, _, _, _, _, _, _, _, _, _, _, _, rfl⟩
theorem wpOp_buildF {x y : Operand} {id : Int} {L : List Value} (hL : L.length = 20) (hi : ops[i]? = some { dst := some d, op := .build 71 #[(0, x), (1, y)], type := ty, pos := pos, after := after, guard := none })
    (hx : a.eval x = .int .i64 id) (hy : a.eval y = .agg L.toArray) (hK : K (a.put (some d) (.agg (Value.int .i64 id :: L).toArray)) w) : wpOp Try.prog ops Q i K a w := by
  refine wpOp_go hi rfl ?_
  unfold Oper.wp
  obtain ⟨c0, c1, c2, c3, c4, c5, c6, c7, c8, c9, c10, c11, c12, c13, c14, c15, c16, c17, c18, c19, rfl⟩ := twenty_of hL
  have KK := Lib.hid hK
  clear hK hi
  generalize a.eval = ρ at *
  go_simp
  exact KK.out
theorem wpOp_sliceF {x : Operand} {id : Int} {L : List Value} (hL : L.length = 20) (hi : ops[i]? = some { dst := some d, op := .buildSlice 72 1 #[(0, x)], type := ty, pos := pos, after := after, guard := none })
    (hx : a.eval x = .agg (Value.int .i64 id :: L).toArray) (hK : K (a.put (some d) (.slice (some ⟨w.heap.size, 0, none⟩) 1 1)) (w.alloc (.cells (Value.int .i64 id :: L).toArray 71))) : wpOp Try.prog ops Q i K a w := by
  refine wpOp_go hi rfl ?_
  unfold Oper.wp
  obtain ⟨c0, c1, c2, c3, c4, c5, c6, c7, c8, c9, c10, c11, c12, c13, c14, c15, c16, c17, c18, c19, rfl⟩ := twenty_of hL
  have KK := Lib.hid hK
  clear hK hi
  generalize a.eval = ρ at *
  go_simp
  exact KK.out
/-- append of something to an own row: the same block, or a new one. -/
theorem run_append_new {P : Program} (w : World) (t ty e : TypeId) (i : TypeInfo) (z : Value) (size bytes : Nat) (ht : P.underlying t = some (.slice e)) (hi : P.info? e = some i) (hz : i.zero = some z) (hsize : i.size = size) (hby : i.bytes = bytes) (hzs : z.cells.size = size) (hsz : 0 < size)
    (ao : Option Addr) (c n : Nat) (xs : List Value) (hown : w.ownsRow 0 e size (.slice ao n c) n xs) (ad : Addr) (m c' : Nat) (news : List Value) (hl : news.length = m * size) (hnews : ∀ j u, news[j]? = some u → w.cell? (ad.add j) = some u) (h1 : ∀ u ∈ news, u.oneCell' = true)
    (h63 : n + m ≤ maxLen) (hbytes : (n + m) * bytes ≤ 140737488355328) :
    ∃ ao' d w', (Builtin.append_ #[t, t] ty #[.slice ao n c, .slice (some ad) m c']).run P w = .ok (.slice ao' (n + m) d) w' ∧ w'.ownsRow 0 e size (.slice ao' (n + m) d) (n + m) (xs ++ news) ∧ w.grownBy w' (Value.slice ao n c).ownBlock ∧ NewB ao ao' w.heap.size := by
  have hown' := hown
  rcases hown.2 with ⟨hv, rfl⟩ | ⟨g, cap, cur, hv, hb, hh, hnc, hm, hcs, htk⟩
  · cases hv
    obtain rfl : xs = [] := List.eq_nil_of_length_eq_zero (by have := hown'.1; omega)
    obtain ⟨v', w', hr, h2, h3, -⟩ := run_append_own (P := P) w w.heap.size t ty e i z size bytes ht hi hz hsize hby hzs hsz (.slice none 0 0) 0 [] (World.ownsRow_nil w _ e size) ad m c' news hl hnews h1 h63 hbytes (Nat.le_refl _)
    obtain ⟨ao', d, rfl⟩ := owns_slice h2
    refine ⟨ao', d, w', hr, owns_mono h2 (Nat.zero_le _), h3, fun a' ea => Or.inr ?_⟩
    subst ea
    exact (World.ownsRow.lt h2 a'.block rfl).1
  · injection hv with e1 _ e3
    subst e1
    subst e3
    by_cases hfit : n + m ≤ c
    · obtain ⟨w', hr, h2, h3⟩ := run_append_fits (P := P) w 0 t ty e i size ht hi hsize g n c xs hown' ad m c' news hl hnews h1 hfit
      exact ⟨_, _, w', hr, h2, h3, fun a' ea => Or.inl ⟨_, rfl, by cases ea; rfl⟩⟩
    · obtain ⟨v', w', hr, h2, h3⟩ := run_append_arg_grows (P := P) w t ty e i z size bytes ht hi hz hsize hby hzs hsz ⟨g, 0, none⟩ n c xs hown'.1 (hown'.cells (g := g) rfl) ad m c' news hl hnews (by omega) h63 hbytes
      obtain ⟨ao', d, rfl⟩ := owns_slice h2
      refine ⟨ao', d, w', hr, owns_mono h2 (Nat.zero_le _), ⟨h3.os, h3.tape, h3.output, h3.size, fun k hk _ => h3.block k hk (by simp)⟩, fun a' ea => Or.inr ?_⟩
      subst ea
      exact (World.ownsRow.lt h2 a'.block rfl).1
theorem wpOp_append1 {s x : Operand} {t : TypeId} (hi : ops[i]? = some { dst := some d, op := Op.call { callee := Callee.builtin Builtin.append, args := #[s, x], argTypes := #[t, t] }, type := ty, pos := pos, after := after, guard := none })
    (e : TypeId) (j : TypeInfo) (z : Value) (size bytes : Nat) (ht : Try.prog.underlying t = some (.slice e)) (hj : Try.prog.info? e = some j) (hz : j.zero = some z) (hsize : j.size = size) (hby : j.bytes = bytes) (hzs : z.cells.size = size) (hsz : 0 < size)
    (ao : Option Addr) (c n : Nat) (xs : List Value) (hs : a.eval s = .slice ao n c) (hown : w.ownsRow 0 e size (.slice ao n c) n xs) (ad : Addr) (m c' : Nat) (news : List Value) (hx : a.eval x = .slice (some ad) m c') (hl : news.length = m * size)
    (hnews : ∀ j u, news[j]? = some u → w.cell? (ad.add j) = some u) (h1 : ∀ u ∈ news, u.oneCell' = true) (h63 : n + m ≤ maxLen) (hbytes : (n + m) * bytes ≤ 140737488355328) (_ : 0 < m)
    (hK : ∀ ao' d' w', w'.ownsRow 0 e size (.slice ao' (n + m) d') (n + m) (xs ++ news) → w.grownBy w' (Value.slice ao n c).ownBlock → NewB ao ao' w.heap.size → K (a.put (some d) (.slice ao' (n + m) d')) w') : wpOp Try.prog ops Q i K a w := by
  refine wpOp_go hi rfl ?_
  obtain ⟨ao', d', w', hrun, h2, h3, h4⟩ := run_append_new (P := Try.prog) w t ty e j z size bytes ht hj hz hsize hby hzs hsz ao c n xs hown ad m c' news hl hnews h1 h63 hbytes
  unfold Oper.wp
  simp [execOp, resolve, invoke, builtin, hs, hx, hrun, Result.andThen]
  exact hK _ _ _ h2 h3 h4
end
def putRD (i : Nat) : Option Nat := ([some 9, some 10, some 11, some 12, some 13, some 14, some 15, some 16, some 17, some 18, some 19, some 20, some 21, none] : List (Option Nat)).getD i none
set_option linter.unusedVariables false in
def putRF (w0 : World) (rb sb : Nat) (ao : Option Addr) (c n : Nat) (id nx : Int) (L xs : List Value) (l : Nat → Bool) (i : Nat) (w : World) (v : Value) : Prop :=
  match i with
  | 0 => v = .pointer (some ⟨rb, 0, none⟩)
  | 1 => v = .pointer (some ⟨rb, 0, none⟩)
  | 2 => v = .pointer (some ⟨rb, 0, none⟩)
  | 3 => v = .pointer (some ⟨rb, 0, none⟩)
  | 4 => v = .slice ao n c
  | 5 => v = .int .i64 id
  | 6 => v = .agg L.toArray
  | 7 => v = .agg L.toArray
  | 8 => v = .agg (Value.int .i64 id :: L).toArray
  | 9 => l 10 = false → ∃ g, v = .slice (some ⟨g, 0, none⟩) 1 1 ∧ w0.heap.size ≤ g ∧ Box w g 71 (Value.int .i64 id :: L)
  | 10 => ∃ ao' c', v = .slice ao' (n + 1) c' ∧ w.ownsRow 0 71 21 (.slice ao' (n + 1) c') (n + 1) (xs ++ (Value.int .i64 id :: L)) ∧ NewB ao ao' w0.heap.size
  | 11 => v = .pointer (some ⟨rb, 0, none⟩)
  | 12 => v = .pointer (some ⟨rb, 0, none⟩)
  | 13 => ∃ ao' c', Box w rb 74 [.slice ao' (n + 1) c', .int .i64 nx] ∧ w.ownsRow 0 71 21 (.slice ao' (n + 1) c') (n + 1) (xs ++ (Value.int .i64 id :: L)) ∧ NewB ao ao' w0.heap.size
  | _ => True
set_option linter.unusedVariables false in
def putRJ (w0 : World) (rb sb : Nat) (ao : Option Addr) (c n : Nat) (id nx : Int) (L xs : List Value) (l : Nat → Bool) (w : World) : Prop := Touch (RowS rb ao) w0 w ∧ Box w sb 64 L ∧ (l 10 = false → w.ownsRow 0 71 21 (.slice ao n c) n xs) ∧ (l 13 = false → Box w rb 74 [.slice ao n c, .int .i64 nx])
set_option linter.unusedVariables false in
theorem putR_mild (w0 : World) (rb sb : Nat) (ao : Option Addr) (c n : Nat) (id nx : Int) (L xs : List Value) : Mild (putRF w0 rb sb ao c n id nx L xs) (putRJ w0 rb sb ao c n id nx L xs) := by
  refine ⟨fun l i j w w' v hb h => ?_, fun l i w w' hb h => ?_⟩
  · match j with
    | 0 => exact h
    | 1 => exact h
    | 2 => exact h
    | 3 => exact h
    | 4 => exact h
    | 5 => exact h
    | 6 => exact h
    | 7 => exact h
    | 8 => exact h
    | 9 => exact fun e => by obtain ⟨g, h1, h2, h3⟩ := h (setL_no e); exact ⟨g, h1, h2, h3.old hb⟩
    | 10 => obtain ⟨a1, c1, h1, h2, h3⟩ := h; exact ⟨a1, c1, h1, owns_below h2 hb, h3⟩
    | 11 => exact h
    | 12 => exact h
    | 13 => obtain ⟨a1, c1, h1, h2, h3⟩ := h; exact ⟨a1, c1, h1.old hb, owns_below h2 hb, h3⟩
    | k + 14 => trivial
  · exact ⟨h.1.step hb, h.2.1.old hb, fun e => owns_below (h.2.2.1 (setL_no e)) hb, fun e => (h.2.2.2 (setL_no e)).old hb⟩
set_option linter.unusedVariables false in
theorem putR_s0 (w0 : World) (rb sb : Nat) (ao : Option Addr) (c n : Nat) (id nx : Int) (L xs : List Value) {ops : Array Oper} {Q : Exit → Act → World → Prop} {a0 a : Act} {w : World} {l : Nat → Bool} {ty : TypeId} {pos : String} {after : Array Edge} (hw4 : waitsFor ops 13 4 = true) (hw10 : waitsFor ops 13 10 = true) (hL : L.length = 20) (hL1 : ∀ u ∈ L, u.oneCell' = true) (hn : n ≤ 256) (hlt : ∀ b, ao = some b → b.block < w0.heap.size) (hA : ∀ W, Calls Try.prog 35 #[.agg L.toArray] W (SaysL L W)) (k0 : a0.eval (.tmp 0) = .pointer (some ⟨rb, 0, none⟩)) (k4 : a0.eval (.tmp 4) = .int .i64 id) (k3 : a0.eval (.tmp 3) = .pointer (some ⟨sb, 0, none⟩)) (hs : St ops putRD (putRF w0 rb sb ao c n id nx L xs) (putRJ w0 rb sb ao c n id nx L xs) 14 a0 l a w) (hi : ops[0]? = some { dst := some 9, op := Op.move (Operand.tmp 0), type := ty, pos := pos, after := after, guard := none }) (nl : l 0 = false)  : wpOp Try.prog ops Q 0 (Did putRD (putRF w0 rb sb ao c n id nx L xs) (putRJ w0 rb sb ao c n id nx L xs) 14 l 0 a) a w := by
  have e0 : a.eval (.tmp 0) = .pointer (some ⟨rb, 0, none⟩) := (hs.kept 0 (by decide)).trans (k0)
  have hK := did (putR_mild w0 rb sb ao c n id nx L xs) hs (v := .pointer (some ⟨rb, 0, none⟩)) (d := 9) (i := 0) rfl (Below.refl _ w) rfl
  refine wpOp_move hi ?_
  rw [e0]
  exact hK
set_option linter.unusedVariables false in
theorem putR_s1 (w0 : World) (rb sb : Nat) (ao : Option Addr) (c n : Nat) (id nx : Int) (L xs : List Value) {ops : Array Oper} {Q : Exit → Act → World → Prop} {a0 a : Act} {w : World} {l : Nat → Bool} {ty : TypeId} {pos : String} {after : Array Edge} (hw4 : waitsFor ops 13 4 = true) (hw10 : waitsFor ops 13 10 = true) (hL : L.length = 20) (hL1 : ∀ u ∈ L, u.oneCell' = true) (hn : n ≤ 256) (hlt : ∀ b, ao = some b → b.block < w0.heap.size) (hA : ∀ W, Calls Try.prog 35 #[.agg L.toArray] W (SaysL L W)) (k0 : a0.eval (.tmp 0) = .pointer (some ⟨rb, 0, none⟩)) (k4 : a0.eval (.tmp 4) = .int .i64 id) (k3 : a0.eval (.tmp 3) = .pointer (some ⟨sb, 0, none⟩)) (hs : St ops putRD (putRF w0 rb sb ao c n id nx L xs) (putRJ w0 rb sb ao c n id nx L xs) 14 a0 l a w) (hi : ops[1]? = some { dst := some 10, op := Op.move (Operand.tmp 0), type := ty, pos := pos, after := after, guard := none }) (nl : l 1 = false)  : wpOp Try.prog ops Q 1 (Did putRD (putRF w0 rb sb ao c n id nx L xs) (putRJ w0 rb sb ao c n id nx L xs) 14 l 1 a) a w := by
  have e0 : a.eval (.tmp 0) = .pointer (some ⟨rb, 0, none⟩) := (hs.kept 0 (by decide)).trans (k0)
  have hK := did (putR_mild w0 rb sb ao c n id nx L xs) hs (v := .pointer (some ⟨rb, 0, none⟩)) (d := 10) (i := 1) rfl (Below.refl _ w) rfl
  refine wpOp_move hi ?_
  rw [e0]
  exact hK
set_option linter.unusedVariables false in
theorem putR_s2 (w0 : World) (rb sb : Nat) (ao : Option Addr) (c n : Nat) (id nx : Int) (L xs : List Value) {ops : Array Oper} {Q : Exit → Act → World → Prop} {a0 a : Act} {w : World} {l : Nat → Bool} {ty : TypeId} {pos : String} {after : Array Edge} (hw4 : waitsFor ops 13 4 = true) (hw10 : waitsFor ops 13 10 = true) (hL : L.length = 20) (hL1 : ∀ u ∈ L, u.oneCell' = true) (hn : n ≤ 256) (hlt : ∀ b, ao = some b → b.block < w0.heap.size) (hA : ∀ W, Calls Try.prog 35 #[.agg L.toArray] W (SaysL L W)) (k0 : a0.eval (.tmp 0) = .pointer (some ⟨rb, 0, none⟩)) (k4 : a0.eval (.tmp 4) = .int .i64 id) (k3 : a0.eval (.tmp 3) = .pointer (some ⟨sb, 0, none⟩)) (hs : St ops putRD (putRF w0 rb sb ao c n id nx L xs) (putRJ w0 rb sb ao c n id nx L xs) 14 a0 l a w) (hi : ops[2]? = some { dst := some 11, op := Op.nilCheck (Operand.tmp 10), type := ty, pos := pos, after := after, guard := none }) (nl : l 2 = false) (q1 : l 1 = true) : wpOp Try.prog ops Q 2 (Did putRD (putRF w0 rb sb ao c n id nx L xs) (putRJ w0 rb sb ao c n id nx L xs) 14 l 2 a) a w := by
  have e10 : putRF w0 rb sb ao c n id nx L xs l 1 w (a.eval (.tmp 10)) := hs.get (by decide) q1 rfl
  have e10 : a.eval (.tmp 10) = .pointer (some ⟨rb, 0, none⟩) := e10
  have hK := did (putR_mild w0 rb sb ao c n id nx L xs) hs (v := .pointer (some ⟨rb, 0, none⟩)) (d := 11) (i := 2) rfl (Below.refl _ w) rfl
  exact wpOp_nilCheck hi e10 hK
set_option linter.unusedVariables false in
theorem putR_s3 (w0 : World) (rb sb : Nat) (ao : Option Addr) (c n : Nat) (id nx : Int) (L xs : List Value) {ops : Array Oper} {Q : Exit → Act → World → Prop} {a0 a : Act} {w : World} {l : Nat → Bool} {ty : TypeId} {pos : String} {after : Array Edge} (hw4 : waitsFor ops 13 4 = true) (hw10 : waitsFor ops 13 10 = true) (hL : L.length = 20) (hL1 : ∀ u ∈ L, u.oneCell' = true) (hn : n ≤ 256) (hlt : ∀ b, ao = some b → b.block < w0.heap.size) (hA : ∀ W, Calls Try.prog 35 #[.agg L.toArray] W (SaysL L W)) (k0 : a0.eval (.tmp 0) = .pointer (some ⟨rb, 0, none⟩)) (k4 : a0.eval (.tmp 4) = .int .i64 id) (k3 : a0.eval (.tmp 3) = .pointer (some ⟨sb, 0, none⟩)) (hs : St ops putRD (putRF w0 rb sb ao c n id nx L xs) (putRJ w0 rb sb ao c n id nx L xs) 14 a0 l a w) (hi : ops[3]? = some { dst := some 12, op := Op.fieldAddr 74 (Operand.tmp 11) 0, type := ty, pos := pos, after := after, guard := none }) (nl : l 3 = false) (q2 : l 2 = true) : wpOp Try.prog ops Q 3 (Did putRD (putRF w0 rb sb ao c n id nx L xs) (putRJ w0 rb sb ao c n id nx L xs) 14 l 3 a) a w := by
  have e11 : putRF w0 rb sb ao c n id nx L xs l 2 w (a.eval (.tmp 11)) := hs.get (by decide) q2 rfl
  have e11 : a.eval (.tmp 11) = .pointer (some ⟨rb, 0, none⟩) := e11
  have hK := did (putR_mild w0 rb sb ao c n id nx L xs) hs (v := .pointer (some ⟨rb, 0, none⟩)) (d := 12) (i := 3) rfl (Below.refl _ w) rfl
  refine wpOp_go hi rfl ?_
  unfold Oper.wp
  have KK := Lib.hid hK
  clear hK hi
  generalize a.eval = ρ at *
  go_simp
  exact KK.out
set_option linter.unusedVariables false in
theorem putR_s4 (w0 : World) (rb sb : Nat) (ao : Option Addr) (c n : Nat) (id nx : Int) (L xs : List Value) {ops : Array Oper} {Q : Exit → Act → World → Prop} {a0 a : Act} {w : World} {l : Nat → Bool} {ty : TypeId} {pos : String} {after : Array Edge} (hw4 : waitsFor ops 13 4 = true) (hw10 : waitsFor ops 13 10 = true) (hL : L.length = 20) (hL1 : ∀ u ∈ L, u.oneCell' = true) (hn : n ≤ 256) (hlt : ∀ b, ao = some b → b.block < w0.heap.size) (hA : ∀ W, Calls Try.prog 35 #[.agg L.toArray] W (SaysL L W)) (k0 : a0.eval (.tmp 0) = .pointer (some ⟨rb, 0, none⟩)) (k4 : a0.eval (.tmp 4) = .int .i64 id) (k3 : a0.eval (.tmp 3) = .pointer (some ⟨sb, 0, none⟩)) (hs : St ops putRD (putRF w0 rb sb ao c n id nx L xs) (putRJ w0 rb sb ao c n id nx L xs) 14 a0 l a w) (hi : ops[4]? = some { dst := some 13, op := Op.load 72 (Operand.tmp 12), type := ty, pos := pos, after := after, guard := none }) (nl : l 4 = false) (q3 : l 3 = true) : wpOp Try.prog ops Q 4 (Did putRD (putRF w0 rb sb ao c n id nx L xs) (putRJ w0 rb sb ao c n id nx L xs) 14 l 4 a) a w := by
  have e12 : putRF w0 rb sb ao c n id nx L xs l 3 w (a.eval (.tmp 12)) := hs.get (by decide) q3 rfl
  have e12' : a.eval (.tmp 12) = .pointer (some ⟨rb, 0, none⟩) := e12
  have c0 : l 13 = false → w.cell? ⟨rb, 0, none⟩ = some (.slice ao n c) := fun e => by rw [(hs.j.2.2.2 e).cell]; rfl
  have n13 : l 13 = false := no_of hs (i := 13) (by decide) hw4 nl
  have c0 := c0 n13
  have hK := did (v := .slice ao n c) (putR_mild w0 rb sb ao c n id nx L xs) hs (d := 13) (i := 4) rfl (Below.refl _ w) rfl
  refine wpOp_go hi rfl ?_
  unfold Oper.wp
  have KK := Lib.hid hK
  clear hK hi e12
  generalize a.eval = ρ at *
  go_simp
  exact KK.out
set_option linter.unusedVariables false in
theorem putR_s5 (w0 : World) (rb sb : Nat) (ao : Option Addr) (c n : Nat) (id nx : Int) (L xs : List Value) {ops : Array Oper} {Q : Exit → Act → World → Prop} {a0 a : Act} {w : World} {l : Nat → Bool} {ty : TypeId} {pos : String} {after : Array Edge} (hw4 : waitsFor ops 13 4 = true) (hw10 : waitsFor ops 13 10 = true) (hL : L.length = 20) (hL1 : ∀ u ∈ L, u.oneCell' = true) (hn : n ≤ 256) (hlt : ∀ b, ao = some b → b.block < w0.heap.size) (hA : ∀ W, Calls Try.prog 35 #[.agg L.toArray] W (SaysL L W)) (k0 : a0.eval (.tmp 0) = .pointer (some ⟨rb, 0, none⟩)) (k4 : a0.eval (.tmp 4) = .int .i64 id) (k3 : a0.eval (.tmp 3) = .pointer (some ⟨sb, 0, none⟩)) (hs : St ops putRD (putRF w0 rb sb ao c n id nx L xs) (putRJ w0 rb sb ao c n id nx L xs) 14 a0 l a w) (hi : ops[5]? = some { dst := some 14, op := Op.move (Operand.tmp 4), type := ty, pos := pos, after := after, guard := none }) (nl : l 5 = false)  : wpOp Try.prog ops Q 5 (Did putRD (putRF w0 rb sb ao c n id nx L xs) (putRJ w0 rb sb ao c n id nx L xs) 14 l 5 a) a w := by
  have e4 : a.eval (.tmp 4) = .int .i64 id := (hs.kept 4 (by decide)).trans (k4)
  have hK := did (putR_mild w0 rb sb ao c n id nx L xs) hs (v := .int .i64 id) (d := 14) (i := 5) rfl (Below.refl _ w) rfl
  refine wpOp_move hi ?_
  rw [e4]
  exact hK
set_option linter.unusedVariables false in
theorem putR_s6 (w0 : World) (rb sb : Nat) (ao : Option Addr) (c n : Nat) (id nx : Int) (L xs : List Value) {ops : Array Oper} {Q : Exit → Act → World → Prop} {a0 a : Act} {w : World} {l : Nat → Bool} {ty : TypeId} {pos : String} {after : Array Edge} (hw4 : waitsFor ops 13 4 = true) (hw10 : waitsFor ops 13 10 = true) (hL : L.length = 20) (hL1 : ∀ u ∈ L, u.oneCell' = true) (hn : n ≤ 256) (hlt : ∀ b, ao = some b → b.block < w0.heap.size) (hA : ∀ W, Calls Try.prog 35 #[.agg L.toArray] W (SaysL L W)) (k0 : a0.eval (.tmp 0) = .pointer (some ⟨rb, 0, none⟩)) (k4 : a0.eval (.tmp 4) = .int .i64 id) (k3 : a0.eval (.tmp 3) = .pointer (some ⟨sb, 0, none⟩)) (hs : St ops putRD (putRF w0 rb sb ao c n id nx L xs) (putRJ w0 rb sb ao c n id nx L xs) 14 a0 l a w) (hi : ops[6]? = some { dst := some 15, op := Op.load 64 (Operand.tmp 3), type := ty, pos := pos, after := after, guard := none }) (nl : l 6 = false)  : wpOp Try.prog ops Q 6 (Did putRD (putRF w0 rb sb ao c n id nx L xs) (putRJ w0 rb sb ao c n id nx L xs) 14 l 6 a) a w := by
  have e3 : a.eval (.tmp 3) = .pointer (some ⟨sb, 0, none⟩) := (hs.kept 3 (by decide)).trans (k3)
  exact wpOp_load hi e3 hs.j.2.1.range Try.underlying64 rfl (say_infoL hL) (did (putR_mild w0 rb sb ao c n id nx L xs) hs (d := 15) (i := 6) rfl (Below.refl _ w) rfl)
set_option linter.unusedVariables false in
theorem putR_s7 (w0 : World) (rb sb : Nat) (ao : Option Addr) (c n : Nat) (id nx : Int) (L xs : List Value) {ops : Array Oper} {Q : Exit → Act → World → Prop} {a0 a : Act} {w : World} {l : Nat → Bool} {ty : TypeId} {pos : String} {after : Array Edge} (hw4 : waitsFor ops 13 4 = true) (hw10 : waitsFor ops 13 10 = true) (hL : L.length = 20) (hL1 : ∀ u ∈ L, u.oneCell' = true) (hn : n ≤ 256) (hlt : ∀ b, ao = some b → b.block < w0.heap.size) (hA : ∀ W, Calls Try.prog 35 #[.agg L.toArray] W (SaysL L W)) (k0 : a0.eval (.tmp 0) = .pointer (some ⟨rb, 0, none⟩)) (k4 : a0.eval (.tmp 4) = .int .i64 id) (k3 : a0.eval (.tmp 3) = .pointer (some ⟨sb, 0, none⟩)) (hs : St ops putRD (putRF w0 rb sb ao c n id nx L xs) (putRJ w0 rb sb ao c n id nx L xs) 14 a0 l a w) (hi : ops[7]? = some { dst := some 16, op := Op.call { callee := Callee.value (Operand.func 35), args := #[Operand.tmp 15], argTypes := #[64] }, type := ty, pos := pos, after := after, guard := none }) (nl : l 7 = false) (q6 : l 6 = true) : wpOp Try.prog ops Q 7 (Did putRD (putRF w0 rb sb ao c n id nx L xs) (putRJ w0 rb sb ao c n id nx L xs) 14 l 7 a) a w := by
  have e15 : putRF w0 rb sb ao c n id nx L xs l 6 w (a.eval (.tmp 15)) := hs.get (by decide) q6 rfl
  have e15' : a.eval (.tmp 15) = .agg L.toArray := e15
  refine wpOp_call (vs := #[.agg L.toArray]) hi (enters_of Try.func35 (by kernel_rfl) rfl) (by simp [e15']) ?_
  refine (hA w).mono ?_
  rintro e w' ⟨rfl, hb⟩
  exact ⟨_, rfl, did (putR_mild w0 rb sb ao c n id nx L xs) hs (d := 16) (i := 7) rfl hb rfl⟩
set_option linter.unusedVariables false in
theorem putR_s8 (w0 : World) (rb sb : Nat) (ao : Option Addr) (c n : Nat) (id nx : Int) (L xs : List Value) {ops : Array Oper} {Q : Exit → Act → World → Prop} {a0 a : Act} {w : World} {l : Nat → Bool} {ty : TypeId} {pos : String} {after : Array Edge} (hw4 : waitsFor ops 13 4 = true) (hw10 : waitsFor ops 13 10 = true) (hL : L.length = 20) (hL1 : ∀ u ∈ L, u.oneCell' = true) (hn : n ≤ 256) (hlt : ∀ b, ao = some b → b.block < w0.heap.size) (hA : ∀ W, Calls Try.prog 35 #[.agg L.toArray] W (SaysL L W)) (k0 : a0.eval (.tmp 0) = .pointer (some ⟨rb, 0, none⟩)) (k4 : a0.eval (.tmp 4) = .int .i64 id) (k3 : a0.eval (.tmp 3) = .pointer (some ⟨sb, 0, none⟩)) (hs : St ops putRD (putRF w0 rb sb ao c n id nx L xs) (putRJ w0 rb sb ao c n id nx L xs) 14 a0 l a w) (hi : ops[8]? = some { dst := some 17, op := Op.build 71 #[(0, Operand.tmp 14), (1, Operand.tmp 16)], type := ty, pos := pos, after := after, guard := none }) (nl : l 8 = false) (q5 : l 5 = true) (q7 : l 7 = true) : wpOp Try.prog ops Q 8 (Did putRD (putRF w0 rb sb ao c n id nx L xs) (putRJ w0 rb sb ao c n id nx L xs) 14 l 8 a) a w := by
  have e14 : putRF w0 rb sb ao c n id nx L xs l 5 w (a.eval (.tmp 14)) := hs.get (by decide) q5 rfl
  have e16 : putRF w0 rb sb ao c n id nx L xs l 7 w (a.eval (.tmp 16)) := hs.get (by decide) q7 rfl
  have e14' : a.eval (.tmp 14) = .int .i64 id := e14
  have e16' : a.eval (.tmp 16) = .agg L.toArray := e16
  have hK := did (v := .agg (Value.int .i64 id :: L).toArray) (putR_mild w0 rb sb ao c n id nx L xs) hs (d := 17) (i := 8) rfl (Below.refl _ w) rfl
  exact wpOp_buildF hL hi e14' e16' hK
set_option linter.unusedVariables false in
theorem putR_s9 (w0 : World) (rb sb : Nat) (ao : Option Addr) (c n : Nat) (id nx : Int) (L xs : List Value) {ops : Array Oper} {Q : Exit → Act → World → Prop} {a0 a : Act} {w : World} {l : Nat → Bool} {ty : TypeId} {pos : String} {after : Array Edge} (hw4 : waitsFor ops 13 4 = true) (hw10 : waitsFor ops 13 10 = true) (hL : L.length = 20) (hL1 : ∀ u ∈ L, u.oneCell' = true) (hn : n ≤ 256) (hlt : ∀ b, ao = some b → b.block < w0.heap.size) (hA : ∀ W, Calls Try.prog 35 #[.agg L.toArray] W (SaysL L W)) (k0 : a0.eval (.tmp 0) = .pointer (some ⟨rb, 0, none⟩)) (k4 : a0.eval (.tmp 4) = .int .i64 id) (k3 : a0.eval (.tmp 3) = .pointer (some ⟨sb, 0, none⟩)) (hs : St ops putRD (putRF w0 rb sb ao c n id nx L xs) (putRJ w0 rb sb ao c n id nx L xs) 14 a0 l a w) (hi : ops[9]? = some { dst := some 18, op := Op.buildSlice 72 1 #[(0, Operand.tmp 17)], type := ty, pos := pos, after := after, guard := none }) (nl : l 9 = false) (q8 : l 8 = true) : wpOp Try.prog ops Q 9 (Did putRD (putRF w0 rb sb ao c n id nx L xs) (putRJ w0 rb sb ao c n id nx L xs) 14 l 9 a) a w := by
  have e17 : putRF w0 rb sb ao c n id nx L xs l 8 w (a.eval (.tmp 17)) := hs.get (by decide) q8 rfl
  have e17' : a.eval (.tmp 17) = .agg (Value.int .i64 id :: L).toArray := e17
  have hb := below_own (w := w) (.cells (Value.int .i64 id :: L).toArray 71)
  refine wpOp_sliceF hL hi e17' (did (putR_mild w0 rb sb ao c n id nx L xs) hs (d := 18) (i := 9) rfl hb (fun _ => ⟨w.heap.size, rfl, hs.j.1.size, Box.new _ _ _⟩))
set_option linter.unusedVariables false in
theorem putR_s10 (w0 : World) (rb sb : Nat) (ao : Option Addr) (c n : Nat) (id nx : Int) (L xs : List Value) {ops : Array Oper} {Q : Exit → Act → World → Prop} {a0 a : Act} {w : World} {l : Nat → Bool} {ty : TypeId} {pos : String} {after : Array Edge} (hw4 : waitsFor ops 13 4 = true) (hw10 : waitsFor ops 13 10 = true) (hL : L.length = 20) (hL1 : ∀ u ∈ L, u.oneCell' = true) (hn : n ≤ 256) (hlt : ∀ b, ao = some b → b.block < w0.heap.size) (hA : ∀ W, Calls Try.prog 35 #[.agg L.toArray] W (SaysL L W)) (k0 : a0.eval (.tmp 0) = .pointer (some ⟨rb, 0, none⟩)) (k4 : a0.eval (.tmp 4) = .int .i64 id) (k3 : a0.eval (.tmp 3) = .pointer (some ⟨sb, 0, none⟩)) (hs : St ops putRD (putRF w0 rb sb ao c n id nx L xs) (putRJ w0 rb sb ao c n id nx L xs) 14 a0 l a w) (hi : ops[10]? = some { dst := some 19, op := Op.call { callee := Callee.builtin Builtin.append, args := #[Operand.tmp 13, Operand.tmp 18], argTypes := #[72, 72] }, type := ty, pos := pos, after := after, guard := none }) (nl : l 10 = false) (q4 : l 4 = true) (q7 : l 7 = true) (q9 : l 9 = true) : wpOp Try.prog ops Q 10 (Did putRD (putRF w0 rb sb ao c n id nx L xs) (putRJ w0 rb sb ao c n id nx L xs) 14 l 10 a) a w := by
  have e13 : putRF w0 rb sb ao c n id nx L xs l 4 w (a.eval (.tmp 13)) := hs.get (by decide) q4 rfl
  have e18 : putRF w0 rb sb ao c n id nx L xs l 9 w (a.eval (.tmp 18)) := hs.get (by decide) q9 rfl
  have e13' : a.eval (.tmp 13) = .slice ao n c := e13
  obtain ⟨g, e18', hg1, hg2⟩ := e18 nl
  obtain ⟨i0, hi0, hz0, hz1, hz2⟩ := info_parts infoFact
  have hown := hs.j.2.2.1 nl
  refine wpOp_append1 hi 71 i0 zeroFact 21 216 Try.underlying72 hi0 hz0 hz1 hz2 rfl (by decide) _ c n xs e13' hown ⟨g, 0, none⟩ 1 1 (Value.int .i64 id :: L) e18' (by rw [List.length_cons, hL]) (fun j u hu => by rw [Addr.add_lit]; exact (hg2.cell (0 + j)).trans (by rw [Nat.zero_add]; exact hu)) (fun u hu => by rcases List.mem_cons.1 hu with rfl | h; exact rfl; exact hL1 u h) (by unfold maxLen; omega) (by omega) (by decide) ?_
  intro ao' c' w' ho hgr hnb
  have hS : ∀ k, (Value.slice ao n c).ownBlock = some k → RowS rb ao k := fun k hk => by
    cases ao with
    | none => cases hk
    | some b => exact Or.inr ⟨b, rfl, by simpa [Value.ownBlock] using hk⟩
  have hT : Touch (RowS rb ao) w0 w' := hs.j.1.grown hgr (fun k hk => Or.inl (hS k hk.symm.symm))
  have far : ∀ {k : Nat} {T : TypeId} {M : List Value}, Box w k T M → T ≠ 71 → Box w' k T M := fun h hne => h.far hgr (fun e => by
    obtain ⟨cs, fz, h1⟩ := owns_tag hown _ e.symm
    have h2 : _ = _ := h.symm.trans h1
    cases h2
    exact hne rfl)
  refine ⟨_, rfl, ⟨hT, far hs.j.2.1 (by decide), fun e => absurd e (by simp [setL]), fun e => far (hs.j.2.2.2 (setL_no e)) (by decide)⟩, fun j hj hl => ?_, ⟨ao', c', rfl, ho, hnb.up hs.j.1.size⟩⟩
  match j, hj with
  | 0, _ => exact hs.get (i := 0) (by decide) hl rfl
  | 1, _ => exact hs.get (i := 1) (by decide) hl rfl
  | 2, _ => exact hs.get (i := 2) (by decide) hl rfl
  | 3, _ => exact hs.get (i := 3) (by decide) hl rfl
  | 4, _ => exact hs.get (i := 4) (by decide) hl rfl
  | 5, _ => exact hs.get (i := 5) (by decide) hl rfl
  | 6, _ => exact hs.get (i := 6) (by decide) hl rfl
  | 7, _ => exact hs.get (i := 7) (by decide) hl rfl
  | 8, _ => exact hs.get (i := 8) (by decide) hl rfl
  | 9, _ => exact fun e => absurd e (by simp [setL])
  | 10, _ => rw [nl] at hl; cases hl
  | 11, _ => exact hs.get (i := 11) (by decide) hl rfl
  | 12, _ => exact hs.get (i := 12) (by decide) hl rfl
  | 13, _ => rw [no_of hs (i := 13) (by decide) hw10 nl] at hl; cases hl
set_option linter.unusedVariables false in
theorem putR_s11 (w0 : World) (rb sb : Nat) (ao : Option Addr) (c n : Nat) (id nx : Int) (L xs : List Value) {ops : Array Oper} {Q : Exit → Act → World → Prop} {a0 a : Act} {w : World} {l : Nat → Bool} {ty : TypeId} {pos : String} {after : Array Edge} (hw4 : waitsFor ops 13 4 = true) (hw10 : waitsFor ops 13 10 = true) (hL : L.length = 20) (hL1 : ∀ u ∈ L, u.oneCell' = true) (hn : n ≤ 256) (hlt : ∀ b, ao = some b → b.block < w0.heap.size) (hA : ∀ W, Calls Try.prog 35 #[.agg L.toArray] W (SaysL L W)) (k0 : a0.eval (.tmp 0) = .pointer (some ⟨rb, 0, none⟩)) (k4 : a0.eval (.tmp 4) = .int .i64 id) (k3 : a0.eval (.tmp 3) = .pointer (some ⟨sb, 0, none⟩)) (hs : St ops putRD (putRF w0 rb sb ao c n id nx L xs) (putRJ w0 rb sb ao c n id nx L xs) 14 a0 l a w) (hi : ops[11]? = some { dst := some 20, op := Op.nilCheck (Operand.tmp 9), type := ty, pos := pos, after := after, guard := none }) (nl : l 11 = false) (q0 : l 0 = true) (q1 : l 1 = true) (q2 : l 2 = true) (q3 : l 3 = true) (q4 : l 4 = true) (q5 : l 5 = true) (q6 : l 6 = true) (q7 : l 7 = true) (q8 : l 8 = true) (q9 : l 9 = true) (q10 : l 10 = true) : wpOp Try.prog ops Q 11 (Did putRD (putRF w0 rb sb ao c n id nx L xs) (putRJ w0 rb sb ao c n id nx L xs) 14 l 11 a) a w := by
  have e9 : putRF w0 rb sb ao c n id nx L xs l 0 w (a.eval (.tmp 9)) := hs.get (by decide) q0 rfl
  have e9 : a.eval (.tmp 9) = .pointer (some ⟨rb, 0, none⟩) := e9
  have hK := did (putR_mild w0 rb sb ao c n id nx L xs) hs (v := .pointer (some ⟨rb, 0, none⟩)) (d := 20) (i := 11) rfl (Below.refl _ w) rfl
  exact wpOp_nilCheck hi e9 hK
set_option linter.unusedVariables false in
theorem putR_s12 (w0 : World) (rb sb : Nat) (ao : Option Addr) (c n : Nat) (id nx : Int) (L xs : List Value) {ops : Array Oper} {Q : Exit → Act → World → Prop} {a0 a : Act} {w : World} {l : Nat → Bool} {ty : TypeId} {pos : String} {after : Array Edge} (hw4 : waitsFor ops 13 4 = true) (hw10 : waitsFor ops 13 10 = true) (hL : L.length = 20) (hL1 : ∀ u ∈ L, u.oneCell' = true) (hn : n ≤ 256) (hlt : ∀ b, ao = some b → b.block < w0.heap.size) (hA : ∀ W, Calls Try.prog 35 #[.agg L.toArray] W (SaysL L W)) (k0 : a0.eval (.tmp 0) = .pointer (some ⟨rb, 0, none⟩)) (k4 : a0.eval (.tmp 4) = .int .i64 id) (k3 : a0.eval (.tmp 3) = .pointer (some ⟨sb, 0, none⟩)) (hs : St ops putRD (putRF w0 rb sb ao c n id nx L xs) (putRJ w0 rb sb ao c n id nx L xs) 14 a0 l a w) (hi : ops[12]? = some { dst := some 21, op := Op.fieldAddr 74 (Operand.tmp 20) 0, type := ty, pos := pos, after := after, guard := none }) (nl : l 12 = false) (q0 : l 0 = true) (q1 : l 1 = true) (q2 : l 2 = true) (q3 : l 3 = true) (q4 : l 4 = true) (q5 : l 5 = true) (q6 : l 6 = true) (q7 : l 7 = true) (q8 : l 8 = true) (q9 : l 9 = true) (q10 : l 10 = true) (q11 : l 11 = true) : wpOp Try.prog ops Q 12 (Did putRD (putRF w0 rb sb ao c n id nx L xs) (putRJ w0 rb sb ao c n id nx L xs) 14 l 12 a) a w := by
  have e20 : putRF w0 rb sb ao c n id nx L xs l 11 w (a.eval (.tmp 20)) := hs.get (by decide) q11 rfl
  have e20 : a.eval (.tmp 20) = .pointer (some ⟨rb, 0, none⟩) := e20
  have hK := did (putR_mild w0 rb sb ao c n id nx L xs) hs (v := .pointer (some ⟨rb, 0, none⟩)) (d := 21) (i := 12) rfl (Below.refl _ w) rfl
  refine wpOp_go hi rfl ?_
  unfold Oper.wp
  have KK := Lib.hid hK
  clear hK hi
  generalize a.eval = ρ at *
  go_simp
  exact KK.out
set_option linter.unusedVariables false in
theorem putR_s13 (w0 : World) (rb sb : Nat) (ao : Option Addr) (c n : Nat) (id nx : Int) (L xs : List Value) {ops : Array Oper} {Q : Exit → Act → World → Prop} {a0 a : Act} {w : World} {l : Nat → Bool} {ty : TypeId} {pos : String} {after : Array Edge} (hw4 : waitsFor ops 13 4 = true) (hw10 : waitsFor ops 13 10 = true) (hL : L.length = 20) (hL1 : ∀ u ∈ L, u.oneCell' = true) (hn : n ≤ 256) (hlt : ∀ b, ao = some b → b.block < w0.heap.size) (hA : ∀ W, Calls Try.prog 35 #[.agg L.toArray] W (SaysL L W)) (k0 : a0.eval (.tmp 0) = .pointer (some ⟨rb, 0, none⟩)) (k4 : a0.eval (.tmp 4) = .int .i64 id) (k3 : a0.eval (.tmp 3) = .pointer (some ⟨sb, 0, none⟩)) (hs : St ops putRD (putRF w0 rb sb ao c n id nx L xs) (putRJ w0 rb sb ao c n id nx L xs) 14 a0 l a w) (hi : ops[13]? = some { dst := none, op := Op.store 72 (Operand.tmp 21) (Operand.tmp 19), type := ty, pos := pos, after := after, guard := none }) (nl : l 13 = false) (q0 : l 0 = true) (q1 : l 1 = true) (q2 : l 2 = true) (q3 : l 3 = true) (q4 : l 4 = true) (q5 : l 5 = true) (q6 : l 6 = true) (q7 : l 7 = true) (q8 : l 8 = true) (q9 : l 9 = true) (q10 : l 10 = true) (q12 : l 12 = true) : wpOp Try.prog ops Q 13 (Did putRD (putRF w0 rb sb ao c n id nx L xs) (putRJ w0 rb sb ao c n id nx L xs) 14 l 13 a) a w := by
  have e21 : putRF w0 rb sb ao c n id nx L xs l 12 w (a.eval (.tmp 21)) := hs.get (by decide) q12 rfl
  have e19 : putRF w0 rb sb ao c n id nx L xs l 10 w (a.eval (.tmp 19)) := hs.get (by decide) q10 rfl
  have e21' : a.eval (.tmp 21) = .pointer (some ⟨rb, 0, none⟩) := e21
  obtain ⟨ao', c', e19', ho, hnb⟩ := e19
  have hB := hs.j.2.2.2 nl
  have x0 := hB.cell 0
  have z0 := hB.frozen 0
  simp only [List.getElem?_cons_zero] at x0
  have hgr := Lib.grownBy_setCell w rb 0 (.slice ao' (n + 1) c')
  have hset := hB.set 0 (.slice ao' (n + 1) c')
  have hfar : (w.setCell ⟨rb, 0, none⟩ (.slice ao' (n + 1) c')).ownsRow 0 71 21 (.slice ao' (n + 1) c') (n + 1) (xs ++ (Value.int .i64 id :: L)) := owns_far (e' := 74) ho (by decide) hgr (fun k hk => by obtain rfl := Option.some.inj hk; exact ⟨_, _, hB⟩)
  have hK : Did putRD (putRF w0 rb sb ao c n id nx L xs) (putRJ w0 rb sb ao c n id nx L xs) 14 l 13 a a (w.setCell ⟨rb, 0, none⟩ (.slice ao' (n + 1) c')) := by
    refine ⟨undef, rfl, ⟨hs.j.1.grown hgr (fun k hk => by obtain rfl := Option.some.inj hk; exact Or.inl (Or.inl rfl)), hs.j.2.1.far hgr (fun e => by have e := Option.some.inj e; subst e; exact (by decide : 64 ≠ 74) (by have h2 : _ = _ := hs.j.2.1.symm.trans hB; cases h2)), fun e => absurd (setL_no e) (by rw [q10]; decide), fun e => absurd e (by simp [setL])⟩, fun j hj hl => ?_, ⟨ao', c', hset, hfar, hnb⟩⟩
    match j, hj with
    | 0, _ => exact hs.get (i := 0) (by decide) hl rfl
    | 1, _ => exact hs.get (i := 1) (by decide) hl rfl
    | 2, _ => exact hs.get (i := 2) (by decide) hl rfl
    | 3, _ => exact hs.get (i := 3) (by decide) hl rfl
    | 4, _ => exact hs.get (i := 4) (by decide) hl rfl
    | 5, _ => exact hs.get (i := 5) (by decide) hl rfl
    | 6, _ => exact hs.get (i := 6) (by decide) hl rfl
    | 7, _ => exact hs.get (i := 7) (by decide) hl rfl
    | 8, _ => exact hs.get (i := 8) (by decide) hl rfl
    | 9, _ => exact fun e => absurd (setL_no e) (by rw [q10]; decide)
    | 10, _ => exact ⟨ao', c', e19', hfar, hnb⟩
    | 11, _ => exact hs.get (i := 11) (by decide) hl rfl
    | 12, _ => exact hs.get (i := 12) (by decide) hl rfl
    | 13, _ => rw [nl] at hl; cases hl
  refine wpOp_go hi rfl ?_
  unfold Oper.wp
  have KK := Lib.hid hK
  clear hK hi e21 hset hfar hgr
  generalize a.eval = ρ at *
  go_simp
  exact KK.out
/-- A fact more. -/
def PutP (rb : Nat) (ao : Option Addr) (l : List F11) (nx : Int) (f : F11) (w : World) (e : Ending) (w' : World) : Prop := e = .returned (.int .i64 nx) ∧ ∃ ao' c', Rw w' rb ao' c' (l ++ [f]) (nx + 1) ∧ Touch (RowS rb ao) w w' ∧ NewB ao ao' w.heap.size
set_option maxRecDepth 100000 in
set_option maxHeartbeats 4000000 in
theorem put_any (kind : Int) (vs : List V3) (h6 : vs.length ≤ 6) (hx : ∀ v ∈ vs, v.2.2.size ≤ 281474976710656) (rb : Nat) (ao : Option Addr) (c : Nat) (l : List F11) (nx : Int) (w : World) (hr : Rw w rb ao c l nx) (hl : l.length < 256) (hnx : 0 ≤ nx ∧ nx ≤ 1099511627776) :
    Calls Try.prog 28 #[.pointer (some ⟨rb, 0, none⟩), .agg (sayL kind vs.length (pad6 vs)).toArray] w (PutP rb ao l nx ⟨nx, kind, vs⟩ w) := by
  have HA := Lib.hid (fun W => own_any kind vs.length (pad6 vs) (pad6_length h6) (pad6_texts hx) W)
  have HL : Hid ((sayL kind vs.length (pad6 vs)).length = 20) := by show _ = _; rw [sayL_length, pad6_length h6]
  have HL1 := Lib.hid (sayL_one kind vs.length (pad6 vs))
  have HFin : Hid (cellsFs (l ++ [⟨nx, kind, vs⟩]) = cellsFs l ++ (Value.int .i64 nx :: sayL kind vs.length (pad6 vs))) := by
    show _ = _
    rw [cellsFs_append]
    show _ ++ (factL ⟨nx, kind, vs⟩ ++ []) = _
    rw [List.append_nil]
    rfl
  have HFew : Hid (Few (l ++ [⟨nx, kind, vs⟩])) := fun f hf => by
    rcases List.mem_append.1 hf with h | h
    · exact hr.few f h
    · obtain rfl := List.mem_singleton.1 h
      exact h6
  have HB := Lib.hid (Box.new w 64 (sayL kind vs.length (pad6 vs)))
  have hr0 := hr.old (below_own (.cells (sayL kind vs.length (pad6 vs)).toArray 64))
  have HR0 := Lib.hid hr0
  have HLt : Hid (∀ b, ao = some b → b.block < w.heap.size) := fun b e => by
    subst e
    exact (World.ownsRow.lt hr.own b.block rfl).2
  clear hr hx
  unfold PutP
  generalize sayL kind vs.length (pad6 vs) = L at *
  have HBl : Hid (Below w.heap.size w (w.alloc (.cells L.toArray 64))) := below_own _
  generalize hw1 : w.alloc (.cells L.toArray 64) = w1 at *
  obtain ⟨x0, x1⟩ := hr0.next
  clear hr0
  go_enter Try.func28, Try.ntmps28
  go_upto_region 2 with fail
  clear hw1
  generalize ha0 : ({ tmps := _, defers := _ } : Act) = a0
  have k0 : a0.eval (.tmp 0) = .pointer (some ⟨rb, 0, none⟩) := by rw [← ha0]; rfl
  have k4 : a0.eval (.tmp 4) = .int .i64 nx := by rw [← ha0]; rfl
  have k3 : a0.eval (.tmp 3) = .pointer (some ⟨w.heap.size, 0, none⟩) := by rw [← ha0]; rfl
  have hsz : a0.tmps.size = 30 := by rw [← ha0]; rfl
  have hdf : a0.defers = [] := by rw [← ha0]
  have hL := HL.out
  have hL1 := HL1.out
  have hn : l.length ≤ 256 := by omega
  have hlt : ∀ b, ao = some b → b.block < w1.heap.size := fun b e => Nat.lt_of_lt_of_le (HLt.out b e) HBl.out.size
  have hA := HA.out
  refine wp_region_st putRD (putRF w1 rb w.heap.size ao c l.length nx nx L (cellsFs l)) (putRJ w1 rb w.heap.size ao c l.length nx nx L (cellsFs l)) 14 (by kernel_rfl) (by kernel_rfl) rfl (by kernel_rfl) (by rw [hsz]; kernel_rfl) ⟨(Touch.refl _ w1).step (below_drew (Below.refl _ _)), HB.out, fun _ => HR0.out.own, fun _ => HR0.out.box⟩
      (fun ll aa ww i hi hs nl hw => by
        have h : i = 0 ∨ i = 1 ∨ i = 2 ∨ i = 3 ∨ i = 4 ∨ i = 5 ∨ i = 6 ∨ i = 7 ∨ i = 8 ∨ i = 9 ∨ i = 10 ∨ i = 11 ∨ i = 12 ∨ i = 13 := by omega
        rcases h with rfl | rfl | rfl | rfl | rfl | rfl | rfl | rfl | rfl | rfl | rfl | rfl | rfl | rfl
        · exact putR_s0 _ rb _ ao c _ _ nx L _ (by kernel_rfl) (by kernel_rfl) hL hL1 hn hlt hA k0 k4 k3 hs rfl nl 
        · exact putR_s1 _ rb _ ao c _ _ nx L _ (by kernel_rfl) (by kernel_rfl) hL hL1 hn hlt hA k0 k4 k3 hs rfl nl 
        · exact putR_s2 _ rb _ ao c _ _ nx L _ (by kernel_rfl) (by kernel_rfl) hL hL1 hn hlt hA k0 k4 k3 hs rfl nl (hw 1 (by kernel_rfl))
        · exact putR_s3 _ rb _ ao c _ _ nx L _ (by kernel_rfl) (by kernel_rfl) hL hL1 hn hlt hA k0 k4 k3 hs rfl nl (hw 2 (by kernel_rfl))
        · exact putR_s4 _ rb _ ao c _ _ nx L _ (by kernel_rfl) (by kernel_rfl) hL hL1 hn hlt hA k0 k4 k3 hs rfl nl (hw 3 (by kernel_rfl))
        · exact putR_s5 _ rb _ ao c _ _ nx L _ (by kernel_rfl) (by kernel_rfl) hL hL1 hn hlt hA k0 k4 k3 hs rfl nl 
        · exact putR_s6 _ rb _ ao c _ _ nx L _ (by kernel_rfl) (by kernel_rfl) hL hL1 hn hlt hA k0 k4 k3 hs rfl nl 
        · exact putR_s7 _ rb _ ao c _ _ nx L _ (by kernel_rfl) (by kernel_rfl) hL hL1 hn hlt hA k0 k4 k3 hs rfl nl (hw 6 (by kernel_rfl))
        · exact putR_s8 _ rb _ ao c _ _ nx L _ (by kernel_rfl) (by kernel_rfl) hL hL1 hn hlt hA k0 k4 k3 hs rfl nl (hw 5 (by kernel_rfl)) (hw 7 (by kernel_rfl))
        · exact putR_s9 _ rb _ ao c _ _ nx L _ (by kernel_rfl) (by kernel_rfl) hL hL1 hn hlt hA k0 k4 k3 hs rfl nl (hw 8 (by kernel_rfl))
        · exact putR_s10 _ rb _ ao c _ _ nx L _ (by kernel_rfl) (by kernel_rfl) hL hL1 hn hlt hA k0 k4 k3 hs rfl nl (hw 4 (by kernel_rfl)) (hw 7 (by kernel_rfl)) (hw 9 (by kernel_rfl))
        · exact putR_s11 _ rb _ ao c _ _ nx L _ (by kernel_rfl) (by kernel_rfl) hL hL1 hn hlt hA k0 k4 k3 hs rfl nl (hw 0 (by kernel_rfl)) (hw 1 (by kernel_rfl)) (hw 2 (by kernel_rfl)) (hw 3 (by kernel_rfl)) (hw 4 (by kernel_rfl)) (hw 5 (by kernel_rfl)) (hw 6 (by kernel_rfl)) (hw 7 (by kernel_rfl)) (hw 8 (by kernel_rfl)) (hw 9 (by kernel_rfl)) (hw 10 (by kernel_rfl))
        · exact putR_s12 _ rb _ ao c _ _ nx L _ (by kernel_rfl) (by kernel_rfl) hL hL1 hn hlt hA k0 k4 k3 hs rfl nl (hw 0 (by kernel_rfl)) (hw 1 (by kernel_rfl)) (hw 2 (by kernel_rfl)) (hw 3 (by kernel_rfl)) (hw 4 (by kernel_rfl)) (hw 5 (by kernel_rfl)) (hw 6 (by kernel_rfl)) (hw 7 (by kernel_rfl)) (hw 8 (by kernel_rfl)) (hw 9 (by kernel_rfl)) (hw 10 (by kernel_rfl)) (hw 11 (by kernel_rfl))
        · exact putR_s13 _ rb _ ao c _ _ nx L _ (by kernel_rfl) (by kernel_rfl) hL hL1 hn hlt hA k0 k4 k3 hs rfl nl (hw 0 (by kernel_rfl)) (hw 1 (by kernel_rfl)) (hw 2 (by kernel_rfl)) (hw 3 (by kernel_rfl)) (hw 4 (by kernel_rfl)) (hw 5 (by kernel_rfl)) (hw 6 (by kernel_rfl)) (hw 7 (by kernel_rfl)) (hw 8 (by kernel_rfl)) (hw 9 (by kernel_rfl)) (hw 10 (by kernel_rfl)) (hw 12 (by kernel_rfl)))
    ?_
  intro ll aa W hall hst
  obtain ⟨ao', c', hbx, ho, hnb⟩ := hst.vals 13 (by decide) (hall 13 (by decide))
  have hJ := Lib.hid hst.j.1
  obtain ⟨u18, h18⟩ : ∃ u, u = aa.eval (.tmp 18) := ⟨_, rfl⟩
  obtain ⟨u19, h19⟩ : ∃ u, u = aa.eval (.tmp 19) := ⟨_, rfl⟩
  have hfr := frame_end [(9, .pointer (some ⟨rb, 0, none⟩)), (10, .pointer (some ⟨rb, 0, none⟩)), (11, .pointer (some ⟨rb, 0, none⟩)), (12, .pointer (some ⟨rb, 0, none⟩)), (13, .slice ao l.length c), (14, .int .i64 nx), (15, .agg L.toArray), (16, .agg L.toArray), (17, .agg (Value.int .i64 nx :: L).toArray), (18, u18), (19, u19), (20, .pointer (some ⟨rb, 0, none⟩)), (21, .pointer (some ⟨rb, 0, none⟩))] aa a0 hst.size hst.defs (by
    intro p hp
    simp only [List.mem_cons, List.not_mem_nil, or_false] at hp
    rcases hp with rfl | rfl | rfl | rfl | rfl | rfl | rfl | rfl | rfl | rfl | rfl | rfl | rfl
    · exact hst.get (i := 0) (by decide) (hall 0 (by decide)) rfl
    · exact hst.get (i := 1) (by decide) (hall 1 (by decide)) rfl
    · exact hst.get (i := 2) (by decide) (hall 2 (by decide)) rfl
    · exact hst.get (i := 3) (by decide) (hall 3 (by decide)) rfl
    · exact hst.get (i := 4) (by decide) (hall 4 (by decide)) rfl
    · exact hst.get (i := 5) (by decide) (hall 5 (by decide)) rfl
    · exact hst.get (i := 6) (by decide) (hall 6 (by decide)) rfl
    · exact hst.get (i := 7) (by decide) (hall 7 (by decide)) rfl
    · exact hst.get (i := 8) (by decide) (hall 8 (by decide)) rfl
    · first | exact h18.symm | exact h19.symm | rfl
    · first | exact h18.symm | exact h19.symm | rfl
    · exact hst.get (i := 11) (by decide) (hall 11 (by decide)) rfl
    · exact hst.get (i := 12) (by decide) (hall 12 (by decide)) rfl
    ) (fun t ht => hst.kept t (fun i hi => by
      have h : i = 0 ∨ i = 1 ∨ i = 2 ∨ i = 3 ∨ i = 4 ∨ i = 5 ∨ i = 6 ∨ i = 7 ∨ i = 8 ∨ i = 9 ∨ i = 10 ∨ i = 11 ∨ i = 12 ∨ i = 13 := by omega
      rcases h with rfl | rfl | rfl | rfl | rfl | rfl | rfl | rfl | rfl | rfl | rfl | rfl | rfl | rfl
      · exact fun e => ht (by have e1 := Option.some.inj e; subst e1; simp)
      · exact fun e => ht (by have e1 := Option.some.inj e; subst e1; simp)
      · exact fun e => ht (by have e1 := Option.some.inj e; subst e1; simp)
      · exact fun e => ht (by have e1 := Option.some.inj e; subst e1; simp)
      · exact fun e => ht (by have e1 := Option.some.inj e; subst e1; simp)
      · exact fun e => ht (by have e1 := Option.some.inj e; subst e1; simp)
      · exact fun e => ht (by have e1 := Option.some.inj e; subst e1; simp)
      · exact fun e => ht (by have e1 := Option.some.inj e; subst e1; simp)
      · exact fun e => ht (by have e1 := Option.some.inj e; subst e1; simp)
      · exact fun e => ht (by have e1 := Option.some.inj e; subst e1; simp)
      · exact fun e => ht (by have e1 := Option.some.inj e; subst e1; simp)
      · exact fun e => ht (by have e1 := Option.some.inj e; subst e1; simp)
      · exact fun e => ht (by have e1 := Option.some.inj e; subst e1; simp)
      · exact fun e => by cases e))
  rw [hfr, ← ha0]
  clear hfr
  simp only [List.foldl_cons, List.foldl_nil, Act.put, List.setIfInBounds_toArray, List.set_cons_succ, List.set_cons_zero]
  have HBx := Lib.hid hbx
  have HOw := Lib.hid ho
  have HNb := Lib.hid hnb
  have y0 := hbx.cell 0
  have y1 := hbx.cell 1
  simp only [List.getElem?_cons_zero, List.getElem?_cons_succ] at y0 y1
  have z1 := hbx.frozen 1
  have hw1 : IntKind.i64.wrap (nx + 1) = nx + 1 := IntWalk.i64_in _ (by omega)
  clear h18 h19 hst hall hbx ho hnb k0 k4 k3 hsz hdf ha0 hL hL1 hA HA HB HR0 x0 x1
  go_wp2_with fail
  go_ret
  have hlen : (l ++ [(⟨nx, kind, vs⟩ : F11)]).length = l.length + 1 := by simp
  have hgr := Lib.grownBy_setCell W rb 1 (.int .i64 (nx + 1))
  have hbx2 := HBx.out.set 1 (.int .i64 (nx + 1))
  refine ⟨rfl, ao', c', ⟨?_, ?_, HFew.out, by rw [hlen]; omega⟩, ?_, HNb.out.up HBl.out.size⟩
  · rw [hlen]
    exact hbx2
  · rw [hlen, HFin.out]
    exact owns_far (e' := 74) HOw.out (by decide) hgr (fun k hk => by obtain rfl := Option.some.inj hk; exact ⟨_, _, HBx.out⟩)
  · have h1 : Touch (RowS rb ao) w w1 := (Touch.refl _ w).step HBl.out
    have h2 : Touch (RowS rb ao) w W := h1.trans hJ.out
    exact h2.grown hgr (fun k hk => by obtain rfl := Option.some.inj hk; exact Or.inl (Or.inl rfl))
end Go.Proofs.Ytajhngkdnkbfcaa
