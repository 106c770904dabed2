/- What says the same: two structs with an array are compared. -/
import Derived.Test.YtajhngkdnkbfcaaTell11
namespace Go.Proofs.Ytajhngkdnkbfcaa
open Go.RowKit

theorem eqIn8 (x1 x2 y1 y2 : Int) (x3 y3 : ByteArray) (w : World) :
    (Op.equalIn 9998 33 (.agg #[.int .u8 x1, .int .i64 x2, .string x3]) (.agg #[.int .u8 y1, .int .i64 y2, .string y3])).run Try.prog w = .ok (eqvB (x1, x2, x3) (y1, y2, y3)) w := by
  have hS : Try.prog.underlying 33 = some (.struct (Try.prog.fieldsOf 33)) := by kernel_rfl
  have hp : Try.prog.stoodInHeld 33 = false := by kernel_rfl
  have u1 := Try.underlying31
  have u2 := Try.underlying2
  have u3 := Try.underlying9
  have a1 := Try.isAgg31
  have a2 := Try.isAgg2
  have a3 := Try.isAgg9
  have z1 := Try.sizeOf31
  have z2 := Try.sizeOf2
  have z3 := Try.sizeOf9
  rw [show (9998 : Nat) = 9997 + 1 from rfl, run_equalIn_agg w 9997 33 _ _ hS hp]
  simp only [Program.fieldsOf, Try.underlying33]
  go_simp
  unfold eqvB
  cases h1 : (x1 == y1) <;> cases h2 : (x2 == y2) <;> cases h3 : (x3.toList == y3.toList) <;> simp_all
abbrev agg3 (v : V3) : Value := .agg #[.int .u8 v.1, .int .i64 v.2.1, .string v.2.2]
theorem part_run (l : List V3) (hl : l.length = 6) (k : Nat) (hk : k < 6) (W : World) : (part 33 (cellsV l).toArray (k * 3)).run Try.prog W = .ok (agg3 (l.getD k zeroT)) W := by
  obtain ⟨a, b, c, d, e, f, rfl⟩ := six_of hl
  have h6 : k = 0 ∨ k = 1 ∨ k = 2 ∨ k = 3 ∨ k = 4 ∨ k = 5 := by omega
  clear hl hk
  rcases h6 with rfl | rfl | rfl | rfl | rfl | rfl
  all_goals (show Sem.run _ _ _ = _; kernel_rfl)
theorem items_run (l m : List V3) (hl : l.length = 6) (hm : m.length = 6) (W : World) : ∀ (is : List Nat), (∀ k ∈ is, k < 6) → (Op.eqItems 9998 33 3 (cellsV l).toArray (cellsV m).toArray is).run Try.prog W = .ok (is.all fun k => eqvB (l.getD k zeroT) (m.getD k zeroT)) W
  | [], _ => by simp [Op.eqItems]
  | k :: is, h => by
    have hk := h k (by simp)
    have p1 := part_run l hl k hk W
    have p2 := part_run m hm k hk W
    have p3 := eqIn8 (l.getD k zeroT).1 (l.getD k zeroT).2.1 (m.getD k zeroT).1 (m.getD k zeroT).2.1 (l.getD k zeroT).2.2 (m.getD k zeroT).2.2 W
    have ih := items_run l m hl hm W is (fun j hj => h j (by simp [hj]))
    rw [show ((l.getD k zeroT).1, (l.getD k zeroT).2.1, (l.getD k zeroT).2.2) = l.getD k zeroT from rfl, show ((m.getD k zeroT).1, (m.getD k zeroT).2.1, (m.getD k zeroT).2.2) = m.getD k zeroT from rfl] at p3
    simp only [Op.eqItems, Sem.run_bind, p1, p2, p3, Result.andThen_ok, List.all_cons]
    cases eqvB (l.getD k zeroT) (m.getD k zeroT)
    · simp
    · simpa using ih
/-- Six values, each held against its like. -/
def eq6 (l m : List V3) : Bool := (List.range 6).all fun k => eqvB (l.getD k zeroT) (m.getD k zeroT)
theorem eq6_iff {l m : List V3} (hl : l.length = 6) (hm : m.length = 6) : eq6 l m = true ↔ l = m := by
  unfold eq6
  rw [List.all_eq_true]
  constructor
  · intro h
    apply List.ext_getElem (by omega)
    intro k h1 h2
    have := (eqvB_iff _ _).1 (h k (List.mem_range.2 (by omega)))
    rwa [List.getD_eq_getElem?_getD, List.getD_eq_getElem?_getD, List.getElem?_eq_getElem h1, List.getElem?_eq_getElem h2] at this
  · rintro rfl k _
    exact (eqvB_iff _ _).2 rfl
theorem eqArr (l m : List V3) (hl : l.length = 6) (hm : m.length = 6) (W : World) : (Op.equalIn 9999 62 (.agg (cellsV l).toArray) (.agg (cellsV m).toArray)).run Try.prog W = .ok (eq6 l m) W := by
  obtain ⟨i, hi⟩ : ∃ i, Try.prog.info? 33 = some i := by
    obtain ⟨i0, hi, -⟩ := info_parts infoV
    exact ⟨i0, hi⟩
  rw [show (9999 : Nat) = 9998 + 1 from rfl, run_equalIn_array W 9998 (cellsV l).toArray (cellsV m).toArray Try.underlying62 hi]
  have hc : Try.prog.cellsOf 33 = 3 := by kernel_rfl
  rw [hc]
  exact items_run l m hl hm W _ (fun k hk => List.mem_range.1 hk)
theorem ext_say (k n : Int) (l : List V3) (hl : l.length = 6) : (sayL k n l).toArray.extract 2 20 = (cellsV l).toArray := by
  have h : (cellsV l).length = 18 := by rw [cellsV_length, hl]
  apply Array.toList_inj.1
  simp only [sayL, Array.toList_extract, List.extract_eq_take_drop]
  show ((cellsV l).take 18) = _
  rw [List.take_of_length_le (by omega)]
theorem eqSay (k1 n1 k2 n2 : Int) (l m : List V3) (hl : l.length = 6) (hm : m.length = 6) (W : World) :
    (binOp .eql 64 (.agg (sayL k1 n1 l).toArray) (.agg (sayL k2 n2 m).toArray)).run Try.prog W = .ok (.bool ((k1 == k2) && ((n1 == n2) && eq6 l m))) W := by
  have hS : Try.prog.underlying 64 = some (.struct (Try.prog.fieldsOf 64)) := by kernel_rfl
  have hp : Try.prog.stoodInHeld 64 = false := by kernel_rfl
  have HA := eqArr l m hl hm W
  have p1 : (sayL k1 n1 l).toArray.extract 2 20 = (cellsV l).toArray := by
    exact ext_say _ _ l hl
  have p2 : (sayL k2 n2 m).toArray.extract 2 20 = (cellsV m).toArray := by
    exact ext_say _ _ m hm
  have q1 : (sayL k1 n1 l).toArray[0]? = some (.int .i64 k1) := rfl
  have q2 : (sayL k2 n2 m).toArray[0]? = some (.int .i64 k2) := rfl
  have r1 : (sayL k1 n1 l).toArray[1]? = some (.int .i64 n1) := rfl
  have r2 : (sayL k2 n2 m).toArray[1]? = some (.int .i64 n2) := rfl
  have u2 := Try.underlying3
  rw [run_eql_struct, show (10000 : Nat) = 9999 + 1 from rfl, run_equalIn_agg W 9999 64 _ _ hS hp]
  generalize (sayL k1 n1 l).toArray = X at *
  generalize (sayL k2 n2 m).toArray = Y at *
  simp only [Program.fieldsOf, Try.underlying64]
  go_simp
  clear HA p1 p2 q1 q2 r1 r2 u2 hS hp hl hm
  cases h1 : (k1 == k2) <;> cases h2 : (n1 == n2) <;> cases h3 : (eq6 l m) <;> simp_all
/-- Two sayings are one just if type and values are. -/
theorem say_same {k1 k2 : Int} {vs ws : List V3} (h1 : vs.length ≤ 6) (h2 : ws.length ≤ 6) : ((k1 == k2) && (((vs.length : Int) == (ws.length : Int)) && eq6 (pad6 vs) (pad6 ws))) = decide (k1 = k2 ∧ vs = ws) := by
  rw [Bool.eq_iff_iff]
  simp only [Bool.and_eq_true, beq_iff_eq, decide_eq_true_eq]
  rw [eq6_iff (pad6_length h1) (pad6_length h2)]
  constructor
  · rintro ⟨h, h3, h4⟩
    have h3' : vs.length = ws.length := by omega
    have e := congrArg (List.take vs.length) h4
    rw [pad6_take, h3', pad6_take] at e
    exact ⟨h, e⟩
  · rintro ⟨rfl, rfl⟩
    exact ⟨rfl, rfl, rfl⟩
end Go.Proofs.Ytajhngkdnkbfcaa
