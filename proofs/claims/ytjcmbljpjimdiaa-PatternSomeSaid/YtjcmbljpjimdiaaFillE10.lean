/- PatternFills: what its loops find; plainly. -/
import Derived.Test.YtjcmbljpjimdiaaFillC10
namespace Go.Proofs.Ytjcmbljpjimdiaa
open Go.RowKit

theorem zip_get {cl : List A10} {fl : List V3} (hl : fl.length = cl.length) {j : Nat} (hj : j < cl.length) : (cl.zip fl)[j]? = some (cl[j], fl.getD j zeroT) := by
  rw [List.getElem?_eq_getElem (by rw [List.length_zip, hl, Nat.min_self]; exact hj), List.getElem_zip, List.getD_eq_getElem?_getD, List.getElem?_eq_getElem (by omega)]
  rfl
/-- What a round of the first loop finds. -/
theorem round10 {cl : List A10} {fl : List V3} {e0 en : E10} {n : Nat} (he : Even n e0) (hl : fl.length = cl.length) (hf : fitsP (cl.zip fl) e0 = some en) {j : Nat} (hj : j < cl.length) :
    cl[j].kind = 1 ∨ cl[j].kind = 2 ∨ (cl[j].kind = 3 ∧ ∃ k : Nat, cl[j].var = k ∧ k < n ∧ ((∃ i, lastP 0 ((cl.zip fl).take j) k = some i ∧ i < cl.length ∧ fl.getD i zeroT = fl.getD j zeroT) ∨ (lastP 0 ((cl.zip fl).take j) k = none ∧ e0.1.getD k false = true ∧ e0.2.getD k zeroT = fl.getD j zeroT))) ∨ (cl[j].kind = 4 ∧ cl[j].val = fl.getD j zeroT) := by
  have hz : j < (cl.zip fl).length := by rw [List.length_zip, hl, Nat.min_self]; exact hj
  have hzj : (cl.zip fl)[j] = (cl[j], fl.getD j zeroT) := by
    have := zip_get hl hj
    rw [List.getElem?_eq_getElem hz] at this
    exact Option.some.inj this
  obtain ⟨e1, h1, h2⟩ := fitsP_at hf j
  have hT := told_at he j (by omega) e1 h1
  have hE := fitsP_even h1 he
  rw [← List.getElem_cons_drop (h := hz), fitsP, hzj] at h2
  split at h2
  · rename_i e2 h3
    rcases fit1_some h3 with ⟨hk, -⟩ | ⟨hk, -⟩ | ⟨hk, -, k, hv, hlt, h4, h5⟩ | ⟨hk, -, h5⟩
    · exact Or.inl hk
    · exact Or.inr (Or.inl hk)
    · refine Or.inr (Or.inr (Or.inl ⟨hk, k, hv, hE.1 ▸ hlt, ?_⟩))
      have h5 : e1.2.getD k zeroT = fl.getD j zeroT := (eqvB_iff _ _).1 h5
      cases hb : lastP 0 ((cl.zip fl).take j) (k : Int) with
      | none =>
        obtain ⟨q1, q2⟩ := (hT k).2 hb
        refine Or.inr ⟨rfl, ?_, ?_⟩
        · rw [List.getD_eq_getElem?_getD, ← q1, ← List.getD_eq_getElem?_getD]; exact h4
        · rw [List.getD_eq_getElem?_getD, ← q2, ← List.getD_eq_getElem?_getD]; exact h5
      | some i =>
        obtain ⟨p, hp, q1, q2⟩ := (hT k).1 i hb
        have hil := (lastP_lt hb).2
        rw [List.length_take] at hil
        have hic : i < cl.length := by omega
        refine Or.inl ⟨i, rfl, hic, ?_⟩
        rw [List.getElem?_take, if_pos (by omega), zip_get hl hic] at hp
        have h6 : p.2 = fl.getD j zeroT := by
          rw [← h5, List.getD_eq_getElem?_getD (l := e1.2), q2]
          rfl
        have h7 : fl.getD i zeroT = p.2 := congrArg Prod.snd (Option.some.inj hp)
        exact h7.trans h6
    · exact Or.inr (Or.inr (Or.inr ⟨hk, (eqvB_iff _ _).1 h5⟩))
  · cases h2
/-- What a round of the second loop finds. -/
theorem round10b {cl : List A10} {fl : List V3} {e0 en : E10} {n : Nat} (he : Even n e0) (hl : fl.length = cl.length) (hf : fitsP (cl.zip fl) e0 = some en) (k : Nat) :
    (∃ i, lastP 0 (cl.zip fl) k = some i ∧ i < cl.length ∧ en.1.getD k false = true ∧ en.2.getD k zeroT = fl.getD i zeroT) ∨ (lastP 0 (cl.zip fl) k = none ∧ en.1.getD k false = e0.1.getD k false ∧ en.2.getD k zeroT = e0.2.getD k zeroT) := by
  have hT : Told10 (cl.zip fl) e0 en := by
    have := told_at he (cl.zip fl).length (Nat.le_refl _) en (by rw [List.take_length]; exact hf)
    rwa [List.take_length] at this
  cases hb : lastP 0 (cl.zip fl) (k : Int) with
  | none =>
    obtain ⟨q1, q2⟩ := (hT k).2 hb
    exact Or.inr ⟨rfl, by rw [List.getD_eq_getElem?_getD, q1, ← List.getD_eq_getElem?_getD], by rw [List.getD_eq_getElem?_getD, q2, ← List.getD_eq_getElem?_getD]⟩
  | some i =>
    obtain ⟨p, hp, q1, q2⟩ := (hT k).1 i hb
    have hil := (lastP_lt hb).2
    rw [List.length_zip, hl, Nat.min_self] at hil
    have hic : i < cl.length := by omega
    rw [zip_get hl hic] at hp
    refine Or.inl ⟨i, rfl, hic, by rw [List.getD_eq_getElem?_getD, q1]; rfl, ?_⟩
    have h7 : fl.getD i zeroT = p.2 := congrArg Prod.snd (Option.some.inj hp)
    rw [h7, List.getD_eq_getElem?_getD, q2]
    rfl
/-- What the maps tell behind a round. -/
theorem late_take {cl : List A10} {j : Nat} (hj : j < cl.length) : late10 (cl.take (j + 1)) = (late10 (cl.take j) || (decide (cl[j].kind = 2) && asked10 (cl.take j) cl[j].var)) := by
  rw [take_snoc cl j hj, late_snoc]
theorem lastF_take {cl : List A10} {fl : List V3} (hl : fl.length = cl.length) {j : Nat} (hj : j < cl.length) : lastF ((cl.zip fl).take (j + 1)) = fun x => if cl[j].kind = 2 ∧ cl[j].var = x then some (.int .i64 (j : Nat)) else lastF ((cl.zip fl).take j) x := by
  have hz : j < (cl.zip fl).length := by rw [List.length_zip, hl, Nat.min_self]; exact hj
  rw [take_snoc _ j hz, lastF_snoc, List.getElem_zip, List.length_take, Nat.min_eq_left (by omega)]
theorem askedF_take {cl : List A10} {j : Nat} (hj : j < cl.length) : askedF (cl.take (j + 1)) = fun x => if cl[j].kind = 3 ∧ cl[j].var = x then some (.bool true) else askedF (cl.take j) x := by
  rw [take_snoc cl j hj, askedF_snoc]
theorem asked_get (l : List A10) (x : Int) : (askedF l x).getD (.bool false) = .bool (asked10 l x) := by
  unfold askedF
  cases asked10 l x <;> rfl
theorem IMap.empty {w : World} {b : Nat} (h : w.heap[b]? = some (.map #[] 0)) : IMap w b (fun _ => none) :=
  ⟨[], #[], 0, h, rfl, List.nodup_nil, (fun p h => by cases h), fun x v => ⟨(fun h => by cases h), (fun h => by cases h)⟩⟩
/-- A round's look-ups, and its stores. -/
theorem IMap.same {w : World} {b : Nat} {f g : Int → Option Value} (h : IMap w b f) (e : f = g) : IMap w b g := e ▸ h
theorem zeroI (w : World) : (zeroValue 3).run Try.prog w = .ok (.int .i64 0) w := by kernel_rfl
theorem zeroB (w : World) : (zeroValue 4).run Try.prog w = .ok (.bool false) w := by kernel_rfl
theorem look51 {w : World} {b : Nat} {f : Int → Option Value} (h : IMap w b f) {x : Int} (hx : In64 x) : (Instr.lookup 51 (.map (some b)) (.int .i64 x) true).run Try.prog w = .ok (.tuple #[(f x).getD (.int .i64 0), .bool (f x).isSome]) w :=
  h.look (P := Try.prog) (kt := 3) (et := 3) true (.int .i64 0) Try.underlying3 Try.underlying51 (zeroI w) hx
theorem look52 {w : World} {b : Nat} {l : List A10} (h : IMap w b (askedF l)) {x : Int} (hx : In64 x) : (Instr.lookup 52 (.map (some b)) (.int .i64 x) false).run Try.prog w = .ok (.bool (asked10 l x)) w := by
  have := h.look (P := Try.prog) (kt := 3) (et := 4) (t := 52) false (.bool false) Try.underlying3 Try.underlying52 (zeroB w) hx
  rw [this, asked_get]
  rfl
theorem put51 {w : World} {b : Nat} {f : Int → Option Value} (h : IMap w b f) {x : Int} (hx : In64 x) (val : Value) : ∃ w', (Instr.mapUpdate 51 (.map (some b)) (.int .i64 x) val).run Try.prog w = .ok () w' ∧ w.grownBy w' (some b) ∧ w'.heap.size = w.heap.size ∧ IMap w' b (fun y => if y = x then some val else f y) :=
  h.put (P := Try.prog) (kt := 3) (et := 3) Try.underlying3 Try.underlying51 hx val
theorem put52 {w : World} {b : Nat} {f : Int → Option Value} (h : IMap w b f) {x : Int} (hx : In64 x) (val : Value) : ∃ w', (Instr.mapUpdate 52 (.map (some b)) (.int .i64 x) val).run Try.prog w = .ok () w' ∧ w.grownBy w' (some b) ∧ w'.heap.size = w.heap.size ∧ IMap w' b (fun y => if y = x then some val else f y) :=
  h.put (P := Try.prog) (kt := 3) (et := 4) Try.underlying3 Try.underlying52 hx val
end Go.Proofs.Ytjcmbljpjimdiaa
