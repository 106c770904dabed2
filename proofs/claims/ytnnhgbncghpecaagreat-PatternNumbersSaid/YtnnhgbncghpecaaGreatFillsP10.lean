/- What matches fits, argument by argument: plainly. -/
import Derived.Test.YtnnhgbncghpecaaGreatPlain10
namespace Go.Proofs.YtnnhgbncghpecaaGreat
open Go.RowKit

/-- By which argument a variable was bound last. -/
def lastP (k : Nat) : List (A10 × V3) → Int → Option Nat
  | [], _ => none
  | p :: l, x => match lastP (k + 1) l x with
    | some j => some j
    | none => if p.1.kind = 2 ∧ p.1.var = x then some k else none
theorem lastP_snoc (p : A10 × V3) (x : Int) : ∀ (l : List (A10 × V3)) (k : Nat), lastP k (l ++ [p]) x = if p.1.kind = 2 ∧ p.1.var = x then some (k + l.length) else lastP k l x
  | [], k => by
    simp only [List.nil_append, lastP, List.length_nil, Nat.add_zero]
  | q :: l, k => by
    rw [List.cons_append, lastP, lastP_snoc p x l (k + 1), lastP]
    by_cases h : p.1.kind = 2 ∧ p.1.var = x
    · rw [if_pos h, if_pos h, List.length_cons]
      show some _ = some _
      congr 1
      omega
    · rw [if_neg h, if_neg h]
theorem lastP_lt {x : Int} : ∀ {l : List (A10 × V3)} {k j : Nat}, lastP k l x = some j → k ≤ j ∧ j < k + l.length
  | [], k, j, h => by cases h
  | p :: l, k, j, h => by
    rw [lastP] at h
    rw [List.length_cons]
    split at h
    · rename_i j' h'
      obtain rfl := Option.some.inj h
      have := lastP_lt h'
      omega
    · split at h
      · obtain rfl := Option.some.inj h
        omega
      · cases h
/-- Is a variable bound behind being asked for? -/
def late10 : List A10 → Bool
  | [] => false
  | a :: l => (decide (a.kind = 3) && l.any fun b => decide (b.kind = 2) && decide (b.var = a.var)) || late10 l

/-- An env's variables are told by who bound them last. -/
def Told10 (ps : List (A10 × V3)) (e0 e : E10) : Prop :=
  ∀ j : Nat, (∀ k, lastP 0 ps j = some k → ∃ p, ps[k]? = some p ∧ e.1[j]? = some true ∧ e.2[j]? = some p.2) ∧ (lastP 0 ps j = none → e.1[j]? = e0.1[j]? ∧ e.2[j]? = e0.2[j]?)
theorem told_nil (e : E10) : Told10 [] e e := fun j => ⟨(fun k h => by cases h), fun _ => ⟨rfl, rfl⟩⟩
theorem told_keep {l : List (A10 × V3)} {p : A10 × V3} {e0 e : E10} (h : Told10 l e0 e) (hk : p.1.kind ≠ 2) : Told10 (l ++ [p]) e0 e := fun j => by
  rw [lastP_snoc, if_neg (fun h => hk h.1)]
  refine ⟨fun k hk' => ?_, (h j).2⟩
  obtain ⟨q, h1, h2⟩ := (h j).1 k hk'
  exact ⟨q, by rw [List.getElem?_append_left (List.getElem?_eq_some_iff.1 h1).1]; exact h1, h2⟩
theorem told_bind {l : List (A10 × V3)} {p : A10 × V3} {e0 e : E10} {n i : Nat} (h : Told10 l e0 e) (hk : p.1.kind = 2) (hv : p.1.var = i) (hi : i < n) (he : Even n e) : Told10 (l ++ [p]) e0 (bind10 i p.2 e) := fun j => by
  rw [lastP_snoc]
  by_cases hj : p.1.var = j
  · rw [if_pos ⟨hk, hj⟩]
    obtain rfl : i = j := by omega
    refine ⟨fun k h' => ?_, fun h' => by cases h'⟩
    obtain rfl := Option.some.inj h'
    refine ⟨p, by simp, ?_, ?_⟩
    · simp [bind10, he.1, hi]
    · simp [bind10, he.2, hi]
  · rw [if_neg (fun h => hj h.2)]
    have hij : i ≠ j := fun e => hj (by rw [hv, e])
    have e1 : (bind10 i p.2 e).1[j]? = e.1[j]? := by simp [bind10, hij]
    have e2 : (bind10 i p.2 e).2[j]? = e.2[j]? := by simp [bind10, hij]
    rw [e1, e2]
    refine ⟨fun k hk' => ?_, (h j).2⟩
    obtain ⟨q, h1, h2⟩ := (h j).1 k hk'
    exact ⟨q, by rw [List.getElem?_append_left (List.getElem?_eq_some_iff.1 h1).1]; exact h1, h2⟩
/-- What fits, by kinds. -/
theorem fit1_some {a : A10} {v : V3} {e e' : E10} (h : fit1 a v e = some e') :
    (a.kind = 1 ∧ e' = e) ∨ (a.kind = 2 ∧ ∃ k : Nat, a.var = k ∧ k < e.1.length ∧ e' = bind10 k v e) ∨ (a.kind = 3 ∧ e' = e ∧ ∃ k : Nat, a.var = k ∧ k < e.1.length ∧ e.1.getD k false = true ∧ eqvB (e.2.getD k zeroT) v = true) ∨ (a.kind = 4 ∧ e' = e ∧ eqvB a.val v = true) := by
  unfold fit1 at h
  split at h
  · exact Or.inl ⟨by assumption, (Option.some.inj h).symm⟩
  split at h
  · split at h
    · rename_i h1
      obtain ⟨k, hk, hl⟩ := known10_iff.1 h1
      refine Or.inr (Or.inl ⟨by assumption, k, hk, hl, ?_⟩)
      rw [hk] at h
      exact (Option.some.inj h).symm
    · cases h
  split at h
  · split at h
    · rename_i h1
      simp only [Bool.and_eq_true] at h1
      obtain ⟨h2, h3, h4⟩ := h1
      obtain ⟨k, hk, hl⟩ := known10_iff.1 h2
      rw [hk] at h3 h4
      exact Or.inr (Or.inr (Or.inl ⟨by assumption, (Option.some.inj h).symm, k, hk, hl, h3, h4⟩))
    · cases h
  split at h
  · split at h
    · exact Or.inr (Or.inr (Or.inr ⟨by assumption, (Option.some.inj h).symm, by assumption⟩))
    · cases h
  · cases h
theorem told_step {l : List (A10 × V3)} {p : A10 × V3} {e0 e e' : E10} {n : Nat} (h : Told10 l e0 e) (he : Even n e) (hf : fit1 p.1 p.2 e = some e') : Told10 (l ++ [p]) e0 e' := by
  rcases fit1_some hf with ⟨hk, rfl⟩ | ⟨hk, k, hv, hl, rfl⟩ | ⟨hk, rfl, -⟩ | ⟨hk, rfl, -⟩
  · exact told_keep h (by omega)
  · exact told_bind h hk hv (he.1 ▸ hl) he
  · exact told_keep h (by omega)
  · exact told_keep h (by omega)
/-- A beginning of what fits fits. -/
theorem fitsP_at {ps : List (A10 × V3)} {e e' : E10} (h : fitsP ps e = some e') (i : Nat) : ∃ e1, fitsP (ps.take i) e = some e1 ∧ fitsP (ps.drop i) e1 = some e' := by
  rw [← List.take_append_drop i ps, fitsP_append] at h
  cases h1 : fitsP (ps.take i) e with
  | none => rw [h1] at h; cases h
  | some e1 => rw [h1] at h; exact ⟨e1, rfl, h⟩
theorem told_at {ps : List (A10 × V3)} {e0 : E10} {n : Nat} (he : Even n e0) : ∀ (i : Nat), i ≤ ps.length → ∀ e1, fitsP (ps.take i) e0 = some e1 → Told10 (ps.take i) e0 e1 := by
  intro i
  induction i with
  | zero => intro _ e1 h; obtain rfl := Option.some.inj h; exact told_nil e0
  | succ i ih =>
    intro hi e1 h
    rw [take_snoc ps i (by omega)] at h ⊢
    obtain ⟨e2, h2⟩ : ∃ e2, fitsP (ps.take i) e0 = some e2 := by
      rw [fitsP_append] at h
      cases h3 : fitsP (ps.take i) e0 with
      | none => rw [h3] at h; cases h
      | some e2 => exact ⟨e2, rfl⟩
    rw [fitsP_snoc h2] at h
    exact told_step (ih (by omega) e2 h2) (fitsP_even h2 he) h

/-- The way once more, under what was told: what was bound ahead is as it was on the first way, all else as it is at the end. -/
def Again10 (ps : List (A10 × V3)) (e1 en r : E10) : Prop :=
  ∀ j : Nat, (lastP 0 ps j ≠ none → r.1[j]? = e1.1[j]? ∧ r.2[j]? = e1.2[j]?) ∧ (lastP 0 ps j = none → r.1[j]? = en.1[j]? ∧ r.2[j]? = en.2[j]?)
theorem late_false {l : List (A10 × V3)} {p : A10 × V3} {m : List (A10 × V3)} (h : late10 ((l ++ p :: m).map Prod.fst) = false) (hk : p.1.kind = 3) : ∀ q, q ∈ m → q.1.kind = 2 → q.1.var ≠ p.1.var := by
  intro q hq hq2 hv
  induction l with
  | nil =>
    simp only [List.nil_append, List.map_cons, late10, Bool.or_eq_false_iff, Bool.and_eq_false_imp, decide_eq_true_eq] at h
    have := h.1 hk
    rw [List.any_eq_false] at this
    exact this q.1 (List.mem_map_of_mem hq) (by simp [hq2, hv])
  | cons x l ih =>
    simp only [List.cons_append, List.map_cons, late10, Bool.or_eq_false_iff] at h
    exact ih h.2
theorem lastP_none {x : Int} : ∀ {l : List (A10 × V3)} {k : Nat}, (∀ q, q ∈ l → q.1.kind = 2 → q.1.var ≠ x) → lastP k l x = none
  | [], _, _ => rfl
  | p :: l, k, h => by
    rw [lastP, lastP_none (fun q hq => h q (List.mem_cons_of_mem _ hq))]
    show (if _ then _ else _) = _
    rw [if_neg (fun hp => h p (by simp) hp.1 hp.2)]
theorem lastP_append {x : Int} (m : List (A10 × V3)) : ∀ {l : List (A10 × V3)} {k : Nat}, lastP (k + l.length) m x = none → lastP k (l ++ m) x = lastP k l x
  | [], k, h => h
  | p :: l, k, h => by
    rw [List.cons_append, lastP, lastP, lastP_append m (by rw [List.length_cons] at h; rw [show k + 1 + l.length = k + (l.length + 1) by omega]; exact h)]
theorem again_step {ps : List (A10 × V3)} {e0 en : E10} {n : Nat} (he : Even n e0) (hn : Even n en) (hf : fitsP ps e0 = some en) (hl : late10 (ps.map Prod.fst) = false) :
    ∀ i, i ≤ ps.length → ∀ e1, fitsP (ps.take i) e0 = some e1 → ∃ r, fitsP (ps.take i) en = some r ∧ Again10 (ps.take i) e1 en r := by
  have hT : Told10 ps e0 en := by
    have := told_at he ps.length (Nat.le_refl _) en (by rw [List.take_length]; exact hf)
    rwa [List.take_length] at this
  intro i
  induction i with
  | zero => intro _ e1 _; exact ⟨en, rfl, fun j => ⟨fun h => absurd rfl h, fun _ => ⟨rfl, rfl⟩⟩⟩
  | succ i ih =>
    intro hi e1 h
    obtain ⟨e2, h2, -⟩ := fitsP_at hf i
    obtain ⟨r, hr, ha⟩ := ih (by omega) e2 h2
    have hE2 := fitsP_even h2 he
    have hEr := fitsP_even hr hn
    have hT2 := told_at he i (by omega) e2 h2
    rw [take_snoc ps i (by omega)] at h ⊢
    rw [fitsP_snoc h2] at h
    rw [fitsP_snoc hr]
    have keep : ps[i].1.kind ≠ 2 → e1 = e2 → Again10 (ps.take i ++ [ps[i]]) e1 en r := fun hk e j => by
      rw [lastP_snoc, if_neg (fun h => hk h.1), e]
      exact ha j
    rcases fit1_some h with ⟨hk, rfl⟩ | ⟨hk, k, hv, hlt, rfl⟩ | ⟨hk, rfl, k, hv, hlt, h3, h4⟩ | ⟨hk, rfl, h3⟩
    · exact ⟨r, by unfold fit1; rw [if_pos hk], keep (by omega) rfl⟩
    · refine ⟨bind10 k ps[i].2 r, ?_, fun j => ?_⟩
      · unfold fit1
        rw [if_neg (by omega), if_pos hk, if_pos (known10_iff.2 ⟨k, hv, by rw [hEr.1, ← hE2.1]; exact hlt⟩), hv]
        rfl
      · rw [lastP_snoc]
        by_cases hj : ps[i].1.var = (j : Int)
        · rw [if_pos ⟨hk, hj⟩]
          obtain rfl : k = j := by omega
          refine ⟨fun _ => ?_, fun h => by cases h⟩
          constructor
          · have h1 : k < r.1.length := by rw [hEr.1, ← hE2.1]; exact hlt
            simp [bind10, h1, hlt]
          · have h1 : k < r.2.length := by rw [hEr.2, ← hE2.1]; exact hlt
            have h2 : k < e2.2.length := by rw [hE2.2, ← hE2.1]; exact hlt
            simp [bind10, h1, h2]
        · rw [if_neg (fun h => hj h.2)]
          have hkj : k ≠ j := fun e => hj (by rw [hv, e])
          have x1 : (bind10 k ps[i].2 r).1[j]? = r.1[j]? := by simp [bind10, hkj]
          have x2 : (bind10 k ps[i].2 r).2[j]? = r.2[j]? := by simp [bind10, hkj]
          have x3 : (bind10 k ps[i].2 e2).1[j]? = e2.1[j]? := by simp [bind10, hkj]
          have x4 : (bind10 k ps[i].2 e2).2[j]? = e2.2[j]? := by simp [bind10, hkj]
          rw [x1, x2, x3, x4]
          exact ha j
    · refine ⟨r, ?_, keep (by omega) rfl⟩
      have hsame : r.1[k]? = e1.1[k]? ∧ r.2[k]? = e1.2[k]? := by
        by_cases hb : lastP 0 (ps.take i) k = none
        · have hno : lastP (0 + (ps.take i).length) (ps.drop i) (k : Int) = none := by
            refine lastP_none fun q hq hq2 hv2 => ?_
            rw [← List.getElem_cons_drop (h := (by omega : i < ps.length))] at hq
            rcases List.mem_cons.1 hq with hq | hq
            · rw [hq] at hq2
              omega
            · refine late_false (l := ps.take i) (p := ps[i]) (m := ps.drop (i + 1)) ?_ hk q hq hq2 (by rw [hv2, hv])
              rw [List.getElem_cons_drop, List.take_append_drop]
              exact hl
          have hall : lastP 0 ps (k : Int) = none := by
            have := lastP_append (x := (k : Int)) (ps.drop i) (l := ps.take i) (k := 0) hno
            rw [List.take_append_drop] at this
            rw [this, hb]
          have y1 := (ha k).2 hb
          have y2 := (hT k).2 hall
          have y3 := (hT2 k).2 hb
          exact ⟨y1.1.trans (y2.1.trans y3.1.symm), y1.2.trans (y2.2.trans y3.2.symm)⟩
        · exact (ha k).1 hb
      unfold fit1
      rw [if_neg (by omega), if_neg (by omega), if_pos hk, if_pos]
      simp only [Bool.and_eq_true]
      refine ⟨known10_iff.2 ⟨k, hv, by rw [hEr.1, ← hE2.1]; exact hlt⟩, ?_, ?_⟩
      · rw [hv]
        simpa [List.getD_eq_getElem?_getD, hsame.1] using h3
      · rw [hv]
        simpa [List.getD_eq_getElem?_getD, hsame.2] using h4
    · refine ⟨r, ?_, keep (by omega) rfl⟩
      unfold fit1
      rw [if_neg (by omega), if_neg (by omega), if_neg (by omega), if_pos hk, if_pos h3]
/-- Matched once more, under what was told, it tells the same. -/
theorem fits_again {ps : List (A10 × V3)} {e0 en : E10} {n : Nat} (he : Even n e0) (hf : fitsP ps e0 = some en) (hl : late10 (ps.map Prod.fst) = false) : fitsP ps en = some en := by
  have hn := fitsP_even hf he
  obtain ⟨r, hr, ha⟩ := again_step he hn hf hl ps.length (Nat.le_refl _) en (by rw [List.take_length]; exact hf)
  rw [List.take_length] at hr ha
  rw [hr]
  congr 1
  refine Prod.ext (List.ext_getElem? fun j => ?_) (List.ext_getElem? fun j => ?_)
  · by_cases hb : lastP 0 ps j = none
    · exact ((ha j).2 hb).1
    · exact ((ha j).1 hb).1
  · by_cases hb : lastP 0 ps j = none
    · exact ((ha j).2 hb).2
    · exact ((ha j).1 hb).2
/-- An env that has a variable more. -/
theorem fits_wide (v : V3) {n : Nat} : ∀ {ps : List (A10 × V3)} {e e' : E10}, Even n e → fitsP ps e = some e' → fitsP ps (e.1 ++ [true], e.2 ++ [v]) = some (e'.1 ++ [true], e'.2 ++ [v])
  | [], e, e', _, h => by obtain rfl := Option.some.inj h; rfl
  | p :: l, e, e', he, h => by
    rw [fitsP] at h ⊢
    split at h
    · rename_i e1 h1
      have : fit1 p.1 p.2 (e.1 ++ [true], e.2 ++ [v]) = some (e1.1 ++ [true], e1.2 ++ [v]) := by
        rcases fit1_some h1 with ⟨hk, rfl⟩ | ⟨hk, k, hv, hlt, rfl⟩ | ⟨hk, rfl, k, hv, hlt, h3, h4⟩ | ⟨hk, rfl, h3⟩
        · unfold fit1; rw [if_pos hk]
        · have hlt2 : k < e.2.length := by rw [he.2, ← he.1]; exact hlt
          unfold fit1
          rw [if_neg (by omega), if_pos hk, if_pos (known10_iff.2 ⟨k, hv, by simp; omega⟩), hv]
          simp [bind10, hlt, hlt2]
        · have hlt2 : k < e1.2.length := by rw [he.2, ← he.1]; exact hlt
          unfold fit1
          rw [if_neg (by omega), if_neg (by omega), if_pos hk, if_pos]
          simp only [Bool.and_eq_true]
          refine ⟨known10_iff.2 ⟨k, hv, by simp; omega⟩, ?_, ?_⟩
          · rw [hv]
            simp only [Int.toNat_natCast, List.getD_eq_getElem?_getD] at h3 ⊢
            rw [List.getElem?_append_left hlt]
            exact h3
          · rw [hv]
            simp only [Int.toNat_natCast, List.getD_eq_getElem?_getD] at h4 ⊢
            rw [List.getElem?_append_left hlt2]
            exact h4
        · unfold fit1
          rw [if_neg (by omega), if_neg (by omega), if_neg (by omega), if_pos hk, if_pos h3]
      rw [this]
      exact fits_wide v (fit1_even h1 he) h
    · cases h
end Go.Proofs.YtnnhgbncghpecaaGreat
