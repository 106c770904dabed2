/- Frames as plain functions: their bytes, why one is none, what bytes begin with; what follows (P3.3). -/
import Derived.Test.YtagjipkoheimjaaGreatDoorCrc
namespace Go.Proofs.YtagjipkoheimjaaGreatDoor

/-- Kind, Data. -/
abbrev FR := Int × List UInt8
def octI (k : Int) : UInt8 := UInt8.ofNat k.toNat
def be4 (n : Nat) : List UInt8 := [UInt8.ofNat (n / 16777216), UInt8.ofNat (n / 65536), UInt8.ofNat (n / 256), UInt8.ofNat n]
def num4 : List UInt8 → Nat
  | a :: b :: c :: d :: _ => ((a.toNat * 256 + b.toNat) * 256 + c.toNat) * 256 + d.toNat
  | _ => 0
def sumF (f : FR) : Nat := sumN (octI f.1 :: f.2)
def frB (f : FR) : List UInt8 := be4 f.2.length ++ (octI f.1 :: (be4 (sumF f) ++ f.2))
/-- Why a frame is none; 0, if it is one. -/
def faultF (f : FR) : Nat := if f.1 < 0 ∨ 255 < f.1 then 2 else if 1048576 < f.2.length then 3 else 0
def putF : List FR → List UInt8 × Nat
  | [] => ([], 0)
  | f :: l => if faultF f ≠ 0 then ([], faultF f) else if (putF l).2 ≠ 0 then ([], (putF l).2) else (frB f ++ (putF l).1, 0)
def OkFs (l : List FR) : Prop := ∀ f, f ∈ l → faultF f = 0

def tornB (b : List UInt8) : Bool := decide (b.length < 4) || (decide (num4 b ≤ 1048576) && decide (b.length < 9 + num4 b))
def dataB (b : List UInt8) : List UInt8 := (b.drop 9).take (num4 b)
def kindB (b : List UInt8) : UInt8 := b.getD 4 0
def firstF (b : List UInt8) : Option FR :=
  if num4 b ≤ 1048576 ∧ num4 (b.drop 5) = sumN (kindB b :: dataB b) then some (((kindB b).toNat : Int), dataB b) else none
def scanF : Nat → List UInt8 → List FR × Nat × Bool
  | 0, _ => ([], 0, false)
  | n + 1, b => if tornB b = true then ([], 0, false) else match firstF b with
    | none => ([], 0, true)
    | some f => (f :: (scanF n (b.drop (9 + f.2.length))).1, 9 + f.2.length + (scanF n (b.drop (9 + f.2.length))).2.1, (scanF n (b.drop (9 + f.2.length))).2.2)
def scanP (b : List UInt8) : List FR × Nat × Bool := scanF (b.length + 1) b

theorem fault_ok {f : FR} (h : faultF f = 0) : 0 ≤ f.1 ∧ f.1 ≤ 255 ∧ f.2.length ≤ 1048576 := by
  unfold faultF at h
  split at h
  · cases h
  · split at h
    · cases h
    · omega
theorem ok_fault {f : FR} (h : 0 ≤ f.1 ∧ f.1 ≤ 255 ∧ f.2.length ≤ 1048576) : faultF f = 0 := by
  unfold faultF
  rw [if_neg (by omega), if_neg (by omega)]
theorem putF_ok (l : List FR) (h : OkFs l) : putF l = (l.flatMap frB, 0) := by
  induction l with
  | nil => rfl
  | cons f l ih =>
    have h1 := h f (by simp)
    have h2 := ih (fun g hg => h g (by simp [hg]))
    unfold putF
    rw [h2]
    simp [h1]
theorem putF_bad (l : List FR) (j : Nat) (hj : j < l.length) (h : OkFs (l.take j)) (hb : faultF l[j] ≠ 0) : putF l = ([], faultF l[j]) := by
  induction l generalizing j with
  | nil => cases hj
  | cons f l ih =>
    cases j with
    | zero =>
      have hb' : faultF f ≠ 0 := hb
      unfold putF
      rw [if_pos hb']
      rfl
    | succ j =>
      have h1 := h f (by simp)
      have h2 := ih j (by simpa using hj) (fun g hg => h g (by simp [hg])) hb
      unfold putF
      rw [h2, if_neg (by simp [h1])]
      rw [if_pos]
      · rfl
      · exact hb

theorem be4_length (n : Nat) : (be4 n).length = 4 := rfl
theorem frB_length (f : FR) : (frB f).length = 9 + f.2.length := by
  unfold frB
  simp only [List.length_append, List.length_cons, be4_length]
  omega
theorem num4_be4 (n : Nat) (h : n < 4294967296) (t : List UInt8) : num4 (be4 n ++ t) = n := by
  simp only [be4, List.cons_append, List.nil_append, num4, UInt8.toNat_ofNat']
  omega
theorem be4_num4 (b : List UInt8) (h : 4 ≤ b.length) : be4 (num4 b) = b.take 4 := by
  match b, h with
  | x :: y :: z :: u :: t, _ =>
    have hx := x.toNat_lt
    have hy := y.toNat_lt
    have hz := z.toNat_lt
    have hu := u.toNat_lt
    simp only [num4, be4, List.take_succ_cons, List.take_zero]
    have e : ∀ (c : UInt8) (n : Nat), n % 256 = c.toNat → UInt8.ofNat n = c := fun c n hn => by
      apply UInt8.toNat_inj.1
      rw [UInt8.toNat_ofNat']
      exact hn
    rw [e x _ (by omega), e y _ (by omega), e z _ (by omega), e u _ (by omega)]
theorem num4_lt (b : List UInt8) : num4 b < 4294967296 := by
  unfold num4
  split
  · rename_i x y z u _
    have hx := x.toNat_lt
    have hy := y.toNat_lt
    have hz := z.toNat_lt
    have hu := u.toNat_lt
    omega
  · decide

/-- What a frame's bytes begin with is that frame. -/
theorem first_frB (f : FR) (t : List UInt8) (h : faultF f = 0) : tornB (frB f ++ t) = false ∧ firstF (frB f ++ t) = some f := by
  obtain ⟨k, d⟩ := f
  obtain ⟨h1, h2, h3⟩ := fault_ok h
  simp only at h1 h2 h3
  have e : frB (k, d) ++ t = be4 d.length ++ (octI k :: (be4 (sumF (k, d)) ++ (d ++ t))) := by
    unfold frB
    simp
  have hn : num4 (frB (k, d) ++ t) = d.length := by rw [e]; exact num4_be4 _ (by omega) _
  have hl : (frB (k, d) ++ t).length = 9 + d.length + t.length := by rw [List.length_append, frB_length]
  have h5 : num4 ((frB (k, d) ++ t).drop 5) = sumF (k, d) := by
    rw [e]
    exact num4_be4 _ (sumN_lt _) _
  have hk : kindB (frB (k, d) ++ t) = octI k := by rw [e]; rfl
  have hd : dataB (frB (k, d) ++ t) = d := by
    unfold dataB
    rw [hn, e]
    show (d ++ t).take d.length = d
    simp
  constructor
  · unfold tornB
    rw [hn, hl]
    simp
    omega
  · unfold firstF
    rw [hn, h5, hk, hd, if_pos ⟨h3, rfl⟩]
    have : ((octI k).toNat : Int) = k := by
      unfold octI
      rw [UInt8.toNat_ofNat']
      omega
    rw [this]

theorem take_parts (b : List UInt8) (n : Nat) (h : 9 + n ≤ b.length) : b.take 4 ++ (kindB b :: ((b.drop 5).take 4 ++ (b.drop 9).take n)) = b.take (9 + n) := by
  match b, h with
  | x :: y :: z :: u :: k :: p :: q :: r :: s :: t, _ =>
    simp [kindB, show 9 + n = n + 1 + 1 + 1 + 1 + 1 + 1 + 1 + 1 + 1 by omega]
  | [], h | [_], h | [_, _], h | [_, _, _], h | [_, _, _, _], h | [_, _, _, _, _], h | [_, _, _, _, _, _], h | [_, _, _, _, _, _, _], h | [_, _, _, _, _, _, _, _], h =>
    exfalso
    revert h
    simp only [List.length_cons, List.length_nil]
    omega
/-- What bytes begin with has just these bytes. -/
theorem first_some {b : List UInt8} {f : FR} (ht : tornB b = false) (h : firstF b = some f) : faultF f = 0 ∧ 9 + f.2.length ≤ b.length ∧ frB f = b.take (9 + f.2.length) := by
  unfold firstF at h
  split at h
  · rename_i h0
    obtain ⟨h1, h2⟩ := h0
    obtain rfl := Option.some.inj h
    unfold tornB at ht
    simp [h1] at ht
    have hl : (dataB b).length = num4 b := by
      unfold dataB
      rw [List.length_take, List.length_drop]
      omega
    have hk := (kindB b).toNat_lt
    simp only
    rw [hl]
    refine ⟨ok_fault ⟨by simp, by simp only; omega, by simp only; omega⟩, by omega, ?_⟩
    have ho : octI ((kindB b).toNat : Int) = kindB b := by
      unfold octI
      apply UInt8.toNat_inj.1
      rw [UInt8.toNat_ofNat', Int.toNat_natCast]
      omega
    have hs : sumF (((kindB b).toNat : Int), dataB b) = num4 (b.drop 5) := by unfold sumF; rw [ho, h2]
    unfold frB
    rw [hs]
    simp only
    rw [hl, ho, be4_num4 b (by omega), be4_num4 (b.drop 5) (by rw [List.length_drop]; omega)]
    exact take_parts b (num4 b) (by omega)
  · cases h

theorem scanF_fuel (n m : Nat) (b : List UInt8) (hn : b.length < n) (hm : b.length < m) : scanF n b = scanF m b := by
  induction n generalizing m b with
  | zero => omega
  | succ n ih =>
    cases m with
    | zero => omega
    | succ m =>
      unfold scanF
      by_cases ht : tornB b = true
      · rw [if_pos ht, if_pos ht]
      · rw [if_neg ht, if_neg ht]
        cases hf : firstF b with
        | none => rfl
        | some f =>
          simp only
          obtain ⟨_, h2, _⟩ := first_some (by simpa using ht) hf
          have hl : (b.drop (9 + f.2.length)).length = b.length - (9 + f.2.length) := List.length_drop
          rw [ih m _ (by omega) (by omega)]
theorem scan_torn {b : List UInt8} (h : tornB b = true) : scanP b = ([], 0, false) := by unfold scanP scanF; rw [if_pos h]
theorem scan_none {b : List UInt8} (h : tornB b = false) (hf : firstF b = none) : scanP b = ([], 0, true) := by unfold scanP scanF; rw [if_neg (by simp [h]), hf]
theorem scan_some {b : List UInt8} {f : FR} (h : tornB b = false) (hf : firstF b = some f) :
    scanP b = (f :: (scanP (b.drop (9 + f.2.length))).1, 9 + f.2.length + (scanP (b.drop (9 + f.2.length))).2.1, (scanP (b.drop (9 + f.2.length))).2.2) := by
  obtain ⟨_, h2, _⟩ := first_some h hf
  have hl : (b.drop (9 + f.2.length)).length = b.length - (9 + f.2.length) := List.length_drop
  have e : scanF b.length (b.drop (9 + f.2.length)) = scanP (b.drop (9 + f.2.length)) := scanF_fuel _ _ _ (by omega) (by omega)
  conv => lhs; unfold scanP scanF
  rw [if_neg (by simp [h]), hf]
  simp only [e]

theorem drop_frB (f : FR) (t : List UInt8) : (frB f ++ t).drop (9 + f.2.length) = t := by
  rw [← frB_length f]
  simp
/-- What is put is scanned. -/
theorem scan_put (l : List FR) (h : OkFs l) (t : List UInt8) : scanP (l.flatMap frB ++ t) = (l ++ (scanP t).1, (l.flatMap frB).length + (scanP t).2.1, (scanP t).2.2) := by
  induction l with
  | nil => simp
  | cons f l ih =>
    have h1 := h f (by simp)
    have ih' := ih (fun g hg => h g (by simp [hg]))
    obtain ⟨g1, g2⟩ := first_frB f (l.flatMap frB ++ t) h1
    rw [List.flatMap_cons, List.append_assoc, scan_some g1 g2, drop_frB, ih']
    simp only [List.cons_append, List.length_append, frB_length, Nat.add_assoc]
theorem scan_nil : scanP [] = ([], 0, false) := scan_torn rfl
/-- A beginning of a frame that is not all of it is torn. -/
theorem torn_cut (f : FR) (t : List UInt8) (h : faultF f = 0) (cut : Nat) (hc : cut < 9 + f.2.length) : tornB ((frB f ++ t).take cut) = true := by
  obtain ⟨h1, h2, h3⟩ := fault_ok h
  unfold tornB
  have hl : ((frB f ++ t).take cut).length = cut := by
    rw [List.length_take, List.length_append, frB_length]
    omega
  rw [hl]
  by_cases h4 : cut < 4
  · simp [h4]
  · have e : num4 ((frB f ++ t).take cut) = f.2.length := by
      obtain ⟨x, hx⟩ : ∃ x, (frB f ++ t).take cut = be4 f.2.length ++ x := by
        refine ⟨((octI f.1 :: (be4 (sumF f) ++ f.2)) ++ t).take (cut - 4), ?_⟩
        unfold frB
        rw [List.append_assoc, List.take_append, be4_length, List.take_of_length_le (by rw [be4_length]; omega)]
      rw [hx]
      exact num4_be4 _ (by omega) _
    rw [e]
    simp
    omega
/-- How many frames are whole in a beginning, and their bytes. -/
def wholeF : List FR → Nat → Nat
  | [], _ => 0
  | f :: l, cut => if 9 + f.2.length ≤ cut then wholeF l (cut - (9 + f.2.length)) + 1 else 0
def lenF (l : List FR) : Nat := (l.flatMap frB).length
theorem lenF_cons (f : FR) (l : List FR) : lenF (f :: l) = 9 + f.2.length + lenF l := by unfold lenF; rw [List.flatMap_cons, List.length_append, frB_length]
theorem wholeF_le (l : List FR) (cut : Nat) : wholeF l cut ≤ l.length := by
  induction l generalizing cut with
  | nil => exact Nat.le_refl _
  | cons f l ih =>
    unfold wholeF
    split
    · have := ih (cut - (9 + f.2.length))
      simp only [List.length_cons]
      omega
    · exact Nat.zero_le _
theorem scan_cut (l : List FR) (h : OkFs l) (cut : Nat) : scanP ((l.flatMap frB).take cut) = (l.take (wholeF l cut), lenF (l.take (wholeF l cut)), false) := by
  induction l generalizing cut with
  | nil => simp [wholeF, lenF, scan_nil]
  | cons f l ih =>
    have h1 := h f (by simp)
    rw [List.flatMap_cons]
    unfold wholeF
    by_cases hc : 9 + f.2.length ≤ cut
    · rw [if_pos hc]
      have e : (frB f ++ l.flatMap frB).take cut = frB f ++ (l.flatMap frB).take (cut - (9 + f.2.length)) := by
        rw [List.take_append, frB_length, List.take_of_length_le (by rw [frB_length]; exact hc)]
      obtain ⟨g1, g2⟩ := first_frB f ((l.flatMap frB).take (cut - (9 + f.2.length))) h1
      rw [e, scan_some g1 g2, drop_frB, ih (fun g hg => h g (by simp [hg])), List.take_succ_cons, lenF_cons]
    · rw [if_neg hc, scan_torn (torn_cut f _ h1 cut (by omega))]
      rfl
/-- What is scanned is put as just the bytes that were used. -/
theorem scan_back (n : Nat) (b : List UInt8) (hn : b.length < n) : OkFs (scanP b).1 ∧ (scanP b).2.1 ≤ b.length ∧ (scanP b).1.flatMap frB = b.take (scanP b).2.1 := by
  induction n generalizing b with
  | zero => omega
  | succ n ih =>
    cases ht : tornB b with
    | true =>
      rw [scan_torn ht]
      exact ⟨(fun f hf => by cases hf), Nat.zero_le _, rfl⟩
    | false =>
      cases hf : firstF b with
      | none =>
        rw [scan_none ht hf]
        exact ⟨(fun f hf => by cases hf), Nat.zero_le _, rfl⟩
      | some f =>
        obtain ⟨g1, g2, g3⟩ := first_some ht hf
        have hl : (b.drop (9 + f.2.length)).length = b.length - (9 + f.2.length) := List.length_drop
        obtain ⟨i1, i2, i3⟩ := ih (b.drop (9 + f.2.length)) (by omega)
        rw [scan_some ht hf]
        refine ⟨fun g hg => ?_, by simp only; omega, ?_⟩
        · rcases List.mem_cons.1 hg with rfl | hg
          · exact g1
          · exact i1 g hg
        · simp only [List.flatMap_cons]
          rw [g3, i3]
          exact List.take_add.symm
theorem torn_flip (f : FR) (t : List UInt8) (h : faultF f = 0) (d : List UInt8) (hd : d.length = f.2.length) (hs : sumN (octI f.1 :: d) ≠ sumF f) : scanP (be4 f.2.length ++ (octI f.1 :: (be4 (sumF f) ++ d)) ++ t) = ([], 0, true) := by
  obtain ⟨h1, h2, h3⟩ := fault_ok h
  have e : be4 f.2.length ++ (octI f.1 :: (be4 (sumF f) ++ d)) ++ t = be4 f.2.length ++ (octI f.1 :: (be4 (sumF f) ++ (d ++ t))) := by simp
  have hn : num4 (be4 f.2.length ++ (octI f.1 :: (be4 (sumF f) ++ (d ++ t)))) = f.2.length := num4_be4 _ (by omega) _
  have hl : (be4 f.2.length ++ (octI f.1 :: (be4 (sumF f) ++ (d ++ t)))).length = 9 + d.length + t.length := by
    simp only [List.length_append, List.length_cons, be4_length]
    omega
  rw [e]
  refine scan_none ?_ ?_
  · unfold tornB
    rw [hn, hl, hd]
    simp
    omega
  · unfold firstF
    have h5 : num4 ((be4 f.2.length ++ (octI f.1 :: (be4 (sumF f) ++ (d ++ t)))).drop 5) = sumF f := num4_be4 _ (sumN_lt _) _
    have hk : kindB (be4 f.2.length ++ (octI f.1 :: (be4 (sumF f) ++ (d ++ t)))) = octI f.1 := rfl
    have hdb : dataB (be4 f.2.length ++ (octI f.1 :: (be4 (sumF f) ++ (d ++ t)))) = d := by
      unfold dataB
      rw [hn, ← hd]
      show (d ++ t).take d.length = d
      simp
    rw [h5, hk, hdb, if_neg]
    exact fun hh => hs hh.2.symm
end Go.Proofs.YtagjipkoheimjaaGreatDoor
