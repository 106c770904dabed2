/- light, and how many expressions there are. -/
import Derived.Test.YtkbkkhfmejpbeaaRefY9
import Derived.Test.YtkbkkhfmejpbeaaEvalB9
namespace Go.Proofs.Ytkbkkhfmejpbeaa
open Go.RowKit

mutual
def X.many : X → Nat
  | .mk _ _ _ _ _ _ l => manyE l
def manyE : List X → Nat
  | [] => 0
  | k :: l => 1 + k.many + manyE l
end
theorem X.many_eq (t : X) : t.many = manyE t.kids := by cases t; rw [X.many]; rfl
theorem manyE_drop {l : List X} {n : Nat} (h : n < l.length) : manyE (l.drop n) = 1 + manyE (l[n]).kids + manyE (l.drop (n + 1)) := by
  rw [List.drop_eq_getElem_cons h, manyE, X.many_eq]
theorem wt_many (t : X) : t.wt = 1 + 2 * manyE t.kids := by
  induction t using X.ind with
  | h t ih =>
    rw [X.wt_eq]
    have : ∀ l : List X, (∀ k, k ∈ l → k ∈ t.kids) → wtL l = 2 * manyE l := by
      intro l
      induction l with
      | nil => intro _; rw [wtL, manyE]
      | cons k l ih2 =>
        intro hl
        rw [wtL, manyE, X.many_eq, ih k (hl k (List.mem_cons_self ..)), ih2 fun q hq => hl q (List.mem_cons_of_mem _ hq)]
        omega
    rw [this t.kids fun _ h => h]
theorem len_many : ∀ l : List X, l.length ≤ manyE l
  | [] => Nat.le_refl _
  | k :: l => by rw [manyE, List.length_cons]; have := len_many l; omega
theorem mem_many {k : X} : ∀ {l : List X}, k ∈ l → manyE k.kids ≤ manyE l
  | q :: l, h => by
    rw [manyE, X.many_eq]
    rcases List.mem_cons.1 h with rfl | h
    · omega
    · have := mem_many h
      omega
theorem fits_many (t : X) (h : manyE t.kids ≤ 100000) : Fits t := by
  induction t using X.ind with
  | h t ih =>
    refine .mk t (by have := len_many t.kids; omega) fun k hk => ih k hk ?_
    have := mem_many hk
    omega

def CountEOK (t : X) : Prop := ∀ (w : World) (v : Value) (m : Int), Lies w.heap.size w t v → -1 ≤ m → m ≤ 100000 → Calls Try.prog 22 #[v, .int .i64 m] w (fun e w' => e = .returned (.int .i64 (min (manyE t.kids : Int) (m + 1))) ∧ w = w')

set_option maxRecDepth 100000 in
set_option maxHeartbeats 2000000 in
theorem count_step (t : X) (ih : ∀ k, k ∈ t.kids → CountEOK k) : CountEOK t := by
  intro w v m h1 hm0 hm
  obtain ⟨a1, c1, ps1, rfl, k1⟩ := h1.out
  have HA := Lib.hid k1
  have HI := Lib.hid ih
  have hlm := Lies.len64 k1
  clear h1 ih k1
  obtain ⟨res, hres⟩ : ∃ r : Int, r = min (manyE t.kids : Int) (m + 1) := ⟨_, rfl⟩
  have HR := Lib.hid hres
  rw [← hres]
  clear hres
  go_enter Try.func22, Try.ntmps22
  go_wp2_with fail
  go_loopw [5, 6] (fun c i wr => ∃ (j : Nat) (z : Int), j ≤ t.kids.length ∧ i = .int .i64 j ∧ c = .int .i64 z ∧ 0 ≤ z ∧ z ≤ m + 1 ∧ Hid (res = min (z + (manyE (t.kids.drop j) : Int)) (m + 1)) ∧ wr = w) (fun _ i _ => t.kids.length - (intOf i).toNat)
  case atStart => exact ⟨0, 0, by omega, rfl, rfl, by omega, by omega, by rw [List.drop_zero, Int.zero_add]; exact HR.out, rfl⟩
  case round =>
    obtain ⟨j, z, hj, rfl, rfl, hz0, hz1, HN, rfl⟩ := hrel
    clear HR
    by_cases hlt : j < t.kids.length
    · have hjn : (j : Int) < (t.kids.length : Int) := by omega
      by_cases hzm : z ≤ m
      · obtain ⟨sb, off, rfl, hsb, hc⟩ := HA.out.at (by omega)
        obtain ⟨u1, d0, d1, d2, d3, d4, d5, d6, hL1⟩ := hc j hlt
        have KK := Lib.hid (HI.out _ (List.getElem_mem hlt) wr u1 (m - z - 1) hL1 (by omega) (by omega))
        have HN1 : Hid (res = min (z + 1 + min (manyE (t.kids[j]).kids : Int) (m - z - 1 + 1) + (manyE (t.kids.drop (j + 1)) : Int)) (m + 1)) := by
          unfold Hid
          rw [HN.out, manyE_drop hlt]
          omega
        clear hc hL1 HA HI d0 d1 d2 d3 d4 d5 HN
        have hy : 0 ≤ min (manyE (t.kids[j]).kids : Int) (m - z - 1 + 1) ∧ min (manyE (t.kids[j]).kids : Int) (m - z - 1 + 1) ≤ m - z := by omega
        generalize min (manyE (t.kids[j]).kids : Int) (m - z - 1 + 1) = y at KK HN1 hy
        have hy0 := hy.1
        have hy1 := hy.2
        clear hy
        go_wp2_with (go_at_call 22; go_must (refine (KK.out).mono ?_; rintro e w1 ⟨rfl, rfl⟩))
        clear KK d6
        go_roundw
        case rel => exact ⟨j + 1, z + 1 + y, by omega, by go_num, by go_num, by omega, by omega, HN1, by first | trivial | rfl⟩
        case measure => simp [intOf]; omega
      · have HF : Hid (res = m + 1) := by
          have := HN.out
          unfold Hid
          omega
        have hzr : z = m + 1 := by omega
        subst hzr
        clear HN HA HI
        go_wp2_with fail
        go_ret
        rw [HF.out]
        exact ⟨by simp, rfl⟩
    · obtain rfl : j = t.kids.length := by omega
      have hjz : ¬ (t.kids.length : Int) < (t.kids.length : Int) := by omega
      have HF : Hid (res = z) := by
        have := HN.out
        rw [List.drop_length, manyE] at this
        unfold Hid
        omega
      clear HN HA HI
      go_wp2_with fail
      go_ret
      rw [HF.out]
      exact ⟨by simp; omega, rfl⟩
theorem count_any (t : X) : CountEOK t := X.ind (fun t ih => count_step t ih) t

def longV (x : V3) : Bool := decide (300 < x.2.2.size)
/-- light, of these variables and this expression. -/
def lightX (zs : List V3) (t : X) : Bool := !zs.any longV && (decide (zs.length ≤ 30) && decide (1 + manyE t.kids ≤ 300))
theorem lightX_long {zs : List V3} {t : X} (k : Nat) (hk : k < zs.length) (h : longV zs[k] = true) : lightX zs t = false := by
  unfold lightX; rw [any_hit zs longV k hk h]; rfl
theorem lightX_end {zs : List V3} {t : X} (h : ∀ k, (hk : k < zs.length) → longV zs[k] = false) : lightX zs t = (decide (zs.length ≤ 30) && decide (1 + manyE t.kids ≤ 300)) := by
  unfold lightX; rw [any_miss zs longV h]; rfl

set_option maxRecDepth 100000 in
set_option maxHeartbeats 2000000 in
theorem light_any (ao : Option Addr) (c : Nat) (zs : List V3) (t : X) (xb xo : Nat) (w : World) (hz : zs.length ≤ 9223372036854775807) (hr : 0 < zs.length → ∃ b off, ao = some ⟨b, off, none⟩ ∧ b < w.heap.size ∧ RowAt w b off zs) (hm : ∀ x, x ∈ zs → x.2.2.size ≤ maxLen) (hl : Lies w.heap.size w (X.mk 0 0 0 ⟨#[]⟩ 0 0 [t]) (.slice (some ⟨xb, xo, none⟩) 1 1)) :
    Calls Try.prog 7 #[.slice ao zs.length c, .slice (some ⟨xb, xo, none⟩) 1 1] w fun e w' => e = .returned (.bool (lightX zs t)) ∧ w = w' := by
  have HC := Lib.hid hr
  have HM := Lib.hid hm
  have hcnt := count_any _ w _ 300 hl (by omega) (by omega)
  have hmany : ((manyE (X.mk 0 0 0 ⟨#[]⟩ 0 0 [t]).kids : Nat) : Int) = ((1 + manyE t.kids : Nat) : Int) := by
    show ((manyE [t] : Nat) : Int) = _
    rw [manyE, manyE, X.many_eq]
    omega
  rw [hmany] at hcnt
  have HX := Lib.hid hcnt
  have HLO : Hid (∀ k, (hk : k < zs.length) → longV zs[k] = true → lightX zs t = false) := fun k hk h => lightX_long k hk h
  have HEN : Hid ((∀ k, (hk : k < zs.length) → longV zs[k] = false) → lightX zs t = (decide (zs.length ≤ 30) && decide (1 + manyE t.kids ≤ 300))) := lightX_end
  clear hr hm hl hcnt hmany
  generalize lightX zs t = r at HLO HEN ⊢
  generalize 1 + manyE t.kids = y at HX HEN
  generalize hn : zs.length = n at hz ⊢
  have HN := Lib.hid hn
  have HEN' : Hid ((∀ k, (hk : k < zs.length) → longV zs[k] = false) → r = (decide (n ≤ 30) && decide (y ≤ 300))) := by rw [← hn]; exact HEN
  clear hn HEN
  go_enter Try.func7, Try.ntmps7
  go_wp2_with fail
  go_loopw [5] (fun i wr => ∃ k : Nat, k ≤ n ∧ i = .int .i64 k ∧ Hid (∀ j, (hj : j < zs.length) → j < k → longV zs[j] = false) ∧ wr = w) (fun i _ => n - (intOf i).toNat)
  case atStart => exact ⟨0, Nat.zero_le _, rfl, fun j _ hj => absurd hj (Nat.not_lt_zero _), rfl⟩
  case round =>
    obtain ⟨k, hk, rfl, HA, rfl⟩ := hrel
    by_cases hlt : k < n
    · have hkz : k < zs.length := by rw [HN.out]; exact hlt
      obtain ⟨b, off, rfl, hb, hrow⟩ := HC.out (by omega)
      have hat := hrow k hkz
      have hs := HM.out zs[k] (List.getElem_mem hkz)
      have HHk : Hid (longV zs[k] = true → r = false) := HLO.out k hkz
      have HAk : Hid (longV zs[k] = false → ∀ j, (hj : j < zs.length) → j < k + 1 → longV zs[j] = false) := fun h j hj hjk => by
        rcases Nat.lt_or_ge j k with h' | h'
        · exact HA.out j hj h'
        · obtain rfl : j = k := by omega
          exact h
      clear HLO HA HC HM hrow HX
      generalize zs[k] = x at hat hs HHk HAk
      obtain ⟨xk, xn, xs⟩ := x
      obtain ⟨a1, a2, a3⟩ := hat
      have hltz : (k : Int) < (n : Int) := by omega
      by_cases hq : 300 < xs.size
      · have HR : Hid (r = false) := HHk.out (decide_eq_true hq)
        have hd : decide (300 < (xs.size : Int)) = true := by simp; omega
        clear hq
        go_wp2_with fail
        go_ret
        exact ⟨by rw [HR.out]; rfl, rfl⟩
      · have HQ : Hid (longV (xk, xn, xs) = false) := decide_eq_false hq
        have hd : decide (300 < (xs.size : Int)) = false := by simp; omega
        clear hq
        go_wp2_with fail
        go_roundw
        case rel => exact ⟨k + 1, by omega, by go_num, HAk.out HQ.out, by first | trivial | rfl⟩
        case measure => simp [intOf]; omega
    · have HR : Hid (r = (decide (n ≤ 30) && decide (y ≤ 300))) := HEN'.out fun j hj => HA.out j hj (by rw [HN.out] at hj; omega)
      have hltz : ¬ (k : Int) < (n : Int) := by omega
      clear HLO HA HC HM HEN'
      by_cases h30 : n ≤ 30
      · have hd : decide ((n : Int) ≤ 30) = true := by simp; omega
        have HD := Lib.hid h30
        clear h30
        go_wp2_with (go_at_call 22; go_must (refine (HX.out).mono ?_; rintro e w1 ⟨rfl, rfl⟩))
        go_ret
        rw [HR.out]
        exact ⟨by simp [HD.out]; omega, rfl⟩
      · have hd : decide ((n : Int) ≤ 30) = false := by simp; omega
        have HD := Lib.hid h30
        clear h30 HX
        go_wp2_with fail
        go_ret
        rw [HR.out]
        exact ⟨by simp [HD.out], rfl⟩
end Go.Proofs.Ytkbkkhfmejpbeaa
