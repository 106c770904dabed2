/- The program's comparisons: numbers, rows of numbers, the first that is not 0; saliences. -/
import Derived.Test.YtlkmabnjmklkpaaDoorSal14
import Derived.Test.YtlkmabnjmklkpaaDoorCmpP14
import Derived.Test.YtlkmabnjmklkpaaDoorShelf
namespace Go.Proofs.YtlkmabnjmklkpaaDoor
open Go.RowKit

theorem cmpL_at : ∀ (p q : List Int) (i : Nat) (hp : i < p.length) (hq : i < q.length) (_ : p.take i = q.take i) (_ : p[i] ≠ q[i]), cmpL p q = Lib.compareInt p[i] q[i]
  | [], _, i, hp, _, _, _ => by simp at hp
  | _ :: _, [], i, _, hq, _, _ => by simp at hq
  | x :: xs, y :: ys, 0, _, _, _, h => by
    simp only [List.getElem_cons_zero] at h ⊢
    simp only [cmpL, if_neg h]
  | x :: xs, y :: ys, i + 1, hp, hq, ht, h => by
    simp only [List.take_succ_cons, List.cons.injEq] at ht
    obtain ⟨rfl, ht⟩ := ht
    simp only [List.getElem_cons_succ] at h ⊢
    simp only [cmpL, if_true]
    exact cmpL_at xs ys i (by simpa using hp) (by simpa using hq) ht h
theorem cmpL_more : ∀ (p q : List Int) (_ : q.length < p.length) (_ : p.take q.length = q), cmpL p q = 1
  | [], _, h, _ => by simp at h
  | _ :: _, [], _, _ => rfl
  | x :: xs, y :: ys, h, ht => by
    simp only [List.length_cons, List.take_succ_cons, List.cons.injEq] at ht
    obtain ⟨rfl, ht⟩ := ht
    simp only [cmpL, if_true]
    exact cmpL_more xs ys (by simpa using h) ht
theorem cmpL_less : ∀ (p q : List Int) (_ : p.length < q.length) (_ : q.take p.length = p), cmpL p q = -1
  | _, [], h, _ => by simp at h
  | [], _ :: _, _, _ => rfl
  | x :: xs, y :: ys, h, ht => by
    simp only [List.length_cons, List.take_succ_cons, List.cons.injEq] at ht
    obtain ⟨rfl, ht⟩ := ht
    simp only [cmpL, if_true]
    exact cmpL_less xs ys (by simpa using h) ht
theorem orI_at : ∀ (l : List Int) (i : Nat) (h : i < l.length) (_ : ∀ x, x ∈ l.take i → x = 0) (_ : l[i] ≠ 0), orI l = l[i]
  | [], i, h, _, _ => by simp at h
  | x :: l, 0, _, _, h => by
    simp only [List.getElem_cons_zero] at h ⊢
    simp only [orI, if_neg h]
  | x :: l, i + 1, h, h0, hn => by
    have hx : x = 0 := h0 x (by simp)
    subst hx
    simp only [List.getElem_cons_succ] at hn ⊢
    simp only [orI, if_true]
    exact orI_at l i (by simpa using h) (fun y hy => h0 y (by simp [hy])) hn
theorem orI_none : ∀ (l : List Int), (∀ x, x ∈ l → x = 0) → orI l = 0
  | [], _ => rfl
  | x :: l, h => by
    have hx : x = 0 := h x (by simp)
    subst hx
    simp only [orI, if_true]
    exact orI_none l (fun y hy => h y (by simp [hy]))

set_option maxRecDepth 100000 in
set_option maxHeartbeats 1000000 in
theorem cmpL_any (p q : List Int) (ao1 ao2 : Option Addr) (c1 c2 : Nat) (hm1 : p.length ≤ 9223372036854775807) (hm2 : q.length ≤ 9223372036854775807) (w : World) (h1 : SlG w.heap.size w ao1 (icells p)) (h2 : SlG w.heap.size w ao2 (icells q)) :
    Calls Tryd.prog 42 #[.slice ao1 p.length c1, .slice ao2 q.length c2] w (NumG (cmpL p q) w) := by
  have HA := Lib.hid h1
  have HB := Lib.hid h2
  clear h1 h2
  have KC := Lib.hid (fun x y W => Tryd.cmp_Compare_int x y W)
  go_enter Tryd.func42, Tryd.ntmps42
  go_wp2_with fail
  go_loopw [11] (fun i wr => ∃ j : Nat, j ≤ p.length ∧ j ≤ q.length ∧ i = .int .i64 j ∧ Hid (p.take j = q.take j) ∧ Gr w wr) (fun i _ => p.length - (intOf i).toNat)
  case atStart => exact ⟨0, by omega, by omega, rfl, rfl, Gr.refl _⟩
  case round =>
    obtain ⟨j, hj, hj2, rfl, HT, hfr⟩ := hrel
    have HFr := Lib.hid hfr
    clear hfr
    by_cases hlt : j < p.length
    · by_cases hlt2 : j < q.length
      · obtain ⟨sb, off, rfl, hsb, hc⟩ := (HA.out.below HFr.out.below).cellI (by omega)
        obtain ⟨sb2, off2, rfl, hsb2, hc2⟩ := (HB.out.below HFr.out.below).cellI (by omega)
        have d1 := hc j hlt
        have d2 := hc2 j hlt2
        have HN1 : Hid (p.take (j + 1) = p.take j ++ [p[j]]) := by rw [Hid, List.take_add_one, List.getElem?_eq_getElem hlt]; rfl
        have HN2 : Hid (q.take (j + 1) = q.take j ++ [q[j]]) := by rw [Hid, List.take_add_one, List.getElem?_eq_getElem hlt2]; rfl
        have HNe : Hid (p[j] ≠ q[j] → cmpL p q = Lib.compareInt p[j] q[j]) := fun h => cmpL_at p q j hlt hlt2 HT.out h
        have hge : decide ((q.length : Int) ≤ (j : Int)) = false := by simp; omega
        have hge' : decide (q.length ≤ j) = false := by simp; omega
        clear hc hc2
        generalize p[j] = z1 at d1 HN1 HNe
        generalize q[j] = z2 at d2 HN2 HNe
        by_cases hz : z1 = z2
        · subst hz
          have hk : ∀ W, Calls Tryd.prog 37 #[.int .i64 z1, .int .i64 z1] W fun e w' => e = .returned (.int .i64 0) ∧ w' = W := fun W => by
            have := KC.out z1 z1 W
            rwa [(cmpI_zero z1 z1).2 rfl] at this
          go_wp2_with (go_at_call 37; refine (hk _).mono ?_; rintro e w' ⟨rfl, rfl⟩)
          go_roundw
          case rel => exact ⟨j + 1, by omega, by omega, by go_num, by rw [Hid, HN1.out, HN2.out, HT.out], HFr.out⟩
          case measure => simp [intOf]; omega
        · have hn : Lib.compareInt z1 z2 ≠ 0 := fun e => hz ((cmpI_zero z1 z2).1 e)
          have hE := HNe.out hz
          have HE := Lib.hid hE
          clear hE HNe
          have hk : ∀ W, Calls Tryd.prog 37 #[.int .i64 z1, .int .i64 z2] W fun e w' => e = .returned (.int .i64 (Lib.compareInt z1 z2)) ∧ w' = W := fun W => KC.out z1 z2 W
          generalize Lib.compareInt z1 z2 = cc at hn hk HE
          have hd : (cc != 0) = true := by simpa using hn
          clear hn
          go_wp2_with (go_at_call 37; refine (hk _).mono ?_; rintro e w' ⟨rfl, rfl⟩)
          go_ret
          exact ⟨by first | rfl | (rw [HE.out]; rfl), HFr.out⟩
      · obtain rfl : j = q.length := by omega
        have HE : Hid (cmpL p q = 1) := cmpL_more p q hlt (by have := HT.out; rwa [List.take_length] at this)
        obtain ⟨sb, off, rfl, hsb, hc⟩ := (HA.out.below HFr.out.below).cellI (by omega)
        have d1 := hc _ hlt
        have hge : decide ((q.length : Int) ≤ (q.length : Int)) = true := by simp
        clear hc
        generalize p[q.length] = z1 at d1
        go_wp2_with fail
        go_ret
        exact ⟨by first | rfl | (rw [HE.out]; rfl), HFr.out⟩
    · obtain rfl : j = p.length := by omega
      by_cases hll : p.length < q.length
      · have HE : Hid (cmpL p q = -1) := cmpL_less p q hll (by have := HT.out; rw [List.take_length] at this; exact this.symm)
        have hd : decide ((p.length : Int) < (q.length : Int)) = true := by simp; omega
        have hd' : decide (p.length < q.length) = true := by simp; omega
        go_wp2
        go_ret
        exact ⟨by first | rfl | (rw [HE.out]; rfl), HFr.out⟩
      · have hpq : p = q := by
          have := HT.out
          have e : p.length = q.length := by omega
          rw [List.take_length, e, List.take_length] at this
          exact this
        have HE : Hid (cmpL p q = 0) := (cmpL_zero p q).2 hpq
        clear hpq
        have hd : decide ((p.length : Int) < (q.length : Int)) = false := by simp; omega
        have hd' : decide (p.length < q.length) = false := by simp; omega
        go_wp2
        go_ret
        exact ⟨by first | rfl | (rw [HE.out]; rfl), HFr.out⟩

set_option maxRecDepth 100000 in
set_option maxHeartbeats 1000000 in
theorem orI_any (l : List Int) (ao : Option Addr) (c : Nat) (hm : l.length ≤ 9223372036854775807) (w : World) (h : SlG w.heap.size w ao (icells l)) :
    Calls Tryd.prog 40 #[.slice ao l.length c] w (NumG (orI l) w) := by
  have HA := Lib.hid h
  clear h
  go_enter Tryd.func40, Tryd.ntmps40
  go_wp2_with fail
  go_loopw [8] (fun i wr => ∃ j : Nat, j ≤ l.length ∧ i = .int .i64 j ∧ Hid (∀ x, x ∈ l.take j → x = 0) ∧ Gr w wr) (fun i _ => l.length - (intOf i).toNat)
  case atStart => exact ⟨0, by omega, rfl, (fun x hx => by simp at hx), Gr.refl _⟩
  case round =>
    obtain ⟨j, hj, rfl, HT, hfr⟩ := hrel
    have HFr := Lib.hid hfr
    clear hfr
    by_cases hlt : j < l.length
    · obtain ⟨sb, off, rfl, hsb, hc⟩ := (HA.out.below HFr.out.below).cellI (by omega)
      have d1 := hc j hlt
      have HN1 : Hid (l.take (j + 1) = l.take j ++ [l[j]]) := by rw [Hid, List.take_add_one, List.getElem?_eq_getElem hlt]; rfl
      have HNe : Hid (l[j] ≠ 0 → orI l = l[j]) := fun h => orI_at l j hlt HT.out h
      clear hc
      generalize l[j] = z1 at d1 HN1 HNe
      by_cases hz : z1 = 0
      · subst hz
        go_wp2_with fail
        go_roundw
        case rel => exact ⟨j + 1, by omega, by go_num, (fun x hx => by rw [HN1.out] at hx; rcases List.mem_append.1 hx with hx | hx; exact HT.out x hx; simpa using hx), HFr.out⟩
        case measure => simp [intOf]; omega
      · have HE := Lib.hid (HNe.out hz)
        have hd : (z1 != 0) = true := by simpa using hz
        clear hz HNe
        go_wp2_with fail
        go_ret
        exact ⟨by first | rfl | (rw [HE.out]; rfl), HFr.out⟩
    · obtain rfl : j = l.length := by omega
      have HE : Hid (orI l = 0) := orI_none l (by have := HT.out; rwa [List.take_length] at this)
      go_wp2
      go_ret
      exact ⟨by first | rfl | (rw [HE.out]; rfl), HFr.out⟩

/-- The program's order: saliences. -/
abbrev aggO (ao : Option Addr) (n c : Nat) : Value := .agg #[.slice ao n c]
set_option maxRecDepth 100000 in
theorem has_any (n c : Nat) (ao : Option Addr) (r : Int) (w : World) :
    Calls Tryd.prog 31 #[aggO ao n c, .int .i64 r] w (SaysG (decide (0 ≤ r ∧ r < n)) w) := by
  have HG := Lib.hid ((Gr.refl w).alloc (.cells #[.slice ao n c] 53))
  by_cases h0 : r < 0
  · have HE : Hid (decide (0 ≤ r ∧ r < n) = false) := by unfold Hid; simp; omega
    have hd : decide (0 ≤ r) = false := by simp; omega
    go_enter Tryd.func31, Tryd.ntmps31
    go_wp2_with fail
    go_ret
    exact ⟨by first | rfl | (rw [HE.out]; rfl), HG.out⟩
  · obtain ⟨m, rfl⟩ : ∃ m : Nat, r = m := ⟨r.toNat, by omega⟩
    have hd : decide (0 ≤ (m : Int)) = true := by simp
    by_cases h1 : m < n
    · have HE : Hid (decide (0 ≤ (m : Int) ∧ (m : Int) < n) = true) := by unfold Hid; simp; omega
      have hd2 : decide ((m : Int) < (n : Int)) = true := by simp; omega
      have hd3 : decide (m < n) = true := by simp; omega
      go_enter Tryd.func31, Tryd.ntmps31
      go_wp2_with fail
      go_ret
      exact ⟨by first | rfl | (rw [HE.out]; rfl), HG.out⟩
    · have HE : Hid (decide (0 ≤ (m : Int) ∧ (m : Int) < n) = false) := by unfold Hid; simp; omega
      have hd2 : decide ((m : Int) < (n : Int)) = false := by simp; omega
      have hd3 : decide (m < n) = false := by simp; omega
      go_enter Tryd.func31, Tryd.ntmps31
      go_wp2_with fail
      go_ret
      exact ⟨by first | rfl | (rw [HE.out]; rfl), HG.out⟩

set_option maxRecDepth 100000 in
theorem sal_any (s : List Int) (r : Int) (ao : Option Addr) (c : Nat) (w : World) (h : SlG w.heap.size w ao (icells s)) :
    Calls Tryd.prog 41 #[aggO ao s.length c, .int .i64 r] w (NumG (salOf14 s r) w) := by
  have HB := Lib.hid ((Gr.refl w).alloc (.cells #[.slice ao s.length c] 53))
  have KH := Lib.hid (fun W => has_any s.length c ao r W)
  have HS := Lib.hid h
  clear h
  by_cases h0 : 0 ≤ r ∧ r < s.length
  · obtain ⟨m, rfl⟩ : ∃ m : Nat, r = m := ⟨r.toNat, by omega⟩
    have h1 : m < s.length := by omega
    have HE : Hid (salOf14 s (m : Int) = s[m]) := by
      unfold Hid salOf14
      rw [if_pos h0]
      simp [h1]
    have hk : ∀ W, Calls Tryd.prog 31 #[aggO ao s.length c, .int .i64 (m : Int)] W (SaysG true W) := fun W => by
      have := KH.out W
      rwa [decide_eq_true h0] at this
    clear KH h0
    go_enter Tryd.func41, Tryd.ntmps41
    go_wp2_with (go_at_call 31; refine (hk _).mono ?_; rintro e w1 ⟨rfl, hg⟩; have HG := Lib.hid (HB.out.trans hg); obtain ⟨sb, off, rfl, _, hc⟩ := (HS.out.below HG.out.below).cellI (by omega); have hx := hc m h1; clear hc; have c9 : w1.cell? ⟨w.heap.size, 0, none⟩ = some (.slice (some ⟨sb, off, none⟩) s.length c) := ((bret hg.below).1 0).trans (by simp); clear hg; generalize s[m] = x at hx HE)
    go_ret
    exact ⟨by first | rfl | (rw [HE.out]; rfl), HG.out⟩
  · have HE : Hid (salOf14 s r = 0) := by unfold Hid salOf14; rw [if_neg h0]
    have hk : ∀ W, Calls Tryd.prog 31 #[aggO ao s.length c, .int .i64 r] W (SaysG false W) := fun W => by
      have := KH.out W
      rwa [decide_eq_false h0] at this
    clear KH h0
    go_enter Tryd.func41, Tryd.ntmps41
    go_wp2_with (go_at_call 31; refine (hk _).mono ?_; rintro e w1 ⟨rfl, hg⟩; have HG := Lib.hid (HB.out.trans hg); clear hg)
    go_ret
    exact ⟨by first | rfl | (rw [HE.out]; rfl), HG.out⟩
end Go.Proofs.YtlkmabnjmklkpaaDoor
