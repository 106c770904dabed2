/- ScanPlaces: tokens stand where they are told. -/
import Derived.Test.YtebfclanamoldaaDoorPlacesP
import Derived.Test.YtebfclanamoldaaDoorEqL
namespace Go.Proofs.YtebfclanamoldaaDoor
open Go.RowKit

theorem lexCs_at (l : List Y) : ∀ (i : Nat) (h : i < l.length), (lexCs l)[i * 3]? = some (.int .u8 (l[i]).1.kind) ∧ (lexCs l)[i * 3 + 1]? = some (.string ⟨(l[i]).1.text.toArray⟩) ∧ (lexCs l)[i * 3 + 2]? = some (.int .i64 ((l[i]).2 : Int)) := by
  induction l with
  | nil => intro i h; cases h
  | cons x l ih =>
    intro i h
    cases i with
    | zero => exact ⟨rfl, rfl, rfl⟩
    | succ i =>
      obtain ⟨h1, h2, h3⟩ := ih i (by simpa using h)
      rw [show (i + 1) * 3 = i * 3 + 1 + 1 + 1 by omega]
      exact ⟨h1, h2, h3⟩

/-- What Tokens told, as a list: a fault, or all of them. -/
theorem told_cases (l : Bs) : (∃ e a, toldOf l = ([], e, a) ∧ e ≠ 0 ∧ 0 ≤ a ∧ a ≤ (l.length : Int)) ∨ (toldOf l = (seqF l.length (l.length + 1) l, 0, 0) ∧ (∀ y ∈ seqF l.length (l.length + 1) l, y.1.err = 0) ∧ l.length ≤ 16384) := by
  unfold toldOf
  by_cases h : 16384 < l.length
  · rw [if_pos h]
    exact Or.inl ⟨3, 0, rfl, by decide, by decide, by omega⟩
  · rw [if_neg h]
    cases hf : (seqF l.length (l.length + 1) l).find? (fun y => decide (y.1.err ≠ 0)) with
    | none =>
      refine Or.inr ⟨rfl, fun y hy => ?_, by omega⟩
      have := List.find?_eq_none.1 hf y hy
      simpa using this
    | some x =>
      have h1 : x.1.err ≠ 0 := by
        have := (List.find?_eq_some_iff_getElem.1 hf).1
        simpa using this
      have h2 : ∀ (N f : Nat) (m : Bs), ∀ y ∈ seqF N f m, y.2 ≤ N := by
        intro N f
        induction f with
        | zero => intro m y hy; cases hy
        | succ f ih =>
          intro m y hy
          rw [seqF_succ] at hy
          rcases List.mem_cons.1 hy with rfl | hy
          · show N - _ ≤ N
            omega
          · split at hy
            · exact ih _ y hy
            · cases hy
      have h3 := h2 _ _ _ x (List.mem_of_find?_eq_some hf)
      exact Or.inl ⟨x.1.err, x.2, rfl, h1, by omega, by omega⟩

theorem seq_len (N : Nat) (f : Nat) : ∀ l : Bs, (seqF N f l).length ≤ f := by
  induction f with
  | zero => intro l; exact Nat.le_refl _
  | succ f ih =>
    intro l
    rw [seqF_succ, List.length_cons]
    split
    · have := ih (tokT (skipS false l)).rest
      omega
    · simp

theorem placed_at {all : Bs} : ∀ {ys : List Y} {p : Nat}, Placed all p ys → ∀ x zs, ys = x :: zs → p ≤ x.2 ∧ x.2 + ahead x.1.kind + x.1.text.length ≤ all.length ∧ (all.drop (x.2 + ahead x.1.kind)).take x.1.text.length = x.1.text ∧ Placed all (x.2 + ahead x.1.kind + x.1.text.length) zs := by
  intro ys p h x zs e
  subst e
  exact h

set_option maxRecDepth 100000 in
set_option maxHeartbeats 4000000 in
theorem scanPlaces_any (s : ByteArray) (w : World) (he : Errs w) : Calls Tryd.prog 7 #[.string s] w (YesP w) := by
  have KA := Lib.hid (awake_any w he)
  have HE := Lib.hid he
  clear he
  by_cases hs : s.size ≤ 3000
  · have hs' : ¬ (3000 : Int) < (s.size : Int) := by omega
    have KT := Lib.hid (fun w' (h : Errs w') => tokens_any s w' h)
    rcases told_cases s.data.toList with ⟨er, a, ht, hne, _⟩ | ⟨ht, hok, _⟩
    · rw [ht] at KT
      have q0 : (er != 0) = true := by simpa using hne
      clear ht hne hs
      go_enter Tryd.func7, Tryd.ntmps7
      go_wp2_with (first
        | (go_at_call 8; refine (KA.out).mono ?_; rintro e w1 ⟨rfl, hb1⟩; have HB1 := Lib.hid hb1; clear hb1)
        | (go_at_call 9; refine (KT.out _ (HE.out.below HB1.out)).mono ?_; rintro e w2 ⟨ao, c, rfl, hrow, hb2⟩; have HB2 := Lib.hid (below_step HB1.out hb2); clear hb2 hrow))
      go_ret
      exact ⟨rfl, below_new HB2.out _⟩
    · rw [ht] at KT
      have HLN : Hid (s.data.toList.length = s.size) := by unfold Hid; simp
      obtain ⟨ys0, hys⟩ : ∃ ys0, ys0 = seqF s.data.toList.length (s.data.toList.length + 1) s.data.toList := ⟨_, rfl⟩
      have HPL : Hid (Placed s.data.toList 0 ys0) := by
        have := seq_placed s.data.toList (s.data.toList.length + 1) 0 (Nat.zero_le _) (by rw [List.drop_zero]; exact hok)
        rw [List.drop_zero] at this
        rw [hys]
        exact this
      have HLS : Hid (∃ q, ys0 = q ++ [(⟨0, 7, [], []⟩, s.size)]) := by
        obtain ⟨q, hq⟩ := seq_last s.data.toList.length (s.data.toList.length + 1) s.data.toList (Nat.lt_succ_self _) hok
        exact ⟨q, by rw [hys, hq, HLN.out]⟩
      have HNM : Hid (ys0.length ≤ 3001) := by
        have := seq_len s.data.toList.length (s.data.toList.length + 1) s.data.toList
        have h2 := HLN.out
        unfold Hid
        rw [hys]
        omega
      rw [← hys] at KT
      clear ht hok hys hs
      go_enter Tryd.func7, Tryd.ntmps7
      go_wp2_with (first
        | (go_at_call 8; refine (KA.out).mono ?_; rintro e w1 ⟨rfl, hb1⟩; have HB1 := Lib.hid hb1; clear hb1)
        | (go_at_call 9; refine (KT.out _ (HE.out.below HB1.out)).mono ?_; rintro e w2 ⟨ao, c, rfl, hrow, hb2⟩; have HB2 := Lib.hid (below_step HB1.out hb2); have HRW := Lib.hid hrow; clear hb2 hrow))
      have HN0 : Hid (0 < ys0.length) := by
        obtain ⟨q, hq⟩ := HLS.out
        unfold Hid
        rw [hq, List.length_append]
        simp
      obtain ⟨g, rfl, _, hg2, _, hcell⟩ := told_cells HRW.out HN0.out
      have HC : Hid (∀ (j : Nat) (u : Value), (lexCs ys0)[j]? = some u → (w2.alloc (.cells #[.int .i64 0, .int .i64 0] 26)).cell? ⟨g, j, none⟩ = some u) := fun j u hu => (World.cell?_alloc_lt w2 _ ⟨g, j, none⟩ hg2).trans (hcell j u hu)
      have HB3 : Hid (Below w.heap.size w (w2.alloc (.cells #[.int .i64 0, .int .i64 0] 26))) := below_new HB2.out _
      obtain ⟨n, hn⟩ : ∃ n, ys0.length = n := ⟨_, rfl⟩
      have HNL := Lib.hid hn
      rw [hn] at HN0 HNM ⊢
      generalize (w2.alloc (.cells #[.int .i64 0, .int .i64 0] 26)) = w3 at HC HB3 ⊢
      have HSS : Hid (s.size ≤ 3000) := by unfold Hid; omega
      clear HB2 HRW KA KT hcell hn hg2
      go_loopw [5, 6] (fun at' i wr => ∃ (p k m : Nat), k ≤ n ∧ p ≤ s.size ∧ at' = .int .i64 p ∧ i = .int .i64 k ∧ Hid (Placed s.data.toList p (ys0.drop k)) ∧ wr = w3.drewN m) (fun _ i _ => n - (intOf i).toNat)
      case atStart => exact ⟨0, 0, 0, Nat.zero_le _, Nat.zero_le _, rfl, rfl, HPL, rfl⟩
      case round =>
        obtain ⟨p, k, m, hk, hp, rfl, rfl, HP, rfl⟩ := hrel
        have hnm := HNM.out
        by_cases hlt : k < n
        · have hkl : k < ys0.length := by rw [HNL.out]; exact hlt
          obtain ⟨b0, b1, b2⟩ := lexCs_at ys0 k hkl
          have c0 := HC.out _ _ b0
          have c1 := HC.out _ _ b1
          have c2 := HC.out _ _ b2
          obtain ⟨e1, e2, e3, e4⟩ := placed_at HP.out ys0[k] (ys0.drop (k + 1)) (List.drop_eq_getElem_cons hkl)
          have HP' := Lib.hid e4
          rw [HLN.out] at e2
          generalize ys0[k] = x at c0 c1 c2 e1 e2 e3 HP'
          obtain ⟨⟨er, kd, tx, rs⟩, a⟩ := x
          simp only at c0 c1 c2 e1 e2 e3 HP'
          clear b0 b1 b2 HP hkl e4
          obtain ⟨z, hz⟩ : ∃ z : ByteArray, z = ⟨tx.toArray⟩ := ⟨_, rfl⟩
          have hzl : tx.length = z.size := by rw [hz]; simp [ByteArray.size]
          rw [hzl] at e2 e3 HP'
          rw [← hz] at c1
          have hss := HSS.out
          have i0 : decide ((a : Int) < (p : Int)) = false := by simp; omega
          have i0' : decide (a < p) = false := by simp; omega
          by_cases ha : kd = 3 ∨ kd = 5
          · have e5 : ahead kd = 1 := by unfold ahead; rw [if_pos ha]
            rw [e5] at e2 e3 HP'
            have ex : s.extract (a + 1) (a + 1 + z.size) = z := by
              rw [extract_eq, show a + 1 + z.size - (a + 1) = z.size by omega, e3, hz]
            have j1 : (a : Int) + 1 ≤ (a : Int) + 1 + (z.size : Int) := by omega
            have j2 : (a : Int) + 1 + (z.size : Int) ≤ (s.size : Int) := by omega
            have j3 : ((a : Int) + 1).toNat = a + 1 := by omega
            have j4 : ((a : Int) + 1 + (z.size : Int)).toNat = a + 1 + z.size := by omega
            have j5 : decide ((s.size : Int) < (a : Int) + 1 + (z.size : Int)) = false := by simp; omega
            have j6 : (s.size : Int) ≤ 3000 := by omega
            have hE : a + 1 + z.size ≤ s.size := e2
            clear e1 e2 e3 e5 hz hzl hss hp
            by_cases h3 : kd = 3
            · subst h3
              clear ha
              go_wp2_with fail
              go_quiet (fail)
              go_wp2
              go_roundw
              case rel => exact ⟨a + 1 + z.size, k + 1, _, by omega, hE, by go_num, by go_num, HP', rfl⟩
              case measure => clear ex j1 j2 j3 j4 j5 c0 c1 c2; simp [intOf]; omega
            · obtain rfl : kd = 5 := by
                rcases ha with h | h
                · exact absurd h h3
                · exact h
              clear ha h3
              go_wp2_with fail
              go_quiet (fail)
              go_wp2
              go_roundw
              case rel => exact ⟨a + 1 + z.size, k + 1, _, by omega, hE, by go_num, by go_num, HP', rfl⟩
              case measure => clear ex j1 j2 j3 j4 j5 c0 c1 c2; simp [intOf]; omega
          · have e5 : ahead kd = 0 := by unfold ahead; rw [if_neg ha]
            rw [e5, Nat.add_zero] at e2 e3 HP'
            have ex : s.extract a (a + z.size) = z := by
              rw [extract_eq, show a + z.size - a = z.size by omega, e3, hz]
            have q3 : (kd == 3) = false := by simp; omega
            have q5 : (kd == 5) = false := by simp; omega
            have j1 : (a : Int) ≤ (a : Int) + (z.size : Int) := by omega
            have j2 : (a : Int) + (z.size : Int) ≤ (s.size : Int) := by omega
            have j4 : ((a : Int) + (z.size : Int)).toNat = a + z.size := by omega
            have j5 : decide ((s.size : Int) < (a : Int) + (z.size : Int)) = false := by simp; omega
            have j6 : (s.size : Int) ≤ 3000 := by omega
            have hE : a + z.size ≤ s.size := e2
            clear e1 e2 e3 e5 hz hzl hss hp ha
            go_wp2_with fail
            go_quiet (fail)
            go_wp2
            go_roundw
            case rel => exact ⟨a + z.size, k + 1, _, by omega, hE, by go_num, by go_num, HP', rfl⟩
            case measure => clear ex j1 j2 j4 j5 c0 c1 c2; simp [intOf]; omega
        · obtain rfl : k = n := by omega
          obtain ⟨q, hq⟩ := HLS.out
          obtain ⟨j, rfl⟩ : ∃ j, k = j + 1 := ⟨k - 1, by have := HN0.out; omega⟩
          have hql : q.length = j := by
            have e := HNL.out
            rw [hq, List.length_append, List.length_singleton] at e
            omega
          have hj : j < ys0.length := by rw [HNL.out]; omega
          have hlast : ys0[j] = (⟨0, 7, [], []⟩, s.size) := by
            subst hql
            simp [hq]
          obtain ⟨b0, b1, b2⟩ := lexCs_at ys0 j hj
          rw [hlast] at b0 b2
          have c0 : w3.cell? ⟨g, j * 3, none⟩ = some (.int .u8 7) := HC.out _ _ b0
          have c2 : w3.cell? ⟨g, j * 3 + 2, none⟩ = some (.int .i64 (s.size : Int)) := HC.out _ _ b2
          clear b0 b1 b2 hj hlast hq hql HP
          go_wp2
          go_ret
          exact ⟨rfl, RowKit_drewN HB3.out _⟩
  · have hs' : (3000 : Int) < (s.size : Int) := by omega
    clear hs
    go_enter Tryd.func7, Tryd.ntmps7
    go_wp2_with (go_at_call 8; refine (KA.out).mono ?_; rintro e w1 ⟨rfl, hb1⟩; have HB1 := Lib.hid hb1; clear hb1)
    go_ret
    exact ⟨rfl, HB1.out⟩
end Go.Proofs.YtebfclanamoldaaDoor
