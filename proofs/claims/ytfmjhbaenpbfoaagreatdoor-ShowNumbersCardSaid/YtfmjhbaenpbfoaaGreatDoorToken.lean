/- token, whatever stands next. -/
import Derived.Test.YtfmjhbaenpbfoaaGreatDoorTok4
namespace Go.Proofs.YtfmjhbaenpbfoaaGreatDoor
open Go.RowKit

theorem skipS_drop (l : Bs) : ∀ b : Bool, ∃ m, m ≤ l.length ∧ skipS b l = l.drop m := by
  induction l with
  | nil => intro b; exact ⟨0, Nat.le_refl _, by cases b <;> rfl⟩
  | cons c l ih =>
    intro b
    obtain ⟨m1, h1, e1⟩ := ih true
    obtain ⟨m2, h2, e2⟩ := ih false
    cases b with
    | true =>
      simp only [skipS]
      split
      · exact ⟨m1 + 1, by simp; omega, by rw [e1]; rfl⟩
      · exact ⟨m2 + 1, by simp; omega, by rw [e2]; rfl⟩
    | false =>
      simp only [skipS]
      split
      · exact ⟨m2 + 1, by simp; omega, by rw [e2]; rfl⟩
      · split
        · exact ⟨m1 + 1, by simp; omega, by rw [e1]; rfl⟩
        · exact ⟨0, Nat.zero_le _, rfl⟩
/-- What is left behind blanks is what stands from its place on. -/
theorem skip_place (s : ByteArray) (k : Nat) (hk : k ≤ s.size) : s.data.toList.drop (s.size - (skipS false (s.data.toList.drop k)).length) = skipS false (s.data.toList.drop k) ∧ s.size - (skipS false (s.data.toList.drop k)).length ≤ s.size := by
  obtain ⟨m, h1, e1⟩ := skipS_drop (s.data.toList.drop k) false
  rw [e1, List.drop_drop]
  have h2 : (s.data.toList.drop (k + m)).length = s.size - (k + m) := by simp
  rw [h2]
  simp at h1
  refine ⟨?_, by omega⟩
  congr 1
  omega

theorem Rd.went {w w' : World} {R k : Nat} {s : ByteArray} {v : Value} {e : Ending} (h : Rd w R s k) (h' : e = .returned v ∧ ∃ n, w.drewN n = w') : e = .returned v ∧ Went R s k w w' := by
  obtain ⟨h1, n, rfl⟩ := h'
  exact ⟨h1, h.drewN n, (Fr.refl R w).drewN n⟩

set_option maxRecDepth 100000 in
set_option maxHeartbeats 4000000 in
theorem token_any (R k : Nat) (s : ByteArray) (hm : s.size ≤ 1000000) (w : World) (h : Rd w R s k) (hk : k ≤ s.size) (he : Errs w) :
    Calls Tryz.prog 81 #[.pointer (some ⟨R, 0, none⟩)] w fun e w' => e = .returned (tkV (tokT (skipS false (s.data.toList.drop k))) (s.size - (skipS false (s.data.toList.drop k)).length)) ∧ To R s (tokT (skipS false (s.data.toList.drop k))).rest w w' := by
  have HR : Hid (R < w.heap.size) := h.lt
  have H2 : Hid (5 ≤ R) := h.two
  have HNE : Hid (w.heap.size ≠ R) := by have := h.lt; unfold Hid; omega
  have HE : Hid (Errs (w.alloc (.cells lexC 99))) := he.below (below_own _)
  obtain ⟨hd, ha⟩ := skip_place s k hk
  have kb := passBlanks_any R k s hm (w.alloc (.cells lexC 99)) (h.alloc _) hk
  generalize skipS false (s.data.toList.drop k) = l at kb hd ha ⊢
  generalize hA : s.size - l.length = a at hd ha ⊢
  have KB : Hid (Calls Tryz.prog 110 #[.pointer (some ⟨R, 0, none⟩)] (w.alloc (.cells lexC 99)) fun e w' => (∃ v, e = .returned v) ∧ Went R s a (w.alloc (.cells lexC 99)) w') := kb.mono fun _ _ ⟨h1, j, hj, hd', hw⟩ => ⟨h1, by
    have e := congrArg List.length hd'
    simp at e
    obtain rfl : j = a := by omega
    exact hw⟩
  clear h hk he kb
  cases l with
  | nil =>
    have hlen := congrArg List.length hd
    simp at hlen
    obtain rfl : a = s.size := by omega
    have KE : Hid (∀ w', Rd w' R s s.size → Calls Tryz.prog 111 #[.pointer (some ⟨R, 0, none⟩)] w' fun e w'' => e = .returned (.bool true) ∧ Went R s s.size w' w'') := fun w' hr => (ended_yes R s w' hr).mono fun _ _ h => hr.went h
    have HD := Lib.hid hd
    show Calls _ _ _ _ fun e w' => e = .returned (.tuple #[.agg #[.int .u8 7, .string ⟨#[]⟩, .int .i64 ((s.size : Nat) : Int)], .int .i64 0]) ∧ To R s [] w w'
    clear hlen hA hd ha
    go_enter Tryz.func81, Tryz.ntmps81
    go_wp2_with (first
      | (go_at_call 110; refine (KB.out).mono ?_; rintro e w1 ⟨⟨v, rfl⟩, hw⟩; have HW := Lib.hid hw; have hp := hw.rd.pos; clear hw)
      | (go_at_call 111; refine (KE.out _ HW.out.rd).mono ?_; rintro e w2 ⟨rfl, hw⟩; have HW2 := Lib.hid (HW.out.of hw); clear hw
         have HL := Lib.hid (lexAt HW2.out.fr HR.out).lex3
         obtain ⟨c0, c1, c2, f0⟩ := lexAt HW2.out.fr HR.out))
    obtain ⟨e0, e1, e2⟩ := ((((HL.out.set0 (.int .u8 7)).set2 (.int .i64 ((s.size : Nat) : Int))).set0 (.int .u8 7)).set1 (.string ⟨#[]⟩)).set2 (.int .i64 ((s.size : Nat) : Int))
    exact bodyPost_ret (v := .tuple #[.agg #[.int .u8 7, .string ⟨#[]⟩, .int .i64 ((s.size : Nat) : Int)], .int .i64 0]) (by simp [results, Tryz.results81, go_sem, e0, e1, e2]) rfl ⟨rfl, s.size, Nat.le_refl _, HD.out, (((((HW2.out.alloc).setNew (Nat.le_refl _) HNE.out _ _).setNew (Nat.le_refl _) HNE.out _ _).setNew (Nat.le_refl _) HNE.out _ _).setNew (Nat.le_refl _) HNE.out _ _).setNew (Nat.le_refl _) HNE.out _ _⟩
  | cons c r =>
    have hlt : a < s.size := by
      have hlen := congrArg List.length hd
      simp at hlen
      omega
    have hr : s.data.toList.drop (a + 1) = r := by rw [← List.drop_drop, hd]; rfl
    have KE : Hid (∀ w', Rd w' R s a → Calls Tryz.prog 111 #[.pointer (some ⟨R, 0, none⟩)] w' fun e w'' => e = .returned (.bool false) ∧ Went R s a w' w'') := fun w' hr => (ended_no R a s w' hr hlt).mono fun _ _ h => hr.went h
    have KL : Hid (∀ w', Rd w' R s a → Calls Tryz.prog 112 #[.pointer (some ⟨R, 0, none⟩), .slice (some ⟨w'.heap.size, 0, none⟩) 1 1] (w'.alloc (.cells #[.string lettersZ] 9)) fun e w'' => e = .returned (.bool (lowB c)) ∧ Went R s a w' w'') := fun w' hr => by
      have := next_set R a 1 [lettersZ] #[.string lettersZ] lowB among_letters rfl rfl (by decide) s w' hr ha
      rw [hd] at this
      exact this
    have KG : Hid (∀ w', Rd w' R s a → Calls Tryz.prog 112 #[.pointer (some ⟨R, 0, none⟩), .slice (some ⟨w'.heap.size, 0, none⟩) 1 1] (w'.alloc (.cells #[.string digitsZ] 9)) fun e w'' => e = .returned (.bool (digB c)) ∧ Went R s a w' w'') := fun w' hr => by
      have := next_set R a 1 [digitsZ] #[.string digitsZ] digB among_digits rfl rfl (by decide) s w' hr ha
      rw [hd] at this
      exact this
    have KY : ∀ y : UInt8, y = c → ∀ w', Rd w' R s a → Calls Tryz.prog 114 #[.pointer (some ⟨R, 0, none⟩), .string ⟨#[y]⟩] w' fun e w'' => e = .returned (.bool true) ∧ Went R s (a + 1) w' w'' := fun y hy w' hr =>
      skip_yes R a s ⟨#[y]⟩ hm w' hr ha (by rw [hd]; show List.isPrefixOf [y] (c :: r) = true; rw [prefix_one, hy]; simp)
    have KM : ∀ y : UInt8, y ≠ c → ∀ w', Rd w' R s a → Calls Tryz.prog 114 #[.pointer (some ⟨R, 0, none⟩), .string ⟨#[y]⟩] w' fun e w'' => e = .returned (.bool false) ∧ Went R s a w' w'' := fun y hy w' hr =>
      (skip_no R a s ⟨#[y]⟩ w' hr ha (by rw [hd]; show List.isPrefixOf [y] (c :: r) = false; rw [prefix_one]; simpa using hy)).mono fun _ _ h => hr.went h
    show Calls _ _ _ _ fun e w' => e = .returned (tkV (tokT (c :: r)) a) ∧ To R s (tokT (c :: r)).rest w w'
    have eT : tokT (c :: r) = if lowB c then wordT (c :: r) else if decide (c.toNat = 63) then namedT 3 r else if decide (c.toNat = 39) then namedT 5 r else if digB c then numberT (c :: r) else signT (c :: r) := rfl
    rw [eT]
    cases h0 : lowB c with
    | true =>
      rw [h0] at KL
      rw [if_pos rfl]
      exact token_word R a s w _ HR HNE KB KE KL (fun w' hr => by rw [← hd]; exact word_any R a s hm w' hr ha)
    | false =>
      rw [h0] at KL
      rw [if_neg (by simp)]
      cases h1 : decide (c.toNat = 63) with
      | true =>
        have hc : (63 : UInt8) = c := by
          have : c.toNat = 63 := by simpa using h1
          exact UInt8.toNat_inj.1 this.symm
        rw [if_pos rfl]
        exact token_var R a s w _ HR HNE KB KE KL (KY 63 hc) (fun w' hrd => by rw [← hr]; exact named_any R (a + 1) 3 s hm w' hrd (by omega))
      | false =>
        have hc : (63 : UInt8) ≠ c := by
          have : ¬ c.toNat = 63 := by simpa using h1
          rintro rfl
          exact this rfl
        have KQ := KM 63 hc
        rw [if_neg (by simp)]
        cases h2 : decide (c.toNat = 39) with
        | true =>
          have hc : (39 : UInt8) = c := by
            have : c.toNat = 39 := by simpa using h2
            exact UInt8.toNat_inj.1 this.symm
          rw [if_pos rfl]
          exact token_atom R a s w _ HR HNE KB KE KL KQ (KY 39 hc) (fun w' hrd => by rw [← hr]; exact named_any R (a + 1) 5 s hm w' hrd (by omega))
        | false =>
          have hc : (39 : UInt8) ≠ c := by
            have : ¬ c.toNat = 39 := by simpa using h2
            rintro rfl
            exact this rfl
          have KA := KM 39 hc
          rw [if_neg (by simp)]
          cases h3 : digB c with
          | true =>
            rw [h3] at KG
            rw [if_pos rfl]
            exact token_number R a s w _ HR HNE H2 HE KB KE KL KQ KA KG (fun w' hr he => by rw [← hd]; exact numberTok_any R a s hm w' hr ha he)
          | false =>
            rw [h3] at KG
            rw [if_neg (by simp)]
            exact token_sign R a s w _ HR HNE KB KE KL KQ KA KG (fun w' hr => by rw [← hd]; exact sign_any R a s hm w' hr ha)
end Go.Proofs.YtfmjhbaenpbfoaaGreatDoor
