/- The document's token, whatever stands there. -/
import Derived.Test.YtebfclanamoldaaDoorRefTok4
namespace Go.Proofs.YtebfclanamoldaaDoor
open Go.RowKit

theorem rtV_end (x : Tk) (a e e' : Nat) (h : x.err = 0 → e = e') : rtV x a e = rtV x a e' := by
  unfold rtV
  by_cases hx : x.err = 0
  · rw [h hx]
  · rw [if_neg hx, if_neg hx]

/-- Where a token ends: by what it is. -/
theorem end_of (s : ByteArray) (a : Nat) (ha : a < s.size) (h : (tokT (s.data.toList.drop a)).err = 0) : a + ahead (tokT (s.data.toList.drop a)).kind + (tokT (s.data.toList.drop a)).text.length = s.size - (tokT (s.data.toList.drop a)).rest.length := by
  obtain ⟨s1, _, s3⟩ := tok_stands _ h
  rw [s3]
  simp at s1 ⊢
  omega

theorem refTok_any (s : ByteArray) (hm : s.size ≤ 100000) (a : Nat) (ha : a < s.size) (w : World) :
    Calls Tryd.prog 19 #[.string s, .int .i64 a] w fun e w' => e = .returned (rtV (tokT (s.data.toList.drop a)) a (s.size - (tokT (s.data.toList.drop a)).rest.length)) ∧ Below w.heap.size w w' := by
  have hE := end_of s a ha
  have hd := drop_at s a ha
  have hx : tokT (s.data.toList.drop a) = if lowB s[a] then wordT (s.data.toList.drop a) else if decide (s[a].toNat = 63) then namedT 3 (s.data.toList.drop (a + 1)) else if decide (s[a].toNat = 39) then namedT 5 (s.data.toList.drop (a + 1)) else if digB s[a] then numberT (s.data.toList.drop a) else signT (s.data.toList.drop a) := by
    rw [hd]
    exact tokT_cons _ _
  rw [hx] at hE ⊢
  clear hx hd
  by_cases h0 : lowB s[a] = true
  · rw [if_pos h0] at hE ⊢
    refine (refTok_word s (by omega) a ha w h0).mono ?_
    rintro e w' ⟨rfl, hb⟩
    refine ⟨?_, hb⟩
    rw [rtV_end _ _ _ _ fun h => ?_]
    rw [← hE h]
    unfold wordT at h ⊢
    split
    · rfl
    · rename_i hw
      rw [if_neg hw] at h
      rw [(tkOf_ok h).1]
      rfl
  · rw [if_neg h0] at hE ⊢
    have h0' : lowB s[a] = false := by simpa using h0
    by_cases h1 : s[a].toNat = 63
    · rw [if_pos (by simpa using h1)] at hE ⊢
      refine (refTok_var s (by omega) a ha w h1).mono ?_
      rintro e w' ⟨rfl, hb⟩
      refine ⟨?_, hb⟩
      rw [rtV_end _ _ _ _ fun h => ?_]
      rw [← hE h]
      unfold namedT at h ⊢
      rw [(tkOf_ok h).1]
      rfl
    · rw [if_neg (by simpa using h1)] at hE ⊢
      by_cases h2 : s[a].toNat = 39
      · rw [if_pos (by simpa using h2)] at hE ⊢
        refine (refTok_atom s (by omega) a ha w h2).mono ?_
        rintro e w' ⟨rfl, hb⟩
        refine ⟨?_, hb⟩
        rw [rtV_end _ _ _ _ fun h => ?_]
        rw [← hE h]
        unfold namedT at h ⊢
        rw [(tkOf_ok h).1]
        rfl
      · rw [if_neg (by simpa using h2)] at hE ⊢
        by_cases h3 : digB s[a] = true
        · rw [if_pos h3] at hE ⊢
          refine (refTok_number s hm a ha w h0' h1 h2 h3).mono ?_
          rintro e w' ⟨rfl, hb⟩
          refine ⟨?_, hb⟩
          rw [rtV_end _ _ _ _ fun h => ?_]
          rw [← hE h]
          unfold numberT at h ⊢
          rw [(tkOf_ok h).1]
          rfl
        · rw [if_neg h3] at hE ⊢
          have h3' : digB s[a] = false := by simpa using h3
          refine (refTok_sign s hm a ha w h0' h1 h2 h3').mono ?_
          rintro e w' ⟨rfl, hb⟩
          refine ⟨?_, hb⟩
          rw [rtV_end _ _ _ _ fun h => ?_]
          rw [← hE h]
          unfold signT at h ⊢
          split
          · rfl
          · rename_i ht
            rw [ht] at h
            exact absurd (show (200 : Int) = 0 from h) (by decide)
end Go.Proofs.YtebfclanamoldaaDoor
