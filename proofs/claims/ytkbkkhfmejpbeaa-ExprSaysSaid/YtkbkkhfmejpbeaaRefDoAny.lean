/- The reference's Do as the same plain function of its row. -/
import Derived.Test.YtkbkkhfmejpbeaaRefOps
import Derived.Test.YtkbkkhfmejpbeaaRefEq
import Derived.Test.YtkbkkhfmejpbeaaRefRec
import Derived.Test.YtkbkkhfmejpbeaaRefKindA
import Derived.Test.YtkbkkhfmejpbeaaRefKindB
import Derived.Test.YtkbkkhfmejpbeaaRefKindC
namespace Go.Proofs.Ytkbkkhfmejpbeaa
open Go.RowKit

theorem refDo_any (op : Int) (b off c : Nat) (zs : List V3) (w : World) (hz : zs.length ≤ 9223372036854775807) (hb : b < w.heap.size) (hc : RowAt w b off zs) (hm : Fine zs) :
    Calls Try.prog 25 #[.int .u8 op, .slice (some ⟨b, off, none⟩) zs.length c] w (DoPost (doV op zs) w) := by
  unfold doV
  cases h : knownB op with
  | false => rw [if_pos rfl]; exact refDo_arg op _ _ c w (Or.inl h)
  | true =>
    rw [if_neg (by simp)]
    cases h2 : ((zs.length : Int) != placesN op) with
    | true => rw [if_pos rfl]; exact refDo_arg op _ _ c w (Or.inr h2)
    | false =>
      rw [if_neg (by simp)]
      cases h3 : zs.any wrongB with
      | true =>
        rw [if_pos rfl]
        cases h4 : (op == 4) with
        | true => exact refDo_wrong4 op b off c _ zs w rfl hz hb hc hm h4 (by rw [placesN, h4] at h2; exact h2) h3
        | false =>
          cases h5 : (op == 11) with
          | true => exact refDo_wrong11 op b off c _ zs w rfl hz hb hc hm h4 h5 (by rw [placesN, h4, h5] at h2; exact h2) h3
          | false => exact refDo_wrong2 op b off c _ zs w rfl hz hb hc hm h4 h5 h (by rw [placesN, h4, h5] at h2; exact h2) h3
      | false =>
        rw [if_neg (by simp)]
        rcases known_cases h with rfl | rfl | rfl | rfl | rfl | rfl | rfl | rfl | rfl | rfl | rfl
        · obtain ⟨x, y, rfl⟩ := length_two h2
          cases h6 : ([x, y] : List V3).any nameB with
          | true => rw [if_pos ⟨rfl, rfl⟩]; exact refDo_1k b off c x y w hb hc hm h3 h6
          | false => rw [if_neg (by simp)]; exact refDo_1 b off c x y w hb hc hm h3 h6
        · obtain ⟨x, y, rfl⟩ := length_two h2
          cases h6 : ([x, y] : List V3).any nameB with
          | true => rw [if_pos ⟨rfl, rfl⟩]; exact refDo_2k b off c x y w hb hc hm h3 h6
          | false => rw [if_neg (by simp)]; exact refDo_2 b off c x y w hb hc hm h3 h6
        · obtain ⟨x, y, rfl⟩ := length_two h2
          cases h6 : ([x, y] : List V3).any nameB with
          | true => rw [if_pos ⟨rfl, rfl⟩]; exact refDo_3k b off c x y w hb hc hm h3 h6
          | false => rw [if_neg (by simp)]; exact refDo_3 b off c x y w hb hc hm h3 h6
        · obtain ⟨x, rfl⟩ := length_one h2
          cases h6 : ([x] : List V3).any nameB with
          | true => rw [if_pos ⟨rfl, rfl⟩]; exact refDo_4k b off c x w hb hc hm h3 h6
          | false => rw [if_neg (by simp)]; exact refDo_4 b off c x w hb hc hm h3 h6
        · obtain ⟨x, y, rfl⟩ := length_two h2
          rw [if_neg (by simp [takesB])]
          exact refDo_5 b off c x y w hb hc hm h3
        · obtain ⟨x, y, rfl⟩ := length_two h2
          rw [if_neg (by simp [takesB])]
          exact refDo_6 b off c x y w hb hc hm h3
        · obtain ⟨x, y, rfl⟩ := length_two h2
          cases h6 : ([x, y] : List V3).any nameB with
          | true => rw [if_pos ⟨rfl, rfl⟩]; exact refDo_7k b off c x y w hb hc hm h3 h6
          | false => rw [if_neg (by simp)]; exact refDo_7 b off c x y w hb hc hm h3 h6
        · obtain ⟨x, y, rfl⟩ := length_two h2
          cases h6 : ([x, y] : List V3).any nameB with
          | true => rw [if_pos ⟨rfl, rfl⟩]; exact refDo_8k b off c x y w hb hc hm h3 h6
          | false => rw [if_neg (by simp)]; exact refDo_8 b off c x y w hb hc hm h3 h6
        · obtain ⟨x, y, rfl⟩ := length_two h2
          cases h6 : ([x, y] : List V3).any nameB with
          | true => rw [if_pos ⟨rfl, rfl⟩]; exact refDo_9k b off c x y w hb hc hm h3 h6
          | false => rw [if_neg (by simp)]; exact refDo_9 b off c x y w hb hc hm h3 h6
        · obtain ⟨x, y, rfl⟩ := length_two h2
          cases h6 : ([x, y] : List V3).any nameB with
          | true => rw [if_pos ⟨rfl, rfl⟩]; exact refDo_10k b off c x y w hb hc hm h3 h6
          | false => rw [if_neg (by simp)]; exact refDo_10 b off c x y w hb hc hm h3 h6
        · obtain ⟨x, rfl⟩ := length_one h2
          cases h6 : ([x] : List V3).any nameB with
          | true => rw [if_pos ⟨rfl, rfl⟩]; exact refDo_11k b off c x w hb hc hm h3 h6
          | false => rw [if_neg (by simp)]; exact refDo_11 b off c x w hb hc hm h3 h6
end Go.Proofs.Ytkbkkhfmejpbeaa
