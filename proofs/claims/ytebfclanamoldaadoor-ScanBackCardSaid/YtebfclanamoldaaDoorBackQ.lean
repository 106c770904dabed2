/- What stands between; what is written. -/
import Derived.Test.YtebfclanamoldaaDoorBackP
import Derived.Test.YtebfclanamoldaaDoorPlaces
namespace Go.Proofs.YtebfclanamoldaaDoor
open Go.RowKit

theorem seq_good (N : Nat) (f : Nat) : ∀ l : Bs, l.length < f → (∀ y ∈ seqF N f l, y.1.err = 0) → ∃ q, seqF N f l = q ++ [endY N] ∧ ∀ y ∈ q, Good y.1.kind y.1.text ∧ y.1.kind ≠ 7 := by
  induction f with
  | zero => intro l h; omega
  | succ f ih =>
    intro l hl hok
    have hsl := skipS_len false l
    rw [seqF_succ] at hok ⊢
    generalize skipS false l = m at hok hsl ⊢
    have he := hok _ List.mem_cons_self
    have he' : (tokT m).err = 0 := he
    by_cases hk : (tokT m).kind = 7
    · have hm := tok_end m he' hk
      subst hm
      rw [if_neg (by rintro ⟨_, h⟩; exact h rfl)]
      exact ⟨[], rfl, fun y hy => by cases hy⟩
    · have hless := tok_less m he' hk
      rw [if_pos ⟨he', hk⟩] at hok ⊢
      obtain ⟨q, hq, hgq⟩ := ih (tokT m).rest (by omega) (fun y hy => hok y (List.mem_cons_of_mem _ hy))
      refine ⟨(tokT m, N - m.length) :: q, by rw [hq]; rfl, fun y hy => ?_⟩
      rcases List.mem_cons.1 hy with rfl | hy
      · exact ⟨tok_good m he', hk⟩
      · exact hgq y hy

/-- The four that stand between. -/
def btB (note : Bs) : List Bs := [[32], [9, 13], [10, 10], [32, 35, 32] ++ note ++ [10]]
theorem line_of (note m : Bs) (h : note.all lineB = true) : skipS true (note ++ 10 :: m) = skipS false m := by
  induction note with
  | nil =>
    show skipS true (10 :: m) = _
    simp [skipS, lineB]
  | cons c t ih =>
    rw [List.all_cons, Bool.and_eq_true] at h
    rw [List.cons_append]
    simp only [skipS]
    rw [if_pos h.1, ih h.2]
theorem between_ok (note : Bs) (h : note.all lineB = true) : ∀ g ∈ btB note, Between g := by
  intro g hg
  unfold btB at hg
  simp only [List.mem_cons, List.not_mem_nil, or_false] at hg
  rcases hg with rfl | rfl | rfl | rfl
  · exact ⟨⟨32, [], rfl, by decide⟩, fun m => by simp [skipS, blankB]⟩
  · exact ⟨⟨9, [13], rfl, by decide⟩, fun m => by simp [skipS, blankB]⟩
  · exact ⟨⟨10, [10], rfl, by decide⟩, fun m => by simp [skipS, blankB]⟩
  · refine ⟨⟨32, [35, 32] ++ note ++ [10], rfl, by decide⟩, fun m => ?_⟩
    have e : [32, 35, 32] ++ note ++ [10] ++ m = 32 :: 35 :: 32 :: (note ++ 10 :: m) := by simp
    rw [e]
    have h1 : skipS false (32 :: 35 :: 32 :: (note ++ 10 :: m)) = skipS true (note ++ 10 :: m) := by
      simp [skipS, blankB, hashB, lineB]
    rw [h1, line_of note m h]

theorem cat_bytes (a b : Bs) : (⟨a.toArray⟩ : ByteArray) ++ ⟨b.toArray⟩ = ⟨(a ++ b).toArray⟩ := by
  apply ByteArray.ext
  apply Array.ext'
  simp [ByteArray.data_append]

theorem writtenB_take (g : Bs) (ys : List Y) (k : Nat) (h : k < ys.length) : writtenB g (ys.take (k + 1)) = writtenB g (ys.take k) ++ (sigil (ys[k]).1.kind ++ (ys[k]).1.text ++ g) := by
  rw [List.take_succ_eq_append_getElem h, writtenB_append]
  simp [writtenB]

theorem writtenB_le (g : Bs) (ys : List Y) (k : Nat) : (writtenB g (ys.take k)).length ≤ (writtenB g ys).length := by
  have h : writtenB g ys = writtenB g (ys.take k) ++ writtenB g (ys.drop k) := by rw [← writtenB_append, List.take_append_drop]
  rw [h, List.length_append]
  omega

set_option maxRecDepth 100000 in
set_option maxHeartbeats 2000000 in
theorem written_any (ys : List Y) (bg c : Nat) (g : Bs) (hn : ys.length ≤ 100000) (hW : (writtenB g ys).length ≤ 1000000000) (w : World) (hc : ∀ (j : Nat) (u : Value), (lexCs ys)[j]? = some u → w.cell? ⟨bg, j, none⟩ = some u) :
    Calls Tryd.prog 17 #[.slice (some ⟨bg, 0, none⟩) ys.length c, .string ⟨g.toArray⟩] w fun e w' => e = .returned (.string ⟨(writtenB g ys).toArray⟩) ∧ w = w' := by
  have HC := Lib.hid hc
  have HW := Lib.hid hW
  clear hW
  obtain ⟨n, hn'⟩ : ∃ n, ys.length = n := ⟨_, rfl⟩
  have HNL := Lib.hid hn'
  rw [hn'] at hn ⊢
  obtain ⟨gz, hgz⟩ : ∃ gz : ByteArray, gz = ⟨g.toArray⟩ := ⟨_, rfl⟩
  have HGZ := Lib.hid hgz
  rw [← hgz]
  clear hc hn' hgz
  go_enter Tryd.func17, Tryd.ntmps17
  go_wp2
  go_loop [5, 6] (fun sv i => ∃ (k : Nat) (b : ByteArray), k ≤ n ∧ i = .int .i64 k ∧ sv = .string b ∧ Hid (b = ⟨(writtenB g (ys.take k)).toArray⟩)) (fun _ i => n - (intOf i).toNat)
  case atStart => exact ⟨0, _, Nat.zero_le _, rfl, rfl, rfl⟩
  case round =>
    obtain ⟨k, b, hk, rfl, rfl, HBb⟩ := hrel
    by_cases hlt : k < n
    · have hkl : k < ys.length := by rw [HNL.out]; exact hlt
      obtain ⟨b0, b1, b2⟩ := lexCs_at ys k hkl
      clear b2
      have c0 := HC.out _ _ b0
      have c1 := HC.out _ _ b1
      have HT := Lib.hid (writtenB_take g ys k hkl)
      have hle := writtenB_le g ys (k + 1)
      rw [HT.out] at hle
      generalize ys[k] = x at c0 c1 HT hle
      obtain ⟨⟨er, kd, tx, rs⟩, a⟩ := x
      simp only at c0 c1 HT hle
      obtain ⟨z, hz⟩ : ∃ z : ByteArray, z = ⟨tx.toArray⟩ := ⟨_, rfl⟩
      rw [← hz] at c1
      have HZ := Lib.hid hz
      have hsz : b.size + ((sigil kd).length + z.size + gz.size) ≤ 1000000000 := by
        have e1 : b.size = (writtenB g (ys.take k)).length := by rw [HBb.out]; simp [ByteArray.size]
        have e2 : z.size = tx.length := by rw [hz]; simp [ByteArray.size]
        have e3 : gz.size = g.length := by rw [HGZ.out]; simp [ByteArray.size]
        have e4 := HW.out
        simp only [List.length_append] at hle
        omega
      clear b0 b1 hkl hz hle
      by_cases h3 : kd = 3
      · subst h3
        have e5 : (sigil 3).length = 1 := rfl
        have l1 : ¬ 9223372036854775807 < b.size + 1 := by omega
        have l2 : ¬ 9223372036854775807 < b.size + 1 + z.size := by omega
        have l3 : ¬ 9223372036854775807 < b.size + 1 + z.size + gz.size := by omega
        clear hsz e5
        go_wp2
        go_round
        case rel =>
          refine ⟨k + 1, _, by omega, by go_num, rfl, ?_⟩
          unfold Hid
          rw [HBb.out, HZ.out, HGZ.out, HT.out]
          show ((⟨(writtenB g (ys.take k)).toArray⟩ : ByteArray) ++ ⟨([63] : Bs).toArray⟩ ++ ⟨tx.toArray⟩ ++ ⟨g.toArray⟩) = _
          rw [cat_bytes, cat_bytes, cat_bytes]
          simp [sigil]
        case measure => simp [intOf]; omega
      · have q3 : (kd == 3) = false := by simpa using h3
        by_cases h5 : kd = 5
        · subst h5
          have e5 : (sigil 5).length = 1 := rfl
          have l1 : ¬ 9223372036854775807 < b.size + 1 := by omega
          have l2 : ¬ 9223372036854775807 < b.size + 1 + z.size := by omega
          have l3 : ¬ 9223372036854775807 < b.size + 1 + z.size + gz.size := by omega
          clear h3 hsz e5
          go_wp2
          go_round
          case rel =>
            refine ⟨k + 1, _, by omega, by go_num, rfl, ?_⟩
            unfold Hid
            rw [HBb.out, HZ.out, HGZ.out, HT.out]
            show ((⟨(writtenB g (ys.take k)).toArray⟩ : ByteArray) ++ ⟨([39] : Bs).toArray⟩ ++ ⟨tx.toArray⟩ ++ ⟨g.toArray⟩) = _
            rw [cat_bytes, cat_bytes, cat_bytes]
            simp [sigil]
          case measure => simp [intOf]; omega
        · have q5 : (kd == 5) = false := by simpa using h5
          have HSG : Hid (sigil kd = []) := by unfold Hid sigil; rw [if_neg h3, if_neg h5]
          have l1 : ¬ 9223372036854775807 < b.size + z.size := by omega
          have l2 : ¬ 9223372036854775807 < b.size + z.size + gz.size := by omega
          clear h3 h5 hsz
          go_wp2
          go_round
          case rel =>
            refine ⟨k + 1, _, by omega, by go_num, rfl, ?_⟩
            unfold Hid
            rw [HBb.out, HZ.out, HGZ.out, HT.out, HSG.out]
            show ((⟨(writtenB g (ys.take k)).toArray⟩ : ByteArray) ++ ⟨tx.toArray⟩ ++ ⟨g.toArray⟩) = _
            rw [cat_bytes, cat_bytes]
            simp
          case measure => simp [intOf]; omega
    · obtain rfl : k = n := by omega
      have HF : Hid (b = ⟨(writtenB g ys).toArray⟩) := by
        have h := HBb.out
        rw [List.take_of_length_le (by rw [HNL.out]; exact Nat.le_refl _)] at h
        exact h
      go_wp2
      go_ret
      exact ⟨by rw [← HF.out]; rfl, rfl⟩
end Go.Proofs.YtebfclanamoldaaDoor
