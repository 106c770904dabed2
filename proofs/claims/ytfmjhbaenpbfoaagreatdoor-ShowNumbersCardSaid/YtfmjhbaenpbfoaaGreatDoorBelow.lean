/- A look at a kid: a - ahead of a number is taken away where it may stand. -/
import Derived.Test.YtfmjhbaenpbfoaaGreatDoorKinds
import Derived.Test.YtfmjhbaenpbfoaaGreatDoorSameT
namespace Go.Proofs.YtfmjhbaenpbfoaaGreatDoor
open Go.RowKit

/-- A text without the - ahead of it. -/
def cutS (s : ByteArray) : ByteArray := ⟨(cutT s).toArray⟩
theorem cutS_num (s : ByteArray) : numB (cutS s).data.toList = numsT s := rfl
/-- The text as a look below a node of kind k sees it. -/
def seenT (k : Int) (t : T) : ByteArray := if t.kind = 14 ∧ (k = 5 ∨ k = 6) then cutS t.text else t.text
theorem trim_cut (s : ByteArray) : (⟨(Lib.trimPrefix s.data.toList [45]).toArray⟩ : ByteArray) = cutS s := by
  unfold cutS cutT
  congr 2
  unfold Lib.trimPrefix
  cases h : s.data.toList with
  | nil => rfl
  | cons c r =>
    by_cases hc : c = 45
    · subst hc
      simp [Lib.hasPrefix]
    · simp [Lib.hasPrefix, hc]
      exact fun e => hc e.symm
theorem trimP_any (s : ByteArray) (w : World) : Calls Tryz.prog 79 #[.string s, .string ⟨#[45]⟩] w fun e w' => e = .returned (.string (cutS s)) ∧ w = w' := by
  have h := Tryz.strings_TrimPrefix s ⟨#[45]⟩ w
  rw [show (⟨#[45]⟩ : ByteArray).data.toList = [45] from rfl, trim_cut] at h
  exact h.mono fun e w' ⟨h1, h2⟩ => ⟨h1, h2.symm⟩

theorem below_two' (w : World) (o1 o2 : Obj) : Below w.heap.size w ((w.alloc o1).alloc o2) := below_new (below_own o1) o2
set_option maxRecDepth 100000 in
set_option maxHeartbeats 2000000 in
theorem below_any (t u : T) (v : Value) (za : Option Addr) (zn zc : Nat) (ab : Int) (h0 : 0 ≤ ab) (h1 : ab ≤ 1000) (w : World) :
    Calls Tryz.prog 56 #[.agg #[.int .u8 t.kind, .string t.text, .int .i64 t.num, .int .i64 t.pos, v, .int .i64 ab], agg u (.slice za zn zc)] w fun e w' => e = .returned (.agg #[.int .u8 u.kind, .string (seenT t.kind u), .int .i64 u.num, .int .i64 u.pos, .slice za zn zc, .int .i64 (ab + 1)]) ∧ Below w.heap.size w w' := by
  have KT := Lib.hid (fun W => trimP_any u.text W)
  have HS : Hid (seenT t.kind u = if u.kind = 14 ∧ (t.kind = 5 ∨ t.kind = 6) then cutS u.text else u.text) := rfl
  unfold agg
  generalize seenT t.kind u = st at HS ⊢
  have HB := Lib.hid (below_two' w (.cells #[.int .u8 t.kind, .string t.text, .int .i64 t.num, .int .i64 t.pos, v, .int .i64 ab] 62) (.cells #[.int .u8 u.kind, .string u.text, .int .i64 u.num, .int .i64 u.pos, .slice za zn zc] 25))
  by_cases hk : u.kind = 14
  · by_cases h5 : t.kind = 5
    · have HS1 : Hid (st = cutS u.text) := by unfold Hid; rw [HS.out, if_pos ⟨hk, Or.inl h5⟩]
      rw [hk, h5]
      clear HS hk h5 HB
      generalize cutS u.text = zt at KT HS1
      obtain rfl : st = zt := HS1.out
      clear HS1
      go_enter Tryz.func56, Tryz.ntmps56
      go_wp2_with (go_at_call 79; go_must (refine (KT.out _).mono ?_; rintro e w1 ⟨rfl, rfl⟩))
      refine bodyPost_ret (v := .agg #[.int .u8 14, .string st, .int .i64 u.num, .int .i64 u.pos, .slice za zn zc, .int .i64 (ab + 1)]) (by simp [results, Tryz.results56, go_sem]) rfl ⟨rfl, below_new (below_new (below_own _) _) _⟩
    · by_cases h6 : t.kind = 6
      · have HS1 : Hid (st = cutS u.text) := by unfold Hid; rw [HS.out, if_pos ⟨hk, Or.inr h6⟩]
        rw [hk, h6]
        clear HS hk h5 h6 HB
        generalize cutS u.text = zt at KT HS1
        obtain rfl : st = zt := HS1.out
        clear HS1
        go_enter Tryz.func56, Tryz.ntmps56
        go_wp2_with (go_at_call 79; go_must (refine (KT.out _).mono ?_; rintro e w1 ⟨rfl, rfl⟩))
        refine bodyPost_ret (v := .agg #[.int .u8 14, .string st, .int .i64 u.num, .int .i64 u.pos, .slice za zn zc, .int .i64 (ab + 1)]) (by simp [results, Tryz.results56, go_sem]) rfl ⟨rfl, below_new (below_new (below_own _) _) _⟩
      · have HS1 : Hid (st = u.text) := by unfold Hid; rw [HS.out, if_neg (fun h => by rcases h.2 with h | h; exact h5 h; exact h6 h)]
        have h5' : (t.kind == 5) = false := beq_eq_false_iff_ne.2 h5
        have h6' : (t.kind == 6) = false := beq_eq_false_iff_ne.2 h6
        obtain rfl : st = u.text := HS1.out
        rw [hk]
        clear HS hk HS1 KT h5 h6 HB
        go_enter Tryz.func56, Tryz.ntmps56
        go_wp2_with fail
        refine bodyPost_ret (v := .agg #[.int .u8 14, .string u.text, .int .i64 u.num, .int .i64 u.pos, .slice za zn zc, .int .i64 (ab + 1)]) (by simp [results, Tryz.results56, go_sem]) rfl ⟨rfl, below_new (below_new (below_own _) _) _⟩
  · have HS1 : Hid (st = u.text) := by unfold Hid; rw [HS.out, if_neg (fun h => hk h.1)]
    have hk' : (u.kind == 14) = false := beq_eq_false_iff_ne.2 hk
    obtain rfl : st = u.text := HS1.out
    clear HS hk HS1 KT HB
    go_enter Tryz.func56, Tryz.ntmps56
    go_wp2_with fail
    refine bodyPost_ret (v := .agg #[.int .u8 u.kind, .string u.text, .int .i64 u.num, .int .i64 u.pos, .slice za zn zc, .int .i64 (ab + 1)]) (by simp [results, Tryz.results56, go_sem]) rfl ⟨rfl, below_new (below_new (below_own _) _) _⟩

set_option maxRecDepth 100000 in
theorem stands_any (t : T) (v : Value) (ab : Int) (w : World) :
    Calls Tryz.prog 53 #[.agg #[.int .u8 t.kind, .string t.text, .int .i64 t.num, .int .i64 t.pos, v, .int .i64 ab]] w fun e w' => e = .returned (.bool (decide (0 ≤ t.pos) && decide (ab < 30))) ∧ Gr w w' := by
  have HG : Hid (Gr w (w.alloc (.cells #[.int .u8 t.kind, .string t.text, .int .i64 t.num, .int .i64 t.pos, v, .int .i64 ab] 62))) := box_gr _ _
  generalize t.pos = p at HG ⊢
  by_cases h1 : 0 ≤ p
  · by_cases h2 : ab < 30
    · have HR : Hid ((decide (0 ≤ p) && decide (ab < 30)) = true) := by unfold Hid; rw [decide_eq_true h1, decide_eq_true h2]; rfl
      rw [HR.out]
      go_enter Tryz.func53, Tryz.ntmps53
      go_wp2_with fail
      go_ret
      exact ⟨rfl, HG.out⟩
    · have HR : Hid ((decide (0 ≤ p) && decide (ab < 30)) = false) := by unfold Hid; rw [decide_eq_false h2, Bool.and_false]
      have hd : decide (ab < 30) = false := decide_eq_false h2
      rw [HR.out]
      go_enter Tryz.func53, Tryz.ntmps53
      go_wp2_with fail
      go_ret
      exact ⟨by simp, HG.out⟩
  · have HR : Hid ((decide (0 ≤ p) && decide (ab < 30)) = false) := by unfold Hid; rw [decide_eq_false h1, Bool.false_and]
    have hd : decide (0 ≤ p) = false := decide_eq_false h1
    rw [HR.out]
    go_enter Tryz.func53, Tryz.ntmps53
    go_wp2_with fail
    go_ret
    exact ⟨by simp, HG.out⟩
end Go.Proofs.YtfmjhbaenpbfoaaGreatDoor
