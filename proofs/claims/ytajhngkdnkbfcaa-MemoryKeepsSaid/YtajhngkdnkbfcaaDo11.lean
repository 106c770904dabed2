/- Steps of a memory's life: Pick, do. -/
import Derived.Test.YtajhngkdnkbfcaaKit11
namespace Go.Proofs.Ytajhngkdnkbfcaa
open Go.RowKit

def pickI (x n : Int) : Int := if n < 1 then 0 else if x.tmod n < 0 then x.tmod n + n else x.tmod n
set_option maxHeartbeats 1000000 in
theorem pick_any (x n : Int) (hn : 0 < n ∧ n ≤ 100000) (w : World) : Calls Try.prog 17 #[.int .i64 x, .int .i64 n] w fun e w' => e = .returned (.int .i64 (pickI x n)) ∧ w = w' := by
  have h1 : ¬ n < 1 := by omega
  have hb := Int.tmod_lt_of_pos x hn.1
  have hb2 : -n < x.tmod n := by
    have := Int.tmod_lt_of_pos (-x) hn.1
    rw [Int.neg_tmod] at this
    omega
  have hz : n ≠ 0 := by omega
  unfold pickI
  rw [if_neg h1]
  by_cases h2 : x.tmod n < 0
  · rw [if_pos h2]
    go_enter Try.func17, Try.ntmps17
    go_wp2
    go_ret
    exact ⟨rfl, rfl⟩
  · rw [if_neg h2]
    go_enter Try.func17, Try.ntmps17
    go_wp2
    go_ret
    exact ⟨rfl, rfl⟩
theorem pick_bounds (x n : Int) (hn : 0 < n) : 0 ≤ pickI x n ∧ pickI x n < n := by
  have hb := Int.tmod_lt_of_pos x hn
  have hb2 : -n < x.tmod n := by
    have := Int.tmod_lt_of_pos (-x) hn
    rw [Int.neg_tmod] at this
    omega
  unfold pickI
  rw [if_neg (by omega)]
  split
  · omega
  · omega
/-- A step. -/
structure D11 where
  op : Int
  id : Int
  kind : Int
  args : List V3
instance : Inhabited D11 := ⟨⟨0, 0, 0, []⟩⟩
def doM (l : List F11) (nx : Int) (x : D11) : M11 := if pickI x.op 3 = 2 then ⟨.tuple #[.int .i64 0, (dropM l nx x.id).tells], (dropM l nx x.id).facts, (dropM l nx x.id).next⟩ else addM l nx x.kind x.args
theorem drop_tells (l : List F11) (nx t : Int) : ∃ e : Int, (dropM l nx t).tells = .int .i64 e := by
  unfold dropM
  split
  · exact ⟨0, rfl⟩
  · exact ⟨6, rfl⟩
theorem add_tells (l : List F11) (nx kind : Int) (vs : List V3) : ∃ i e : Int, (addM l nx kind vs).tells = .tuple #[.int .i64 i, .int .i64 e] := by
  unfold addM
  split
  · exact ⟨0, 2, rfl⟩
  · split
    · exact ⟨_, 7, rfl⟩
    · split
      · exact ⟨0, 5, rfl⟩
      · exact ⟨nx, 0, rfl⟩
theorem do_tells (l : List F11) (nx : Int) (x : D11) : ∃ i e : Int, (doM l nx x).tells = .tuple #[.int .i64 i, .int .i64 e] := by
  unfold doM
  split
  · obtain ⟨e, h⟩ := drop_tells l nx x.id
    exact ⟨0, e, by rw [h]⟩
  · exact add_tells _ _ _ _
set_option maxRecDepth 100000 in
set_option maxHeartbeats 2000000 in
theorem do_any (x : D11) (vo : Option Addr) (vc : Nat) (mb rb : Nat) (ao : Option Addr) (c : Nat) (l : List F11) (nx : Int) (w : World) (hM : Mm w mb rb ao c l nx) (hs : Sl10 w.heap.size w x.args.length vo vc (cellsV x.args)) (hx : ∀ v ∈ x.args, v.2.2.size ≤ 140737488355328) (hn : x.args.length ≤ 100000) :
    Calls Try.prog 22 #[.pointer (some ⟨mb, 0, none⟩), .agg #[.int .i64 x.op, .int .i64 x.id, .int .i64 x.kind, .slice vo x.args.length vc]] w (BecomesP mb rb ao (doM l nx x) w) := by
  obtain ⟨op, id, kind, args⟩ := x
  simp only at *
  have HAdd := Lib.hid (fun W (b : Below w.heap.size w W) => add_any kind args vo vc mb rb ao c l nx W (hM.old b) (hs.up b b.size) hx hn)
  have HDrop := Lib.hid (fun W (b : Below w.heap.size w W) => drop_any id mb rb ao c l nx W (hM.old b))
  have HPick := Lib.hid (fun W => pick_any op 3 (by decide) W)
  have hUp : ∀ (m : M11) (e : Ending) (W W' : World), Below w.heap.size w W → BecomesP mb rb ao m W e W' → BecomesP mb rb ao m w e W' := fun m e W W' b h => by
    obtain ⟨h0, ao', c', h1, h2, h3⟩ := h
    exact ⟨h0, ao', c', h1, ((Touch.refl _ w).step b).trans h2, h3.up b.size⟩
  have HUp := Lib.hid hUp
  clear hM hs hx hn hUp
  unfold doM
  simp only
  by_cases hp : pickI op 3 = 2
  · rw [if_pos hp]
    obtain ⟨er, her⟩ := drop_tells l nx id
    have HEr := Lib.hid her
    clear her
    have hp2 : (pickI op 3 == 2) = true := by rw [hp]; rfl
    clear hp
    generalize pickI op 3 = pk at *
    generalize args.length = n at *
    go_enter Try.func22, Try.ntmps22
    go_wp2_with (first
      | (go_at_call 17; refine (HPick.out _).mono ?_; rintro e w2 ⟨rfl, rfl⟩)
      | (go_at_call 11; refine (HDrop.out _ (below_own _)).mono ?_; rintro e w3 hb; have HB := Lib.hid (HUp.out _ _ _ _ (below_own _) hb); obtain ⟨rfl, -⟩ := hb; rw [HEr.out]))
    go_ret2
    obtain ⟨h0, h1⟩ := HB.out
    refine ⟨?_, h1⟩
    rw [HEr.out]
    rfl
  · rw [if_neg hp]
    obtain ⟨ai, er, her⟩ := add_tells l nx kind args
    have HEr := Lib.hid her
    clear her
    have hp2 : (pickI op 3 == 2) = false := by rw [beq_eq_false_iff_ne]; exact hp
    clear hp
    generalize pickI op 3 = pk at *
    obtain ⟨m, hm⟩ : ∃ m, m = addM l nx kind args := ⟨_, rfl⟩
    rw [← hm] at HAdd HEr ⊢
    clear hm
    generalize args.length = n at *
    go_enter Try.func22, Try.ntmps22
    go_wp2_with (first
      | (go_at_call 17; refine (HPick.out _).mono ?_; rintro e w2 ⟨rfl, rfl⟩)
      | (go_at_call 7; refine (HAdd.out _ (below_own _)).mono ?_; rintro e w3 hb; have HB := Lib.hid (HUp.out _ _ _ _ (below_own _) hb); obtain ⟨rfl, -⟩ := hb; rw [HEr.out]))
    go_ret2
    obtain ⟨h0, h1⟩ := HB.out
    refine ⟨?_, h1⟩
    rw [HEr.out]
    rfl
end Go.Proofs.Ytajhngkdnkbfcaa
