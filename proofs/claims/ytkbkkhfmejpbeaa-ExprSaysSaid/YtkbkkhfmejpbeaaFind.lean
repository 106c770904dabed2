/- slices.ContainsFunc over a row of values, for whatever predicate that leaves what was there. -/
import Derived.Test.YtkbkkhfmejpbeaaSums
import Derived.Deep.LoopGhost
import Derived.Lib.SliceRun
import Derived.Shelf.Abstract
namespace Go.Proofs.Ytkbkkhfmejpbeaa
open Go.RowKit

/-- The three cells of a value, at an offset of a block. -/
structure At (w : World) (b o : Nat) (x : Int × Int × ByteArray) : Prop where
  k : w.cell? ⟨b, o, none⟩ = some (.int .u8 x.1)
  n : w.cell? ⟨b, o + 1, none⟩ = some (.int .i64 x.2.1)
  s : w.cell? ⟨b, o + 2, none⟩ = some (.string x.2.2)

theorem At.later {w w' : World} {b o : Nat} {x : Int × Int × ByteArray} (h : At w b o x) (hb : Below w.heap.size w w') (hl : b < w.heap.size) : At w' b o x :=
  ⟨(hb.cell (p := ⟨b, o, none⟩) hl).trans h.k, (hb.cell (p := ⟨b, o + 1, none⟩) hl).trans h.n, (hb.cell (p := ⟨b, o + 2, none⟩) hl).trans h.s⟩

/-- A row of values from an offset on. -/
def RowAt (w : World) (b off : Nat) (zs : List (Int × Int × ByteArray)) : Prop := ∀ j, (h : j < zs.length) → At w b (off + j * 3) zs[j]

theorem any_hit {α : Type} (zs : List α) (p : α → Bool) (k : Nat) (hk : k < zs.length) (h : p zs[k] = true) : zs.any p = true := by
  rw [List.any_eq_true]
  exact ⟨zs[k], List.getElem_mem hk, h⟩

theorem any_miss {α : Type} (zs : List α) (p : α → Bool) (h : ∀ k, (hk : k < zs.length) → p zs[k] = false) : zs.any p = false := by
  rw [Bool.eq_false_iff]
  intro hall
  rw [List.any_eq_true] at hall
  obtain ⟨x, hx, hp⟩ := hall
  obtain ⟨k, hk, rfl⟩ := List.getElem_of_mem hx
  rw [h k hk] at hp
  cases hp

def SomeIdx (r : Bool) (w : World) (e : Ending) (w' : World) : Prop := ∃ i : Int, e = .returned (.int .i64 i) ∧ decide (0 ≤ i) = r ∧ Below w.heap.size w w'

set_option maxHeartbeats 1000000 in
theorem index_any (g : Nat) (p : Int × Int × ByteArray → Bool) (eg : ∀ args w, (callFunc g args).run Try.prog w = .ok (.enter g args) w)
    (hp : ∀ (x : Int × Int × ByteArray) (W : World), x.2.2.size ≤ maxLen → Calls Try.prog g #[.agg #[.int .u8 x.1, .int .i64 x.2.1, .string x.2.2]] W fun e w' => e = .returned (.bool (p x)) ∧ Below W.heap.size W w')
    (b off c : Nat) (zs : List (Int × Int × ByteArray)) (w : World) (hz : zs.length ≤ 9223372036854775807) (hb : b < w.heap.size) (hc : RowAt w b off zs) (hm : ∀ x, x ∈ zs → x.2.2.size ≤ maxLen) :
    Calls Try.prog 64 #[.slice (some ⟨b, off, none⟩) zs.length c, .func (.func g) #[] #[]] w (SomeIdx (zs.any p) w) := by
  have HC := Lib.hid hc
  have HP := Lib.hid hp
  have HM := Lib.hid hm
  clear hc hp hm
  generalize hn : zs.length = n at hz ⊢
  have HN := Lib.hid hn
  clear hn
  have HHit : Hid (∀ k, (hk : k < zs.length) → p zs[k] = true → zs.any p = true) := any_hit zs p
  have HMiss : Hid ((∀ k, (hk : k < zs.length) → p zs[k] = false) → zs.any p = false) := any_miss zs p
  generalize zs.any p = r at HHit HMiss ⊢
  go_enter Try.func64, Try.ntmps64
  go_wp2
  go_loopw [5, 8] (fun _ i wr => ∃ k : Nat, k ≤ n ∧ i = .int .i64 k ∧ Hid (Below w.heap.size w wr) ∧ Hid (∀ j, (hj : j < zs.length) → j < k → p zs[j] = false)) (fun _ i _ => n - (intOf i).toNat)
  case atStart => exact ⟨0, Nat.zero_le _, rfl, Below.refl _ w, fun j _ hj => absurd hj (Nat.not_lt_zero _)⟩
  case round =>
    obtain ⟨k, hk, rfl, HB, HA⟩ := hrel
    by_cases hlt : k < n
    · have hkz : k < zs.length := by rw [HN.out]; exact hlt
      have hat := (HC.out k hkz).later HB.out hb
      have hcall := HP.out zs[k] wr (HM.out _ (List.getElem_mem hkz))
      have HHk : Hid (p zs[k] = true → r = true) := HHit.out k hkz
      have HAk : Hid (p zs[k] = false → ∀ j, (hj : j < zs.length) → j < k + 1 → p zs[j] = false) := fun h j hj hjk => by
        rcases Nat.lt_or_ge j k with h' | h'
        · exact HA.out j hj h'
        · obtain rfl : j = k := by omega
          exact h
      clear HHit HA HC HP
      generalize zs[k] = x at hat hcall HHk HAk
      obtain ⟨xk, xn, xs⟩ := x
      obtain ⟨a1, a2, a3⟩ := hat
      have hltz : (k : Int) < (n : Int) := by omega
      cases hq : p (xk, xn, xs) with
      | true =>
        rw [hq] at hcall
        go_wp2_with (go_at_fn g; refine hcall.mono ?_; rintro e w' ⟨rfl, hb'⟩)
        go_ret
        exact ⟨k, rfl, by rw [HHk.out hq]; simp, HB.out.trans (hb'.mono HB.out.size)⟩
      | false =>
        rw [hq] at hcall
        go_wp2_with (go_at_fn g; refine hcall.mono ?_; rintro e w' ⟨rfl, hb'⟩)
        go_roundw
        case rel => exact ⟨k + 1, by omega, by go_num, HB.out.trans (hb'.mono HB.out.size), HAk.out hq⟩
        case measure => simp [intOf]; omega
    · have HR : Hid (r = false) := HMiss.out fun j hj => HA.out j hj (by rw [HN.out] at hj; omega)
      have hk' : k = n := by omega
      have hltz : ¬ (k : Int) < (n : Int) := by omega
      clear hk'
      go_wp2
      go_ret
      exact ⟨-1, rfl, by rw [HR.out]; rfl, HB.out⟩

theorem contains_any (g : Nat) (p : Int × Int × ByteArray → Bool) (eg : ∀ args w, (callFunc g args).run Try.prog w = .ok (.enter g args) w)
    (hp : ∀ (x : Int × Int × ByteArray) (W : World), x.2.2.size ≤ maxLen → Calls Try.prog g #[.agg #[.int .u8 x.1, .int .i64 x.2.1, .string x.2.2]] W fun e w' => e = .returned (.bool (p x)) ∧ Below W.heap.size W w')
    (b off c : Nat) (zs : List (Int × Int × ByteArray)) (w : World) (hz : zs.length ≤ 9223372036854775807) (hb : b < w.heap.size) (hc : RowAt w b off zs) (hm : ∀ x, x ∈ zs → x.2.2.size ≤ maxLen) :
    Calls Try.prog 54 #[.slice (some ⟨b, off, none⟩) zs.length c, .func (.func g) #[] #[]] w fun e w' => e = .returned (.bool (zs.any p)) ∧ Below w.heap.size w w' := by
  have hcon := index_any g p eg hp b off c zs w hz hb hc hm
  generalize zs.any p = r at hcon ⊢
  clear hc hm hp eg
  go_enter Try.func54, Try.ntmps54
  go_wp2_with (go_at_call 64; refine hcon.mono ?_; rintro e w' ⟨i, rfl, HI, hb'⟩)
  go_ret
  exact ⟨rfl, hb'⟩
end Go.Proofs.Ytkbkkhfmejpbeaa
