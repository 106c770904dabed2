/- The reader in memory; small looks at what is left. -/
import Derived.Test.YtfmjhbaenpbfoaaGreatDoorBase
import Derived.Test.YtfmjhbaenpbfoaaGreatDoorShelf
namespace Go.Proofs.YtfmjhbaenpbfoaaGreatDoor
open Go.RowKit

/-- The reader lies at block R: its source, and how far it is. -/
structure Rd (w : World) (R : Nat) (s : ByteArray) (k : Nat) : Prop where
  two : 5 ≤ R
  lt : R < w.heap.size
  src : w.cell? ⟨R, 0, none⟩ = some (.string s)
  pos : w.cell? ⟨R, 1, none⟩ = some (.int .i64 k)
  froz : w.frozen? ⟨R, 1, none⟩ = false
theorem Rd.below {w w' : World} {R : Nat} {s : ByteArray} {k : Nat} (h : Rd w R s k) (b : Below w.heap.size w w') : Rd w' R s k :=
  ⟨h.two, Nat.lt_of_lt_of_le h.lt b.size, (b.cell (p := ⟨R, 0, none⟩) h.lt).trans h.src, (b.cell (p := ⟨R, 1, none⟩) h.lt).trans h.pos, (b.frozen (p := ⟨R, 1, none⟩) h.lt).trans h.froz⟩
theorem Rd.drewN {w : World} {R : Nat} {s : ByteArray} {k : Nat} (h : Rd w R s k) (n : Nat) : Rd (w.drewN n) R s k := ⟨h.two, h.lt, h.src, h.pos, h.froz⟩
theorem Rd.alloc {w : World} {R : Nat} {s : ByteArray} {k : Nat} (h : Rd w R s k) (o : Obj) : Rd (w.alloc o) R s k := h.below (below_own o)
theorem Rd.set {w : World} {R : Nat} {s : ByteArray} {k : Nat} (h : Rd w R s k) (k' : Nat) : Rd (w.setCell ⟨R, 1, none⟩ (.int .i64 k')) R s k' :=
  ⟨h.two, by simpa using h.lt, (World.cell?_setCell_other _ _ _ _ (by simp)).trans h.src, World.cell?_setCell_same' _ _ _ (by rw [h.pos]; rfl), by rw [World.frozen?_setCell]; exact h.froz⟩

/-- A row of sets of bytes. -/
structure Sets (w : World) (b : Nat) (zs : List ByteArray) : Prop where
  lt : b < w.heap.size
  cell : ∀ j, (h : j < zs.length) → w.cell? ⟨b, j, none⟩ = some (.string zs[j])
theorem Sets.below {w w' : World} {b : Nat} {zs : List ByteArray} (h : Sets w b zs) (k : Below w.heap.size w w') : Sets w' b zs :=
  ⟨Nat.lt_of_lt_of_le h.lt k.size, fun j hj => (k.cell (p := ⟨b, j, none⟩) h.lt).trans (h.cell j hj)⟩
theorem Sets.drewN {w : World} {b : Nat} {zs : List ByteArray} (h : Sets w b zs) (n : Nat) : Sets (w.drewN n) b zs := ⟨h.lt, h.cell⟩
theorem Sets.kept {w w' : World} {R b : Nat} {zs : List ByteArray} (h : Sets w b zs) (k : Fr R w w') (hne : b ≠ R) : Sets w' b zs :=
  ⟨Nat.lt_of_lt_of_le h.lt k.size, fun j hj => k.cell (h.cell j hj) hne⟩
theorem sets_made (w : World) (zs : List ByteArray) (cs : Array Value) (t : TypeId) (h : cs = (zs.map Value.string).toArray) : Sets (w.alloc (.cells cs t)) w.heap.size zs := by
  subst h
  exact ⟨by simp, fun j hj => cells_made _ _ _ _ _ (by simp [hj])⟩

theorem ended_no (R k : Nat) (s : ByteArray) (w : World) (h : Rd w R s k) (hk : k < s.size) :
    Calls Tryz.prog 111 #[.pointer (some ⟨R, 0, none⟩)] w fun e w' => e = .returned (.bool false) ∧ ∃ n, w.drewN n = w' := by
  obtain ⟨h2, hlt, hs, hp, hf⟩ := h
  have he : ((k : Int) == (s.size : Int)) = false := by simp; omega
  go_enter Tryz.func111, Tryz.ntmps111
  go_wp2_with fail
  go_quiet (fail)
  go_wp2
  go_ret
  exact ⟨rfl, _, rfl⟩
theorem ended_yes (R : Nat) (s : ByteArray) (w : World) (h : Rd w R s s.size) :
    Calls Tryz.prog 111 #[.pointer (some ⟨R, 0, none⟩)] w fun e w' => e = .returned (.bool true) ∧ ∃ n, w.drewN n = w' := by
  obtain ⟨h2, hlt, hs, hp, hf⟩ := h
  go_enter Tryz.func111, Tryz.ntmps111
  go_wp2_with fail
  go_quiet (fail)
  go_wp2
  go_ret
  exact ⟨rfl, _, rfl⟩

/-- Has one of the sets the byte? -/
def amongB (zs : List ByteArray) (c : UInt8) : Bool := zs.any fun z => z.data.toList.contains c
theorem among_hit {zs : List ByteArray} {c : UInt8} {j : Nat} (hj : j < zs.length) (h : 0 ≤ Lib.indexByte (zs[j]).data.toList c) : amongB zs c = true := by
  unfold amongB
  rw [List.any_eq_true]
  exact ⟨_, List.getElem_mem hj, by rw [Lib.contains_iff_indexByte]; simpa using h⟩
theorem among_miss {zs : List ByteArray} {c : UInt8} (h : ∀ j, (hj : j < zs.length) → Lib.indexByte (zs[j]).data.toList c < 0) : amongB zs c = false := by
  unfold amongB
  rw [List.any_eq_false]
  intro z hz
  obtain ⟨j, hj, rfl⟩ := List.getElem_of_mem hz
  rw [Lib.contains_iff_indexByte]
  have := h j hj
  simp; omega

set_option maxHeartbeats 1000000 in
theorem among_any (b n c : Nat) (zs : List ByteArray) (x : UInt8) (w : World) (h : Sets w b zs) (hn : zs.length = n) (hm : n ≤ 1000) :
    Calls Tryz.prog 148 #[.int .u8 (x.toNat : Int), .slice (some ⟨b, 0, none⟩) n c] w fun e w' => e = .returned (.bool (amongB zs x)) ∧ w = w' := by
  have HC := Lib.hid h.cell
  have HN := Lib.hid hn
  have HX : Hid (((x.toNat : Int)).toNat.toUInt8 = x) := by unfold Hid; simp
  clear h hn
  generalize hr : amongB zs x = r
  have HH : Hid (∀ j, (hj : j < zs.length) → 0 ≤ Lib.indexByte (zs[j]).data.toList x → r = true) := fun j hj h0 => hr ▸ among_hit hj h0
  have HM : Hid ((∀ j, (hj : j < zs.length) → Lib.indexByte (zs[j]).data.toList x < 0) → r = false) := fun h0 => hr ▸ among_miss h0
  clear hr
  go_enter Tryz.func148, Tryz.ntmps148
  go_wp2
  go_loop [9] (fun i => ∃ k : Nat, k ≤ n ∧ i = .int .i64 k ∧ Hid (∀ j, (hj : j < zs.length) → j < k → Lib.indexByte (zs[j]).data.toList x < 0)) (fun i => n - (intOf i).toNat)
  case atStart => exact ⟨0, Nat.zero_le _, rfl, fun j _ hj => absurd hj (Nat.not_lt_zero _)⟩
  case round =>
    obtain ⟨k, hk, rfl, HA⟩ := hrel
    by_cases hlt : k < n
    · have hk' : k < zs.length := by rw [HN.out]; exact hlt
      have hc := HC.out k hk'
      have K := fun w' => Tryz.strings_IndexByte (zs[k]) (x.toNat : Int) w'
      rw [HX.out] at K
      have KH := Lib.hid K
      clear K
      by_cases h0 : 0 ≤ Lib.indexByte (zs[k]).data.toList x
      · have HR : Hid (r = true) := HH.out k hk' h0
        generalize Lib.indexByte (zs[k]).data.toList x = y at KH h0
        generalize zs[k] = z at KH hc
        have f0 : decide (0 ≤ y) = true := by simpa using h0
        go_wp2_with (go_at_call 175; refine (KH.out _).mono ?_; rintro e w' ⟨rfl, rfl⟩)
        go_ret
        exact ⟨by rw [HR.out]; rfl, rfl⟩
      · have HA' : Hid (∀ j, (hj : j < zs.length) → j < k + 1 → Lib.indexByte (zs[j]).data.toList x < 0) := fun j hj h => by
          rcases Nat.lt_or_ge j k with h | h
          · exact HA.out j hj h
          · obtain rfl : j = k := by omega
            omega
        clear HA
        generalize Lib.indexByte (zs[k]).data.toList x = y at KH h0
        generalize zs[k] = z at KH hc
        have f0 : decide (0 ≤ y) = false := by simpa using h0
        go_wp2_with (go_at_call 175; refine (KH.out _).mono ?_; rintro e w' ⟨rfl, rfl⟩)
        go_round
        case rel => exact ⟨k + 1, by omega, by go_num, HA'⟩
        case measure => simp [intOf]; omega
    · have HR : Hid (r = false) := HM.out fun j hj => HA.out j hj (by rw [HN.out] at hj; omega)
      obtain rfl : k = n := by omega
      go_wp2
      go_ret
      exact ⟨by rw [HR.out]; rfl, rfl⟩

theorem Rd.left {w : World} {R : Nat} {s : ByteArray} {k : Nat} (_ : Rd w R s k) : (s.data.toList.drop k).length = s.size - k := by simp
theorem drop_at (s : ByteArray) (k : Nat) (h : k < s.size) : s.data.toList.drop k = s[k] :: s.data.toList.drop (k + 1) := by
  have h' : k < s.data.toList.length := by simpa using h
  rw [List.drop_eq_getElem_cons h']; rfl

set_option maxHeartbeats 1000000 in
theorem next_any (R k b n c : Nat) (zs : List ByteArray) (P : UInt8 → Bool) (hP : ∀ x, amongB zs x = P x) (s : ByteArray) (w : World) (h : Rd w R s k) (hk : k ≤ s.size) (hs : Sets w b zs) (hn : zs.length = n) (hm : n ≤ 1000) :
    Calls Tryz.prog 112 #[.pointer (some ⟨R, 0, none⟩), .slice (some ⟨b, 0, none⟩) n c] w fun e w' => e = .returned (.bool (nextB P (s.data.toList.drop k))) ∧ ∃ n, w.drewN n = w' := by
  by_cases hlt : k < s.size
  · rw [drop_at s k hlt]
    show Calls _ _ _ _ fun e w' => e = .returned (.bool (P s[k])) ∧ _
    have KE := Lib.hid (fun w' (h : Rd w' R s k) => ended_no R k s w' h hlt)
    have KA := Lib.hid (fun w' (h : Sets w' b zs) => among_any b n c zs s[k] w' h hn hm)
    rw [hP] at KA
    have HS := Lib.hid hs
    have HR := Lib.hid h
    have hp := h.pos
    have hsr := h.src
    clear hs h hn hm hP
    generalize hr : P s[k] = r at KA
    clear hr
    go_enter Tryz.func112, Tryz.ntmps112
    go_wp2_with fail
    go_quiet (first | (go_at_call 111; exact Calls.quiet_of ((KE.out _ (HR.out.drewN _)).mono fun _ _ ⟨h, m, h'⟩ => ⟨h, m, h'.symm⟩)) | (go_at_call 148; exact Calls.quiet_of_same ((KA.out _ (HS.out.drewN _)).mono fun _ _ ⟨h, h'⟩ => ⟨h, h'.symm⟩)))
    go_wp2
    go_ret
    exact ⟨rfl, _, rfl⟩
  · obtain rfl : k = s.size := by omega
    have KE := Lib.hid (fun w' (h : Rd w' R s s.size) => ended_yes R s w' h)
    have HR := Lib.hid h
    have hD : Hid (s.data.toList.drop s.size = []) := by unfold Hid; simp
    rw [hD.out]
    show Calls _ _ _ _ fun e w' => e = .returned (.bool false) ∧ _
    clear hs h hn hm hP hD
    go_enter Tryz.func112, Tryz.ntmps112
    go_wp2_with fail
    go_quiet (first | (go_at_call 111; exact Calls.quiet_of ((KE.out _ (HR.out.drewN _)).mono fun _ _ ⟨h, m, h'⟩ => ⟨h, m, h'.symm⟩)))
    go_wp2
    go_ret
    exact ⟨rfl, _, rfl⟩
end Go.Proofs.YtfmjhbaenpbfoaaGreatDoor
