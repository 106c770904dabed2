/- The document's row of numbers, the greatest first. -/
import Derived.Test.YtlkmabnjmklkpaaGreatDoorBase14
import Derived.Test.YtlkmabnjmklkpaaGreatDoorPlain14
namespace Go.Proofs.YtlkmabnjmklkpaaGreatDoor
open Go.RowKit

/-- A row of its own of these ints. -/
def FellP (l : List Int) (w : World) (e : Ending) (w' : World) : Prop := ∃ v, e = .returned v ∧ w'.ownsRow w.heap.size 3 1 v l.length (icells l) ∧ Below w.heap.size w w'

theorem icells_set (l : List Int) (k : Nat) (x : Int) : icells (l.set k x) = (icells l).set k (.int .i64 x) := List.map_set ..
theorem icells_get (l : List Int) (k : Nat) (h : k < l.length) : (icells l)[k]? = some (.int .i64 l[k]) := by simp [icells, h]

set_option maxRecDepth 100000 in
set_option maxHeartbeats 4000000 in
theorem refFalling_any (l : List Int) (ao : Option Addr) (c : Nat) (hm : l.length ≤ 1000000) (w : World) (h : SlG w.heap.size w ao (icells l)) :
    Calls Tryz.prog 33 #[.slice ao l.length c] w (FellP (falling14 l) w) := by
  obtain ⟨i0, hi, hz0, hz1, hz2⟩ := info_parts infoI
  have mixed : Tryz.prog.follows .mixedOrders = true := by kernel_rfl
  have HS := Lib.hid h
  clear h
  go_enter Tryz.func33, Tryz.ntmps33
  go_wp2_with fail
  go_loopw [3, 4] (fun v i wr => ∃ (j : Nat), j ≤ l.length ∧ i = .int .i64 j ∧ Hid (wr.ownsRow w.heap.size 3 1 v j (icells (falling14 (l.take j)))) ∧ Hid (Below w.heap.size w wr)) (fun _ i _ => l.length - (intOf i).toNat)
  case atStart => exact ⟨0, by omega, rfl, World.ownsRow_nil _ _ _ _, Below.refl _ _⟩
  case round =>
    obtain ⟨j, hj, rfl, HO, HB⟩ := hrel
    by_cases hlt : j < l.length
    · obtain ⟨ob, oc, rfl⟩ := owns_slice HO.out
      have hbz := HB.out.size
      have hown := HO.out.alloc (.cells #[.int .i64 0] 3)
      have hbx := below_own (w := wr) (.cells #[.int .i64 0] 3)
      have HB0 := Lib.hid (below_step HB.out hbx)
      have hjl : (j : Int) < (l.length : Int) := by omega
      go_wp2_with (at_builtin; go_must (refine wpList_append_own _ rfl (.tmp 14) (.tmp 15) 22 rfl w.heap.size 3 i0 (.int .i64 0) 1 8 Tryz.underlying22 hi hz0 hz1 hz2 rfl (by decide) _ _ _ rfl hown ⟨wr.heap.size, 0, none⟩ 1 1 [.int .i64 0] rfl rfl (fun k u hu => by rw [Addr.add_lit, Nat.zero_add]; exact cells_made wr _ _ k u (by simpa using hu)) (fun u hu => by simp at hu; subst hu; rfl) (by unfold maxLen; omega) (by omega) (Nat.le_trans hbz hbx.size) ?_; intro v1 w1 hown1 hgrow1 _; refine Hid.out ?_))
      have HB1 := Lib.hid (HB0.out.grown hgrow1 (Nat.le_trans hbz hbx.size) (fun q hq => (hown.lt q hq).1))
      obtain ⟨g, cap, cur, rfl, hg0, hg1, hg2, hg3, _⟩ := owns_at hown1 (by omega)
      obtain ⟨o, ho⟩ : ∃ o, o = falling14 (l.take j) := ⟨_, rfl⟩
      have hol : o.length = j := by rw [ho, falling_len, List.length_take]; omega
      have hof : Falls o := by rw [ho]; exact falling_falls _
      rw [← ho] at hown1
      have HOs : Hid (w1.ownsRow w.heap.size 3 1 (.slice (some ⟨g, 0, none⟩) (j + 1) cap) (j + 1) (icells (o.take j ++ (0 : Int) :: o.drop j))) := by
        rw [← hol, List.take_length, List.drop_length, hol, icells_append]
        exact hown1
      have HEnd : Hid (∀ (x : Int), x = l[j] → ∀ (k : Nat) (u : Int), k ≤ j → (∀ m, (hm : m < o.length) → k ≤ m → o[m] < x) → (k = 0 ∨ ∃ h : k - 1 < o.length, ¬ o[k - 1] < x) → (icells (o.take k ++ u :: o.drop k)).set k (.int .i64 x) = icells (falling14 (l.take (j + 1)))) := fun x hx k u hk h1 h2 => by
        rw [← icells_set, row_set o k (by omega), ← insD_at x o hof k (by omega) h1 h2, List.take_add_one, List.getElem?_eq_getElem hlt, ← hx]
        show _ = icells (falling14 (l.take j ++ [x]))
        rw [falling_snoc, ho]
      have HL : Hid (∀ W, Below w.heap.size w W → ∃ sb off, ao = some ⟨sb, off, none⟩ ∧ W.cell? ⟨sb, off + j, none⟩ = some (.int .i64 l[j])) := fun W hW => by
        obtain ⟨sb, off, e, _, hc⟩ := (HS.out.below hW).cellI (by omega)
        exact ⟨sb, off, e, hc j hlt⟩
      clear hown1 hgrow1 hown hbx hbz HO HB HB0 hg0 hg1 ho hof
      generalize hx : l[j] = x at HL
      have HX := Lib.hid hx.symm
      clear hx
      refine Lib.hid ?_
      go_wp2_with fail
      go_loopw [5] (fun ik wr => ∃ (k : Nat) (u : Int), k ≤ j ∧ ik = .int .i64 k ∧ Hid (wr.ownsRow w.heap.size 3 1 (.slice (some ⟨g, 0, none⟩) (j + 1) cap) (j + 1) (icells (o.take k ++ u :: o.drop k))) ∧ Hid (∀ m, (hm : m < o.length) → k ≤ m → o[m] < x) ∧ Hid (Below w.heap.size w wr)) (fun ik _ => (intOf ik).toNat)
      case atStart => exact ⟨j, 0, Nat.le_refl _, rfl, HOs, (fun m hm hjm => by omega), HB1⟩
      case round =>
        clear HOs HB1
        obtain ⟨k, u, hk, rfl, HO, HM, HB⟩ := hrel
        obtain ⟨sb, off, rfl, hlc⟩ := HL.out _ HB.out
        have hkl : k < (o.take k ++ u :: o.drop k).length := by rw [List.length_append, List.length_take, List.length_cons]; omega
        have hck : wr.cell? ⟨g, k, none⟩ = some (.int .i64 ((o.take k ++ u :: o.drop k)[k])) := (HO.out.cellAt k (by omega)).trans (icells_get _ _ hkl)
        have hfk := HO.out.frozenAt k
        generalize (o.take k ++ u :: o.drop k)[k] = old at hck
        have hki : (k : Int) < (j : Int) + 1 := by omega
        have hgb : g < wr.heap.size := (HO.out.lt g rfl).2
        rcases Nat.eq_zero_or_pos k with rfl | hk0
        · have HE0 := Lib.hid (HEnd.out x HX.out 0 u (by omega) HM.out (Or.inl rfl))
          go_wp2_with fail
          go_quiet (fail)
          have hck' : (wr.drewN nq).cell? ⟨g, 0, none⟩ = some (.int .i64 old) := hck
          have hfk' : (wr.drewN nq).frozen? ⟨g, 0, none⟩ = false := hfk
          have hlc' : (wr.drewN nq).cell? ⟨sb, off + j, none⟩ = some (.int .i64 x) := hlc
          obtain ⟨st1, st2⟩ := (owns_below HO.out (RowKit_drewN (Below.refl _ _) nq)).stored (0) (.int .i64 x)
          rw [HE0.out] at st1
          have R1 := Lib.hid st1
          have R3 := Lib.hid ((RowKit_drewN HB.out nq).grown st2 HB.out.size (fun q hq => by
            obtain rfl := Option.some.inj hq
            exact (HO.out.lt g rfl).1))
          clear hck hfk st1 st2 HO HM HB hlc HEnd HL HE0
          go_wp2_with fail
          go_roundw
          case rel => exact ⟨j + 1, by omega, by go_num, R1, R3⟩
          case measure => simp [intOf]; omega
        · obtain ⟨m, rfl⟩ : ∃ m, k = m + 1 := ⟨k - 1, by omega⟩
          have hmo : m < o.length := by omega
          have hcm : wr.cell? ⟨g, m, none⟩ = some (.int .i64 o[m]) := by
            refine (HO.out.cellAt m (by omega)).trans ?_
            rw [icells_get _ _ (by omega)]
            congr 2
            rw [List.getElem_append_left (by rw [List.length_take]; omega), List.getElem_take]
          have HDn : Hid (o[m] < x → ∀ q, (hq : q < o.length) → m ≤ q → o[q] < x) := fun h q hq hmq => by
            by_cases e : q = m
            · subst e; exact h
            · exact HM.out q hq (by omega)
          have HE1 : Hid (¬ o[m] < x → (icells (o.take (m + 1) ++ u :: o.drop (m + 1))).set (m + 1) (.int .i64 x) = icells (falling14 (l.take (j + 1)))) := fun h => HEnd.out x HX.out (m + 1) u (by omega) HM.out (Or.inr ⟨by simpa using hmo, by simpa using h⟩)
          have HRow : Hid ((icells (o.take (m + 1) ++ u :: o.drop (m + 1))).set (m + 1) (.int .i64 o[m]) = icells (o.take m ++ o[m] :: o.drop m)) := by
            have := row_down o (m + 1) (by omega) (by omega)
            simp only [Nat.add_sub_cancel] at this
            rw [Hid, ← icells_set, row_set o (m + 1) (by omega), this]
          have hmi : (m : Int) < (j : Int) + 1 := by omega
          generalize o[m] = y at hcm HDn HE1 HRow
          by_cases hyx : y < x
          · go_wp2_with fail
            go_quiet (fail)
            have hcm' : (wr.drewN nq).cell? ⟨g, m, none⟩ = some (.int .i64 y) := hcm
            have hck' : (wr.drewN nq).cell? ⟨g, m + 1, none⟩ = some (.int .i64 old) := hck
            have hfk' : (wr.drewN nq).frozen? ⟨g, m + 1, none⟩ = false := hfk
            obtain ⟨st1, st2⟩ := (owns_below HO.out (RowKit_drewN (Below.refl _ _) nq)).stored (m + 1) (.int .i64 y)
            rw [HRow.out] at st1
            have R1 := Lib.hid st1
            have R2 := Lib.hid (HDn.out hyx)
            have R3 := Lib.hid ((RowKit_drewN HB.out nq).grown st2 HB.out.size (fun q hq => by
              obtain rfl := Option.some.inj hq
              exact (HO.out.lt g rfl).1))
            clear hcm hck hfk st1 st2 HO HM HB HDn HE1 HRow hlc HEnd HL
            go_wp2_with fail
            go_roundw
            case rel => exact ⟨m, y, by omega, by go_num, R1, R2, R3⟩
            case measure => simp [intOf]
          · have HE0 := Lib.hid (HE1.out hyx)
            go_wp2_with fail
            go_quiet (fail)
            have hck' : (wr.drewN nq).cell? ⟨g, m + 1, none⟩ = some (.int .i64 old) := hck
            have hfk' : (wr.drewN nq).frozen? ⟨g, m + 1, none⟩ = false := hfk
            have hlc' : (wr.drewN nq).cell? ⟨sb, off + j, none⟩ = some (.int .i64 x) := hlc
            obtain ⟨st1, st2⟩ := (owns_below HO.out (RowKit_drewN (Below.refl _ _) nq)).stored (m + 1) (.int .i64 x)
            rw [HE0.out] at st1
            have R1 := Lib.hid st1
            have R3 := Lib.hid ((RowKit_drewN HB.out nq).grown st2 HB.out.size (fun q hq => by
              obtain rfl := Option.some.inj hq
              exact (HO.out.lt g rfl).1))
            clear hck hfk st1 st2 HO HM HB hlc HEnd HL HE0
            go_wp2_with fail
            go_roundw
            case rel => exact ⟨j + 1, by omega, by go_num, R1, R3⟩
            case measure => simp [intOf]; omega
    · obtain rfl : j = l.length := by omega
      have hown := HO.out
      rw [List.take_length] at hown
      have HOw := Lib.hid hown
      have HFl := Lib.hid (falling_len l)
      clear hown HO
      go_wp2_with fail
      go_ret
      exact ⟨_, rfl, by rw [HFl.out]; exact HOw.out, HB.out⟩
end Go.Proofs.YtlkmabnjmklkpaaGreatDoor
