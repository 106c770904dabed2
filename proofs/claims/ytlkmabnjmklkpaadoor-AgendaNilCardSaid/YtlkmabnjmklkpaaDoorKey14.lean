/- A match's key, as the program makes it. -/
import Derived.Test.YtlkmabnjmklkpaaDoorOrder14
import Derived.Test.YtlkmabnjmklkpaaDoorKeyP14
import Derived.Test.YtlkmabnjmklkpaaDoorTab14
import Derived.Lib.ItoaLen
namespace Go.Proofs.YtlkmabnjmklkpaaDoor
open Go.RowKit

structure In64 (x : Int) : Prop where
  lo : -9223372036854775808 ≤ x
  hi : x ≤ 9223372036854775807
theorem infoB14 : (Tryd.prog.info? 5).map (fun i => (i.zero, i.size, i.bytes)) = some (some (.int .u8 0), 1, 1) := by kernel_rfl
theorem conv14 {w : World} {base : Nat} {v : Value} {l : List UInt8} (h : w.ownsRow base 5 1 v l.length (Lib.byteCells l)) (hl : l ≠ []) :
    (convert 95 9 v).run Tryd.prog w = .ok (.string ⟨l.toArray⟩) w := by
  rcases h.2 with ⟨h1, h2⟩ | ⟨g', cap, cur, rfl, hb, hg, hnc, _⟩
  · exact absurd (List.eq_nil_of_length_eq_zero h2) hl
  · refine run_convert_bytes_back (P := Tryd.prog) w 95 9 5 ⟨g', 0, none⟩ cap l Tryd.underlying95 Tryd.underlying5 Tryd.underlying9 fun j hj => ?_
    exact h.cells (g := g') rfl j _ (by simp [Lib.byteCells, hj])
theorem itoa_some (x : Int) : Lib.itoa x ≠ [] := by
  unfold Lib.itoa
  split
  · simp
  · exact digits_some _
theorem keyT_some (t : TK) : keyT t ≠ [] := by
  unfold keyT
  intro h
  exact itoa_some _ (List.append_eq_nil_iff.1 h).1
theorem tailT_len (l : List Int) (h : ∀ z, z ∈ l → In64 z) : (tailT l).length ≤ l.length * 22 := by
  induction l with
  | nil => simp [tailT]
  | cons x l ih =>
    have h1 := Lib.itoa_length_le x (h x (by simp)).lo (h x (by simp)).hi
    have h2 := ih (fun z hz => h z (by simp [hz]))
    simp only [tailT, List.length_cons, List.length_append]
    omega

set_option maxRecDepth 100000 in
set_option maxHeartbeats 4000000 in
theorem key_any (t : TK) (a d : Option Addr) (c e : Nat) (w : World) (h : SlG w.heap.size w a (icells t.2)) (hl : t.2.length ≤ 1000000) (hr : In64 t.1) (hi : ∀ z, z ∈ t.2 → In64 z) (ht : Tab14 w) :
    Calls Tryd.prog 33 #[aggM t.1 a t.2.length c d e] w fun r w' => r = .returned (.string ⟨(keyT t).toArray⟩) ∧ Below w.heap.size w w' := by
  obtain ⟨k, l⟩ := t
  simp only at h hl hr hi ⊢
  obtain ⟨i0, hi0, hz0, hz1, hz2⟩ := info_parts infoB14
  have HS := Lib.hid h
  have HI := Lib.hid hi
  have HB0 := Lib.hid (below_own (w := w) (.cells #[.int .i64 k, .slice a l.length c, .slice d l.length e] 59))
  have hs1 : (w.alloc (.cells #[.int .i64 k, .slice a l.length c, .slice d l.length e] 59)).heap.size = w.heap.size + 1 := by simp
  have hT1 : Lib.TabBelow Tryd.prog (w.heap.size + 1) (w.alloc (.cells #[.int .i64 k, .slice a l.length c, .slice d l.length e] 59)) "internal/strconv.uint64pow10" .u64 Lib.pow10Tab := by
    have := Lib.tabBelow_of_tabIs (ht.on HB0.out)
    rwa [hs1] at this
  have HT := Lib.hid hT1
  have hkl := Lib.itoa_length_le k hr.lo hr.hi
  have K0 := Lib.hid (Tryd.strconv_AppendInt_10 (w.heap.size + 1) 0 k hr.lo hr.hi (.slice none 0 0) [] _ (World.ownsRow_nil _ _ _ _) (by simp) (by omega) hT1)
  have hb1 : (w.alloc (.cells #[.int .i64 k, .slice a l.length c, .slice d l.length e] 59)).cell? ⟨w.heap.size, 1, none⟩ = some (.slice a l.length c) := by simp
  have HC1 := Lib.hid hb1
  clear h hi ht hT1 hb1
  go_enter Tryd.func33, Tryd.ntmps33
  go_wp2_with (go_at_call 45; refine K0.out.mono ?_; rintro r w1 ⟨v, rfl, ho, hb, _⟩; have HO1 := Lib.hid ho; have HBb := Lib.hid hb; have c1 : w1.cell? ⟨w.heap.size, 1, none⟩ = some (.slice a l.length c) := (hb.cell (p := ⟨w.heap.size, 1, none⟩) (by show w.heap.size < w.heap.size + 1; omega)).trans HC1.out; clear ho hb; refine Hid.out ?_)
  refine Lib.hid ?_
  go_wp2_with fail
  have hv0 : w1.ownsRow (w.heap.size + 1) 5 1 v (Lib.itoa k ++ tailT (l.take 0)).length (Lib.byteCells (Lib.itoa k ++ tailT (l.take 0))) := by
    have := HO1.out
    simpa [tailT] using this
  have HV0 := Lib.hid hv0
  have HBw : Hid (Below (w.heap.size + 1) (w.alloc (.cells #[.int .i64 k, .slice a l.length c, .slice d l.length e] 59)) w1) := HBb.out
  clear hv0 HO1 HBb K0 HC1 c1
  go_loopw [3, 14] (fun v i wr => ∃ j : Nat, j ≤ l.length ∧ i = .int .i64 j ∧ Hid (wr.ownsRow (w.heap.size + 1) 5 1 v (Lib.itoa k ++ tailT (l.take j)).length (Lib.byteCells (Lib.itoa k ++ tailT (l.take j)))) ∧ Hid (Below (w.heap.size + 1) (w.alloc (.cells #[.int .i64 k, .slice a l.length c, .slice d l.length e] 59)) wr)) (fun _ i _ => l.length - (intOf i).toNat)
  case atStart => exact ⟨0, by omega, rfl, HV0, HBw⟩
  case round =>
    obtain ⟨j, hj, rfl, HO, HB⟩ := hrel
    clear HV0 HBw
    have HBw : Hid (Below w.heap.size w wr) := HB0.out.trans (HB.out.mono (Nat.le_succ _))
    by_cases hlt : j < l.length
    · obtain ⟨sb, off, rfl, hsb, hc⟩ := (HS.out.below HBw.out).cellI (by omega)
      have d1 := hc j hlt
      have hx64 := HI.out l[j] (List.getElem_mem hlt)
      have HX := Lib.hid hx64
      have HTk : Hid (Lib.itoa k ++ tailT (l.take (j + 1)) = (Lib.itoa k ++ tailT (l.take j)) ++ 32 :: Lib.itoa l[j]) := by
        rw [Hid, List.take_add_one, List.getElem?_eq_getElem hlt]
        show Lib.itoa k ++ tailT (l.take j ++ [l[j]]) = _
        rw [tailT_snoc, List.append_assoc]
      have htl := tailT_len (l.take j) (fun z hz => HI.out z (List.mem_of_mem_take hz))
      have hlen : (Lib.itoa k ++ tailT (l.take j)).length ≤ 21 + 1000000 * 22 := by
        rw [List.length_append]
        rw [List.length_take] at htl
        have : min j l.length * 22 ≤ 1000000 * 22 := Nat.mul_le_mul_right _ (by omega)
        omega
      have hji : (j : Int) < (l.length : Int) := by omega
      have hsz := HB.out.size
      rw [hs1] at hsz
      clear hc htl hx64
      generalize l[j] = x at d1 HTk HX
      generalize hbs : Lib.itoa k ++ tailT (l.take j) = bs at HO HTk hlen
      clear hbs
      obtain ⟨ov, oc, rfl⟩ := owns_slice HO.out
      have HBn : Hid (∀ W9, ((wr.alloc (.cells #[.int .u8 32] 5))).grownBy W9 (Value.slice ov bs.length oc).ownBlock → Below (w.heap.size + 1) (w.alloc (.cells #[.int .i64 k, .slice (some ⟨sb, off, none⟩) l.length c, .slice d l.length e] 59)) W9) := fun W9 hg => by
        have h1 := HB.out.alloc hsz (.cells #[.int .u8 32] 5)
        refine h1.grown hg ?_ (fun q hq => (HO.out.lt q hq).1)
        have := h1.size
        rw [hs1] at this
        exact this
      go_wp2_with (at_builtin; refine wpList_append_own _ rfl _ _ 95 rfl (w.heap.size + 1) 5 i0 (.int .u8 0) 1 1 Tryd.underlying95 hi0 hz0 hz1 hz2 rfl (by decide) _ bs.length _ rfl (World.ownsRow.alloc HO.out _) ⟨wr.heap.size, 0, none⟩ 1 1 [.int .u8 32] rfl rfl (fun q u hu => by rw [Addr.add_lit, Nat.zero_add]; exact cells_made wr _ _ q u (by simpa using hu)) (fun u hu => by simp at hu; subst hu; rfl) (by unfold maxLen; omega) (by omega) (by simp; omega) ?_; intro v9 w9 hown9 hgrow9 hnil9; have HO9 := Lib.hid hown9; have HB9 := Lib.hid (HBn.out w9 hgrow9); clear hgrow9 hown9 hnil9; refine Hid.out ?_)
      refine Lib.hid ?_
      have K9 := Lib.hid (Tryd.strconv_AppendInt_10 (w.heap.size + 1) (bs.length + 1) x HX.out.lo HX.out.hi v9 _ w9 HO9.out (by have := HB9.out.size; rwa [hs1] at this) (by omega) (HT.out.on HB9.out))
      go_wp2_with (go_at_call 45; refine K9.out.mono ?_; rintro r w8 ⟨v8, rfl, ho, hb, _⟩; have HO8 := Lib.hid ho; have HB8 := Lib.hid (HB9.out.trans hb); clear ho hb; refine Hid.out ?_)
      refine Lib.hid ?_
      have R1 : Hid (w8.ownsRow (w.heap.size + 1) 5 1 v8 (Lib.itoa k ++ tailT (l.take (j + 1))).length (Lib.byteCells (Lib.itoa k ++ tailT (l.take (j + 1))))) := by
        have := HO8.out
        rw [HTk.out]
        have e1 : (bs ++ 32 :: Lib.itoa x).length = bs.length + 1 + (Lib.itoa x).length := by simp; omega
        have e2 : Lib.byteCells (bs ++ 32 :: Lib.itoa x) = Lib.byteCells bs ++ [Value.int .u8 32] ++ Lib.byteCells (Lib.itoa x) := by simp [Lib.byteCells]
        rw [Hid, e1, e2]
        exact this
      clear HO HB HBw HBn HO9 HB9 K9 HO8
      go_wp2_with fail
      go_roundw
      case rel => exact ⟨j + 1, by omega, by go_num, R1, HB8⟩
      case measure => simp [intOf]; omega
    · obtain rfl : j = l.length := by omega
      have hown := HO.out
      rw [List.take_length] at hown
      have hcv := conv14 hown (keyT_some (k, l))
      have HE : Hid (Below w.heap.size w wr) := HBw.out
      clear HO HB HBw hown
      go_wp2_with fail
      go_ret
      exact ⟨rfl, HE.out⟩
end Go.Proofs.YtlkmabnjmklkpaaDoor
