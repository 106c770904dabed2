/- Put: the bytes of all frames, or why one is none. -/
import Derived.Test.YtagjipkoheimjaaGreatDoorPutF
import Derived.Test.YtagjipkoheimjaaGreatDoorScan
namespace Go.Proofs.YtagjipkoheimjaaGreatDoor
open Go.RowKit

/-- Data's slice, wherever it lies. -/
def SlD (B : Nat) (w : World) (p : FR × Value) : Prop := ∃ a c, p.2 = .slice a p.1.2.length c ∧ SlG B w a (bcells p.1.2) ∧ (a = none → c = 0)
theorem SlD.below {B : Nat} {w w' : World} {p : FR × Value} (h : SlD B w p) (b : Below B w w') : SlD B w' p := by
  obtain ⟨a, c, h1, h2, h3⟩ := h
  exact ⟨a, c, h1, h2.below b, h3⟩
theorem SlD.up {B B' : Nat} {w w' : World} {p : FR × Value} (h : SlD B w p) (b : Below B w w') (hB : B ≤ B') : SlD B' w' p := by
  obtain ⟨a, c, h1, h2, h3⟩ := h
  exact ⟨a, c, h1, h2.up b hB, h3⟩
/-- A row of frames, wherever it lies. -/
def SlFr (B : Nat) (w : World) (ao : Option Addr) (l : List FR) : Prop :=
  ∃ ps : List (FR × Value), ps.map Prod.fst = l ∧ SlG B w ao (cellsFr ps) ∧ ∀ p, p ∈ ps → SlD B w p
theorem SlFr.below {B : Nat} {w w' : World} {ao : Option Addr} {l : List FR} (h : SlFr B w ao l) (b : Below B w w') : SlFr B w' ao l := by
  obtain ⟨ps, h1, h2, h3⟩ := h
  exact ⟨ps, h1, h2.below b, fun p hp => (h3 p hp).below b⟩
theorem SlFr.up {B B' : Nat} {w w' : World} {ao : Option Addr} {l : List FR} (h : SlFr B w ao l) (b : Below B w w') (hB : B ≤ B') : SlFr B' w' ao l := by
  obtain ⟨ps, h1, h2, h3⟩ := h
  exact ⟨ps, h1, h2.up b hB, fun p hp => (h3 p hp).up b hB⟩
theorem SlFr.at {B : Nat} {w : World} {ao : Option Addr} {l : List FR} (h : SlFr B w ao l) (hl : 0 < l.length) : ∃ sb off, ao = some ⟨sb, off, none⟩ ∧ sb < B ∧ ∀ i, (hi : i < l.length) → ∃ a c, w.cell? ⟨sb, off + i * 2, none⟩ = some (.int .i64 (l[i]).1) ∧ w.cell? ⟨sb, off + i * 2 + 1, none⟩ = some (.slice a (l[i]).2.length c) ∧ SlG B w a (bcells (l[i]).2) ∧ (a = none → c = 0) := by
  obtain ⟨ps, rfl, h2, h3⟩ := h
  rw [List.length_map] at hl
  obtain ⟨sb, off, e, lt, hc⟩ := h2 (by
    cases ps with
    | nil => simp at hl
    | cons x y => simp [cellsFr])
  refine ⟨sb, off, e, lt, fun i hi => ?_⟩
  have hi' : i < ps.length := by simpa using hi
  obtain ⟨c1, c2⟩ := cellsFr_at ps i hi'
  obtain ⟨a, c, e1, e2, e3⟩ := h3 _ (List.getElem_mem hi')
  rw [List.getElem_map]
  refine ⟨a, c, hc _ _ c1, ?_, e2, e3⟩
  rw [Nat.add_assoc, hc _ _ c2, e1]
/-- Frames of its own, read. -/
theorem RowFr.sl {base : Nat} {w : World} {ao : Option Addr} {c : Nat} {ps : List (FR × Value)} (h : RowFr w base (.slice ao ps.length c) ps) : SlFr w.heap.size w ao (ps.map Prod.fst) := by
  refine ⟨ps, rfl, fun hne => ?_, fun p hp => ?_⟩
  · rcases h.row.2 with ⟨h1, h2⟩ | ⟨g, cap, cur, h1, _, hg, _⟩
    · have := List.eq_nil_of_length_eq_zero h2
      subst this
      exact absurd rfl hne
    · simp only [Value.slice.injEq] at h1
      obtain ⟨rfl, _, rfl⟩ := h1
      refine ⟨g, 0, rfl, lt_of_heap hg, fun j u hu => ?_⟩
      have := h.row.cells (g := g) rfl j u hu
      rwa [Addr.add_lit, Nat.zero_add, ← Nat.zero_add j] at this
  · have hd := h.data p hp
    obtain ⟨a, c', e⟩ := owns_slice hd
    unfold RowD at hd
    rw [e] at hd
    exact ⟨a, c', e, owns_slB hd, owns_none hd⟩

theorem flat_take (l : List FR) (j : Nat) (h : j < l.length) : (l.take (j + 1)).flatMap frB = (l.take j).flatMap frB ++ frB l[j] := by
  rw [List.take_add_one, List.getElem?_eq_getElem h, List.flatMap_append]
  simp
theorem flat_take_le (l : List FR) (j : Nat) (h : j < l.length) : ((l.take j).flatMap frB).length + (frB l[j]).length ≤ (l.flatMap frB).length := by
  have e : l.flatMap frB = (l.take (j + 1)).flatMap frB ++ (l.drop (j + 1)).flatMap frB := by rw [← List.flatMap_append, List.take_append_drop]
  rw [e, flat_take l j h, List.length_append, List.length_append]
  omega

/-- What Put tells. -/
def PuttedP (r : List UInt8 × Nat) (w : World) (e : Ending) (w' : World) : Prop :=
  ∃ ao c, e = .returned (.tuple #[.slice ao r.1.length c, .int .i64 ((r.2 : Nat) : Int)]) ∧ w'.ownsRow w.heap.size 5 1 (.slice ao r.1.length c) r.1.length (bcells r.1) ∧ Below w.heap.size w w'

set_option maxRecDepth 100000 in
set_option maxHeartbeats 2000000 in
theorem put_any (ao : Option Addr) (l : List FR) (c : Nat) (hm : l.length ≤ 9223372036854775807) (w : World) (hs : SlFr w.heap.size w ao l) (hl : (l.flatMap frB).length ≤ 140737488355328) :
    Calls Tryz.prog 9 #[.slice ao l.length c] w (PuttedP (putF l) w) := by
  have HW := Lib.hid (wr0 w w.heap.size rfl)
  have HS := Lib.hid hs
  have HL := Lib.hid hl
  have HF0 := Lib.hid (below_own (w := w) (.cells #[.slice none 0 0, .int .i64 0, .int .i8 0] 55))
  clear hs hl
  go_enter Tryz.func9, Tryz.ntmps9
  go_wp2_with fail
  go_loopw [10] (fun i wr => ∃ j : Nat, j ≤ l.length ∧ i = .int .i64 j ∧ OkFs (l.take j) ∧ Wr wr w.heap.size w.heap.size ((l.take j).flatMap frB) ∧ Below w.heap.size w wr) (fun i _ => l.length - (intOf i).toNat)
  case atStart => exact ⟨0, by omega, rfl, (fun f hf => by simp at hf), HW.out, HF0.out⟩
  case round =>
    obtain ⟨j, hj, rfl, hok, hwr, hfr⟩ := hrel
    have HOk := Lib.hid hok
    have HWr := Lib.hid hwr
    have HFr := Lib.hid hfr
    clear hok hwr hfr HW HF0
    by_cases hlt : j < l.length
    · obtain ⟨sb, off, rfl, hsb, hc⟩ := (HS.out.below HFr.out).at (by omega)
      obtain ⟨a1, c1, k1, k2, hx, hn⟩ := hc j hlt
      have HT := Lib.hid (flat_take l j hlt)
      have HLe := Lib.hid (flat_take_le l j hlt)
      have HOk1 : Hid (faultF l[j] = 0 → OkFs (l.take (j + 1))) := fun h0 f hf => by
        rw [List.take_add_one, List.getElem?_eq_getElem hlt] at hf
        rcases List.mem_append.1 hf with hf | hf
        · exact HOk.out f hf
        · obtain rfl : f = l[j] := by simpa using hf
          exact h0
      have HBad : Hid (faultF l[j] ≠ 0 → putF l = ([], faultF l[j])) := fun h0 => putF_bad l j hlt HOk.out h0
      have KP := Lib.hid (fun (hok : faultF l[j] = 0) (W : World) (hw : Wr W w.heap.size w.heap.size ((l.take j).flatMap frB)) (hx' : SlG w.heap.size W a1 (bcells (l[j]).2)) => putFrame w.heap.size w.heap.size ((l.take j).flatMap frB) l[j] hok a1 c1 W hw hx' (by have q1 := HL.out; have q2 := HLe.out; omega))
      have HX := Lib.hid hx
      clear hc hx hn HLe
      generalize (l[j]'hlt) = f at k1 k2 HT HOk1 HBad KP HX
      obtain ⟨k, d⟩ := f
      simp only at k1 k2 HX KP
      have KF := Lib.hid (fun W => fault_any (k, d) a1 c1 W)
      simp only at KF
      have HB2 : Hid (Below w.heap.size w (wr.alloc (.cells #[.int .i64 k, .slice a1 d.length c1] 44))) := HFr.out.alloc HFr.out.size _
      by_cases hf0 : faultF (k, d) = 0
      · have KP' := Lib.hid (KP.out hf0)
        rw [hf0] at KF
        clear HBad KP
        go_wp2_with (first
          | (go_at_call 26; refine (KF.out _).mono ?_; rintro e w1 ⟨rfl, hg⟩; have HG := Lib.hid hg; obtain ⟨b1, b2⟩ := bret hg.below; have hz1 : wr.heap.size < w1.heap.size := (by have := hg.below.size; simp at this; omega); have HWr1 := Lib.hid (LibA.IsBuffer.old (HWr.out.alloc _) hg.below); have HB3 := Lib.hid (HB2.out.trans (hg.below.mono HB2.out.size)); have HB4 : Hid (Below w.heap.size wr w1) := ((below_own _).mono HFr.out.size).trans (hg.below.mono HB2.out.size); clear hg)
          | (go_at_call 27; refine (KP'.out _ HWr1.out (HX.out.below HB4.out)).mono ?_; rintro e w2 ⟨rfl, h1, h2⟩))
        have H1 := Lib.hid h1
        have H2 := Lib.hid h2
        clear h1 h2
        go_roundw
        case rel => exact ⟨j + 1, by omega, by go_num, HOk1.out hf0, by rw [HT.out]; exact H1.out, HB3.out.trans H2.out.bel⟩
        case measure => simp [intOf]; omega
      · have HBd := Lib.hid (HBad.out hf0)
        have hne : ((faultF (k, d) : Int) != 0) = true := by simp; omega
        clear HBad KP HOk1 HT
        generalize faultF (k, d) = e0 at KF HBd hne
        go_wp2_with (go_at_call 26; refine (KF.out _).mono ?_; rintro e w1 ⟨rfl, hg⟩; have HG := Lib.hid hg; have HB3 := Lib.hid (HB2.out.trans (hg.below.mono HB2.out.size)); clear hg)
        go_ret2
        rw [HBd.out]
        exact ⟨none, 0, rfl, World.ownsRow_nil _ _ _ _, HB3.out⟩
    · obtain rfl : j = l.length := by omega
      rw [List.take_length] at HOk HWr
      have HP := Lib.hid (putF_ok l HOk.out)
      generalize l.flatMap frB = out at HWr HP
      go_wp2_with (go_at_call 28; refine (bytes_any _ _ _ _ HWr.out).mono ?_; rintro e w2 ⟨ao9, c9, n9, rfl, hown, rfl⟩; have HO := Lib.hid hown; clear hown)
      go_ret2
      rw [HP.out]
      exact ⟨ao9, c9, rfl, HO.out, RowKit_drewN HFr.out _⟩
end Go.Proofs.YtagjipkoheimjaaGreatDoor
