/- MemoryOf: what All and Next tell makes a memory that goes on as the first one does. -/
import Derived.Test.YtajhngkdnkbfcaaTwo11
namespace Go.Proofs.Ytajhngkdnkbfcaa
open Go.RowKit

/-- The cells of a row of steps. -/
def cells4 : List (D11 × Value) → List Value
  | [] => []
  | p :: l => .int .i64 p.1.op :: .int .i64 p.1.id :: .int .i64 p.1.kind :: p.2 :: cells4 l
theorem cells4_length (l : List (D11 × Value)) : (cells4 l).length = l.length * 4 := by
  induction l with
  | nil => rfl
  | cons x l ih => simp only [cells4, List.length_cons, ih]; omega
theorem cells4_get (l : List (D11 × Value)) : ∀ (j : Nat), (h : j < l.length) → (cells4 l)[j * 4]? = some (.int .i64 (l[j]).1.op) ∧ (cells4 l)[j * 4 + 1]? = some (.int .i64 (l[j]).1.id) ∧ (cells4 l)[j * 4 + 2]? = some (.int .i64 (l[j]).1.kind) ∧ (cells4 l)[j * 4 + 3]? = some (l[j]).2 := by
  induction l with
  | nil => intro j h; cases h
  | cons x l ih =>
    intro j h
    match j with
    | 0 => exact ⟨rfl, rfl, rfl, rfl⟩
    | j + 1 =>
      have := ih j (by simpa using h)
      rw [show (j + 1) * 4 = j * 4 + 1 + 1 + 1 + 1 by omega]
      simpa [cells4] using this
/-- Steps that lie in a row; texts are such as a machine can hold. -/
def DRow (B : Nat) (w : World) (l : List D11) (ao : Option Addr) (c : Nat) : Prop := ∃ ps : List (D11 × Value), ps.map Prod.fst = l ∧ Sl10 B w l.length ao c (cells4 ps) ∧ ∀ p ∈ ps, (∃ a d, p.2 = .slice a p.1.args.length d ∧ Sl10 B w p.1.args.length a d (cellsV p.1.args)) ∧ ∀ v ∈ p.1.args, v.2.2.size ≤ 140737488355328
theorem DRow.fine {B : Nat} {w : World} {l : List D11} {ao : Option Addr} {c : Nat} (h : DRow B w l ao c) : l.length ≤ 9223372036854775807 := by
  obtain ⟨ps, h1, h2, h3⟩ := h
  have := h2.cap
  have := h2.top
  unfold maxLen at this
  omega
theorem DRow.get {B : Nat} {w : World} {l : List D11} {ao : Option Addr} {c : Nat} (h : DRow B w l ao c) {j : Nat} (hj : j < l.length) : ∃ g o a d, ao = some ⟨g, o, none⟩ ∧ g < B ∧ w.cell? ⟨g, o + j * 4, none⟩ = some (.int .i64 (l.getD j default).op) ∧ w.cell? ⟨g, o + j * 4 + 1, none⟩ = some (.int .i64 (l.getD j default).id) ∧ w.cell? ⟨g, o + j * 4 + 2, none⟩ = some (.int .i64 (l.getD j default).kind) ∧ w.cell? ⟨g, o + j * 4 + 3, none⟩ = some (.slice a (l.getD j default).args.length d) ∧ Sl10 B w (l.getD j default).args.length a d (cellsV (l.getD j default).args) ∧ ∀ v ∈ (l.getD j default).args, v.2.2.size ≤ 140737488355328 := by
  obtain ⟨ps, rfl, h2, h3⟩ := h
  have hpl : ps.length = (ps.map Prod.fst).length := by simp
  obtain ⟨q0, q1, q2, q3⟩ := cells4_get ps j (by omega)
  obtain ⟨sb, off, e, lt, hc⟩ := h2.row (fun hn => by rw [hn] at q0; cases q0)
  have he : (ps.map Prod.fst).getD j default = (ps[j]'(by omega)).1 := by
    rw [List.getD_eq_getElem?_getD, List.getElem?_map, List.getElem?_eq_getElem (by omega)]
    rfl
  obtain ⟨⟨a, d, e1, e2⟩, e3⟩ := h3 _ (List.getElem_mem (show j < ps.length by omega))
  rw [he]
  exact ⟨sb, off, a, d, e, lt, hc _ _ q0, hc _ _ q1, hc _ _ q2, by have h9 := hc _ _ q3; rw [e1] at h9; exact h9, e2, e3⟩
theorem Aw.doesK {w W : World} {mb rb : Nat} {l : List F11} {nx : Int} (h : Aw w mb rb l nx W) (x : D11) (vo : Option Addr) (vc : Nat) (hs : Sl10 W.heap.size W x.args.length vo vc (cellsV x.args)) (hx : ∀ v ∈ x.args, v.2.2.size ≤ 140737488355328) (hn : x.args.length ≤ 100000) :
    Calls Try.prog 22 #[.pointer (some ⟨mb, 0, none⟩), .agg #[.int .i64 x.op, .int .i64 x.id, .int .i64 x.kind, .slice vo x.args.length vc]] W fun e W' => e = .returned (doM l nx x).tells ∧ Aw w mb rb (doM l nx x).facts (doM l nx x).next W' := by
  obtain ⟨ao, c, h1, h2, h3, h4⟩ := h
  exact (do_any x vo vc mb rb ao c l nx W h1 hs hx hn).mono fun e W' hb => Aw.becomes h2 h3 h4 hb
theorem Aw.lo {w W : World} {mb rb : Nat} {l : List F11} {nx : Int} (h : Aw w mb rb l nx W) : 1 ≤ nx := by
  obtain ⟨ao, c, h1, -⟩ := h
  exact h1.lo
theorem Aw.low {w w1 W : World} {mb rb : Nat} {l : List F11} {nx : Int} (b : Below w.heap.size w w1) (h : Aw w1 mb rb l nx W) : Aw w mb rb l nx W := by
  obtain ⟨ao, c, h1, h2, h3, h4⟩ := h
  exact ⟨ao, c, h1, b.trans (h2.mono b.size), Nat.le_trans b.size h3, fun a e => Nat.le_trans b.size (h4 a e)⟩
/-- Of, beside the memory whose facts they are. -/
theorem of_again {w W : World} {mb rb : Nat} {l : List F11} {nx : Int} (h : Aw w mb rb l nx W) (hg : Gd l) (ao : Option Addr) (c : Nat) (hf : FRow W.heap.size W l ao c) :
    Calls Try.prog 23 #[.int .i64 nx, .slice ao l.length c] W fun e W' => ∃ mb2 rb2, e = .returned (.tuple #[.pointer (some ⟨mb2, 0, none⟩), .int .i64 0]) ∧ Two w mb rb mb2 rb2 l nx l nx W' := by
  have hA := h
  obtain ⟨a0, c0, h1, -⟩ := h
  have hx : ∀ f ∈ l, f.args.length ≤ 100000 ∧ ∀ v ∈ f.args, v.2.2.size ≤ 140737488355328 := fun f hfm => ⟨Nat.le_trans (h1.row.few f hfm) (by decide), h1.txt f hfm⟩
  have hm := ofM_good h1 hg
  refine (of_any nx l ao c W hf hx).mono ?_
  rintro e W' ⟨hb, ⟨hno, -⟩ | ⟨l2, mb2, rb2, hy, he, ha⟩⟩
  · rw [hm] at hno
    cases hno
  · rw [hm] at hy
    obtain rfl := Option.some.inj hy
    exact ⟨mb2, rb2, he, two_of hA hb ha⟩
set_option maxRecDepth 100000 in
set_option maxHeartbeats 4000000 in
theorem memoryOf_any (l s : List D11) (lo : Option Addr) (lc : Nat) (so : Option Addr) (sc : Nat) (w : World) (hl : DRow w.heap.size w l lo lc) (hs : DRow w.heap.size w s so sc) :
    Calls Try.prog 5 #[.slice lo l.length lc, .slice so s.length sc] w (YesP w) := by
  have HL := Lib.hid hl
  have HS := Lib.hid hs
  have hl9 := hl.fine
  have hs9 := hs.fine
  clear hl hs
  unfold YesP
  go_enter Try.func5, Try.ntmps5
  go_upto_region 5 with (first
    | (go_at_call 6; refine (awake_any _).mono ?_; rintro e w1 ⟨rfl, hb⟩; have HB1 := Lib.hid hb; clear hb)
    | (go_at_call 16; refine (new_aw _).mono ?_; rintro e w2 ⟨mb, rb, rfl, ha⟩; have HA := Lib.hid (Aw.low HB1.out ha); clear ha))
  clear HB1
  go_loopw [6] (fun i wr => ∃ (k : Nat) (m : List F11) (nx : Int), k ≤ l.length ∧ i = .int .i64 k ∧ Hid (Aw w mb rb m nx wr) ∧ Hid (Gd m)) (fun i _ => l.length - (intOf i).toNat)
  case atStart => exact ⟨0, [], 1, Nat.zero_le _, rfl, HA, Gd.nil⟩
  case round =>
    obtain ⟨k, m, nx, hk, rfl, HAk, HG⟩ := hrel
    clear HA
    by_cases hlt : k < l.length ∧ k < 120
    · obtain ⟨hlt, h120⟩ := hlt
      obtain ⟨g, o, p, d, rfl, lg, X1, X2, X3, X4, s1, hx⟩ := HL.out.get hlt
      have x1 := (HAk.out.below.cell (p := ⟨g, o + k * 4, none⟩) lg).trans X1
      have x2 := (HAk.out.below.cell (p := ⟨g, o + k * 4 + 1, none⟩) lg).trans X2
      have x3 := (HAk.out.below.cell (p := ⟨g, o + k * 4 + 2, none⟩) lg).trans X3
      have x4 := (HAk.out.below.cell (p := ⟨g, o + k * 4 + 3, none⟩) lg).trans X4
      clear X1 X2 X3 X4
      have hkn : (k : Int) < (l.length : Int) := by omega
      have hk120 : (k : Int) < 120 := by omega
      obtain ⟨x, hxe⟩ : ∃ x, x = l.getD k default := ⟨_, rfl⟩
      rw [← hxe] at x1 x2 x3 x4 s1 hx
      clear hxe
      have HDo : Hid (x.args.length ≤ 20 → Calls Try.prog 22 #[.pointer (some ⟨mb, 0, none⟩), .agg #[.int .i64 x.op, .int .i64 x.id, .int .i64 x.kind, .slice p x.args.length d]] wr fun e W' => e = .returned (doM m nx x).tells ∧ Aw w mb rb (doM m nx x).facts (doM m nx x).next W') := fun h20 => HAk.out.doesK x p d (s1.up HAk.out.below HAk.out.below.size) hx (by omega)
      have HGn := Lib.hid (HG.out.does HAk.out.lo x)
      clear s1 hx
      by_cases h20 : 20 < x.args.length
      · have h20' : (20 : Int) < (x.args.length : Int) := by omega
        have HBe := Lib.hid HAk.out.below
        clear HDo HGn h20 HAk HG HL HS
        go_wp2_with fail
        go_ret
        exact ⟨rfl, HBe.out⟩
      · have h20' : ¬ (20 : Int) < (x.args.length : Int) := by omega
        have HD := Lib.hid (HDo.out (by omega))
        clear HDo h20 HAk HG
        generalize (doM m nx x).tells = tl at *
        generalize (doM m nx x).facts = m2 at *
        generalize (doM m nx x).next = n2 at *
        generalize x.args.length = an at *
        go_wp2_with (go_at_call 22; refine (HD.out).mono ?_; rintro e w3 ⟨rfl, ha⟩; have HA3 := Lib.hid ha; clear ha)
        clear HD x1 x2 x3 x4
        go_roundw
        case rel => exact ⟨k + 1, m2, n2, by omega, by go_num, HA3, HGn⟩
        case measure => simp [intOf]; omega
    · have hex : (k : Int) < (l.length : Int) ∧ ¬ (k : Int) < 120 ∨ ¬ (k : Int) < (l.length : Int) := by omega
      have HNx := Lib.hid HAk.out.next
      have HAl := Lib.hid HAk.out.all
      clear hlt
      rcases hex with ⟨hex, hex2⟩ | hex
      all_goals
        go_upto_region 14 with (first
          | (go_at_call 14; refine (HNx.out).mono ?_; rintro e w3 ⟨rfl, rfl⟩)
          | (go_at_call 13; refine (HAl.out).mono ?_; rintro e w4 ⟨ao, c, rfl, hr, hb⟩; have HOf := Lib.hid (of_again (HAk.out.old hb) HG.out ao c hr.frow); clear hr hb)
          | (go_at_call 23; refine (HOf.out).mono ?_; rintro e w5 ⟨mb2, rb2, rfl, h2⟩; have H2 := Lib.hid h2; clear h2))
        clear hex HNx HAl HOf HAk HG HL
        generalize l.length = ll at *
        go_loopw [9] (fun i wr2 => ∃ (k : Nat) (m : List F11) (nx : Int), k ≤ s.length ∧ i = .int .i64 k ∧ Hid (Two w mb rb mb2 rb2 m nx m nx wr2)) (fun i _ => s.length - (intOf i).toNat)
        case atStart => exact ⟨0, m, nx, Nat.zero_le _, rfl, H2⟩
        case round =>
          obtain ⟨k2, m3, n3, hk2, rfl, HT⟩ := hrel
          clear H2
          by_cases hlt : k2 < s.length ∧ k2 < 120
          · obtain ⟨hlt, h120⟩ := hlt
            obtain ⟨g, o, p, d, rfl, lg, X1, X2, X3, X4, s1, hx⟩ := HS.out.get hlt
            have hkn : (k2 : Int) < (s.length : Int) := by omega
            have hk120 : (k2 : Int) < 120 := by omega
            obtain ⟨x, hxe⟩ : ∃ x, x = s.getD k2 default := ⟨_, rfl⟩
            rw [← hxe] at X1 X2 X3 X4 s1 hx
            clear hxe
            have HX := Lib.hid (fun W (b : Below w.heap.size w W) => (⟨(b.cell (p := ⟨g, o + k2 * 4, none⟩) lg).trans X1, (b.cell (p := ⟨g, o + k2 * 4 + 1, none⟩) lg).trans X2, (b.cell (p := ⟨g, o + k2 * 4 + 2, none⟩) lg).trans X3, (b.cell (p := ⟨g, o + k2 * 4 + 3, none⟩) lg).trans X4⟩ : W.cell? ⟨g, o + k2 * 4, none⟩ = some (.int .i64 x.op) ∧ W.cell? ⟨g, o + k2 * 4 + 1, none⟩ = some (.int .i64 x.id) ∧ W.cell? ⟨g, o + k2 * 4 + 2, none⟩ = some (.int .i64 x.kind) ∧ W.cell? ⟨g, o + k2 * 4 + 3, none⟩ = some (.slice p x.args.length d)))
            clear X1 X2 X3 X4
            obtain ⟨x1, x2, x3, x4⟩ := HX.out _ HT.out.below
            have HDo : Hid (x.args.length ≤ 20 → ∀ (mb rb mb2 rb2 : Nat) (l2 : List F11) (n2 : Int) (W : World), Two w mb rb mb2 rb2 m3 n3 l2 n2 W → Calls Try.prog 22 #[.pointer (some ⟨mb, 0, none⟩), .agg #[.int .i64 x.op, .int .i64 x.id, .int .i64 x.kind, .slice p x.args.length d]] W fun e W' => e = .returned (doM m3 n3 x).tells ∧ Two w mb2 rb2 mb rb l2 n2 (doM m3 n3 x).facts (doM m3 n3 x).next W') := fun h20 mb rb mb2 rb2 l2 n2 W hT => (hT.does x p d (s1.up hT.below hT.below.size) hx (by omega)).mono fun e W' hb => ⟨hb.1, hb.2.symm⟩
            obtain ⟨ti, te, htt⟩ := do_tells m3 n3 x
            rw [htt] at HDo
            clear s1 hx htt
            have hti : (ti != ti) = false := by simp
            have hte : (te != te) = false := by simp
            by_cases h20 : 20 < x.args.length
            · have h20' : (20 : Int) < (x.args.length : Int) := by omega
              have HBe := Lib.hid HT.out.below
              clear HDo h20 HT HS HX
              go_wp2_with fail
              go_ret
              exact ⟨rfl, HBe.out⟩
            · have h20' : ¬ (20 : Int) < (x.args.length : Int) := by omega
              have HD1 := Lib.hid (HDo.out (by omega) _ _ _ _ _ _ _ HT.out)
              have HD2 := Lib.hid (HDo.out (by omega) mb2 rb2 mb rb)
              clear HDo h20 HT
              generalize (doM m3 n3 x).facts = m4 at *
              generalize (doM m3 n3 x).next = n4 at *
              generalize x.args.length = an at *
              go_upto_region 19 with (go_at_call 22; refine (HD1.out).mono ?_; rintro e w6 ⟨rfl, ha⟩; have HA6 := Lib.hid ha; clear ha)
              clear HD1 x1 x2 x3 x4
              obtain ⟨x1, x2, x3, x4⟩ := HX.out _ HA6.out.below
              go_wp2_with (go_at_call 22; refine (HD2.out _ _ _ HA6.out).mono ?_; rintro e w7 ⟨rfl, ha⟩; have HA7 := Lib.hid ha; clear ha)
              clear HD2 HA6 x1 x2 x3 x4
              go_roundw
              case rel => exact ⟨k2 + 1, m4, n4, by omega, by go_num, HA7⟩
              case measure => simp [intOf]; omega
          · have hex : (k2 : Int) < (s.length : Int) ∧ ¬ (k2 : Int) < 120 ∨ ¬ (k2 : Int) < (s.length : Int) := by omega
            have HNx := Lib.hid HT.out.next
            have HNy := Lib.hid HT.out.symm.next
            have HAl := Lib.hid HT.out.all
            have hnn : (n3 == n3) = true := by simp
            clear hlt
            rcases hex with ⟨hex, hex2⟩ | hex
            all_goals
              generalize s.length = sl at *
              clear HS
              go_upto_region 22 with fail
              go_wp2_with (first
                | (go_at_call 14; first | (refine (HNx.out).mono ?_; rintro e w8 ⟨rfl, rfl⟩; clear HNx) | (refine (HNy.out).mono ?_; rintro e w8 ⟨rfl, rfl⟩))
                | (go_at_call 13; first
                  | (refine (HAy.out).mono ?_; rintro e w8 ⟨ao2, c2, rfl, hr, hb⟩; have HF2 := Lib.hid (sameFacts_yes _ ao1 c1 ao2 c2 _ (HF1.out.up hb hb.size) hr.frow); have HB2 := Lib.hid (HB1.out.trans (hb.mono HB1.out.size)); clear hr hb)
                  | (refine (HAl.out).mono ?_; rintro e w8 ⟨ao1, c1, rfl, hr, hb⟩; have HF1 := Lib.hid hr.frow; have HAy := Lib.hid (HT.out.old hb).symm.all; have HB1 := Lib.hid (HT.out.below.trans (hb.mono HT.out.below.size)); clear hr hb))
                | (go_at_call 21; refine (HF2.out).mono ?_; rintro e w8 ⟨rfl, hb⟩; have HB3 := Lib.hid (HB2.out.trans (hb.mono HB2.out.size)); clear hb))
              go_ret
              exact ⟨rfl, HB3.out⟩
end Go.Proofs.Ytajhngkdnkbfcaa
