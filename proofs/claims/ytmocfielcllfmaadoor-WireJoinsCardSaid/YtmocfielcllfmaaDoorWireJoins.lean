/- WireJoins is true: what is put together is the parts, one behind the other; they stay. -/
import Derived.Test.YtmocfielcllfmaaDoorApart
namespace Go.Proofs.YtmocfielcllfmaaDoor
open Go.RowKit

/-- The second half: behind the first loop. -/
def Small (ls : List (List UInt8)) : Prop := (∀ l, l ∈ ls → l.length ≤ 2000) ∧ ls.length ≤ 2002 ∧ ls.flatten.length ≤ 24000

/-- The row of parts that were lent, read as a row of parts. -/
theorem lents_slR {w : World} {base : Nat} {v vin : Value} {ao : Option Addr} {c : Nat} {ps : List (Nat × List UInt8)} (h : Lents w base v ps) (hvin : vin = .slice ao ps.length c) (hin : w.ownsRow base 23 1 vin ps.length (inC ps)) : SlR w.heap.size w ao (ps.map Prod.snd) := fun hl => by
  subst hvin
  have hpl : 0 < ps.length := by simpa using hl
  rcases hin.2 with ⟨h1, h2⟩ | ⟨g, cap, cur, h1, _, hg, _⟩
  · omega
  · simp only [Value.slice.injEq] at h1
    obtain ⟨rfl, _, rfl⟩ := h1
    refine ⟨g, 0, rfl, lt_of_heap hg, fun j hj => ?_⟩
    have hj' : j < ps.length := by simpa using hj
    have hc := hin.cells (g := g) rfl j (.slice (some ⟨(ps[j]).1, 0, none⟩) (ps[j]).2.length ((ps[j]).2.length + 12)) (by simp [inC, hj'])
    rw [Addr.add_lit] at hc
    rw [List.getElem_map]
    exact ⟨_, _, hc, (h.at_ ps[j] (List.getElem_mem hj')).1.slG⟩

theorem hLe_snoc {w w' : World} {base g n : Nat} {v : Value} {xs : List Value} {ps : List (Nat × List UInt8)} {l : List UInt8} (h : Lents w base v ps) (hw : w.ownsRow base 5 1 v n xs) (hg : g = w.heap.size) (b : Below w.heap.size w w') (hl : LentAt w' g l) (hb : base ≤ w.heap.size) : Lents w' base v (ps ++ [(g, l)]) :=
  h.snoc hg b hl (by omega) (fun k hk => (hw.lt k hk).2)

/-- Each slice of what was lent, read. -/
theorem in_cell {w : World} {base c : Nat} {ao : Option Addr} {ps : List (Nat × List UInt8)} (hin : w.ownsRow base 23 1 (.slice ao ps.length c) ps.length (inC ps)) (k : Nat) (hk : k < ps.length) :
    ∃ gi, ao = some ⟨gi, 0, none⟩ ∧ w.cell? ⟨gi, k, none⟩ = some (.slice (some ⟨(ps[k]).1, 0, none⟩) (ps[k]).2.length ((ps[k]).2.length + 12)) := by
  rcases hin.2 with ⟨h1, h2⟩ | ⟨g, cap, cur, h1, _, hg, _⟩
  · omega
  · simp only [Value.slice.injEq] at h1
    obtain ⟨rfl, _, rfl⟩ := h1
    have hc := hin.cells (g := g) rfl k (.slice (some ⟨(ps[k]).1, 0, none⟩) (ps[k]).2.length ((ps[k]).2.length + 12)) (by simp [inC, hk])
    rw [Addr.add_lit, Nat.zero_add] at hc
    exact ⟨g, rfl, hc⟩

theorem owns_apart {w w' : World} {base b e size n : Nat} {v : Value} {xs : List Value} (h : w.ownsRow base e size v n xs) (g : w.grownBy w' (some b)) (hne : v.ownBlock ≠ some b) : w'.ownsRow base e size v n xs := h.kept g (Or.inr hne)

/-- The lent rows from a place on. -/
def Rest (w : World) (ps : List (Nat × List UInt8)) (k : Nat) : Prop := ∀ j, k ≤ j → (hj : j < ps.length) → LentAt w (ps[j]).1 (ps[j]).2
theorem Rest.below {w w' : World} {ps : List (Nat × List UInt8)} {k : Nat} (h : Rest w ps k) (b : Below w.heap.size w w') : Rest w' ps k := fun j h1 h2 => (h j h1 h2).below b
theorem Rest.next {w w' : World} {ps : List (Nat × List UInt8)} {k : Nat} (h : Rest w ps k) (hk : k < ps.length) (hn : (ps.map Prod.fst).Nodup) (g : w.grownBy w' (some (ps[k]).1)) : Rest w' ps (k + 1) := fun j h1 h2 => by
  have hl := h j (by omega) h2
  refine hl.keep (g.block _ hl.size (fun e => ?_))
  have e' := Option.some.inj e
  have hp := List.pairwise_iff_getElem.1 hn k j (by simpa using hk) (by simpa using h2) (by omega)
  rw [List.getElem_map, List.getElem_map] at hp
  exact hp e'.symm

set_option maxRecDepth 100000 in
set_option maxHeartbeats 4000000 in
theorem wireJoins_any (ao : Option Addr) (ls : List (List UInt8)) (c : Nat) (W : World) (h : SlP W.heap.size W ao ls) (hm : ls.length ≤ 9223372036854775807) :
    Calls Tryd.prog 3 #[.slice ao ls.length c] W (YesP W) := by
  obtain ⟨i0, hi, hz0, hz1, hz2⟩ := info_parts infoB
  obtain ⟨i1, hi1, hz10, hz11, hz12⟩ := info_parts infoS
  have H := Lib.hid h
  clear h
  go_enter Tryd.func3, Tryd.ntmps3
  go_wp2_with fail
  go_loopw [3, 4] (fun n i wr => ∃ k : Nat, k ≤ ls.length ∧ i = .int .i64 k ∧ n = .int .i64 (((ls.take k).flatten.length : Nat) : Int) ∧ (∀ l, l ∈ ls.take k → l.length ≤ 2000) ∧ k ≤ 2001 ∧ (ls.take k).flatten.length ≤ 22000 ∧ W = wr) (fun _ i _ => ls.length - (intOf i).toNat)
  case atStart => exact ⟨0, by omega, rfl, rfl, fun l hl => by simp at hl, by omega, by simp, rfl⟩
  case round =>
    obtain ⟨k, hk, rfl, rfl, hall, hk2, hfl, rfl⟩ := hrel
    have HALL := Lib.hid hall
    clear hall
    by_cases hlt : k < ls.length
    · obtain ⟨sb, off, rfl, -, hc⟩ := H.out (by omega)
      obtain ⟨ao1, k1, c1, -, -⟩ := hc k hlt
      have HT := Lib.hid (show (ls.take (k + 1)).flatten.length = (ls.take k).flatten.length + (ls[k]).length by rw [flatten_take ls k hlt, List.length_append])
      have HM : Hid (∀ l, l ∈ ls.take (k + 1) → l = ls[k] ∨ l ∈ ls.take k) := fun l hl => by
        rw [List.take_add_one, List.getElem?_eq_getElem hlt] at hl
        rcases List.mem_append.1 hl with hl | hl
        · exact Or.inr hl
        · exact Or.inl (by simpa using hl)
      clear hc
      generalize (ls.take k).flatten.length = f at hfl HT
      generalize ls[k] = z at c1 HT HM
      by_cases h1 : 2000 < z.length
      · have g1 : decide ((2000 : Int) < (z.length : Int)) = true := by simp; omega
        have g2 : decide (2000 < z.length) = true := by simp; omega
        clear HT HM
        go_wp2_with (go_at_call 7; refine (awake_any _).mono ?_; rintro e w' ⟨rfl, hb⟩)
        go_ret
        exact ⟨rfl, hb⟩
      · have g1 : decide ((2000 : Int) < (z.length : Int)) = false := by simp; omega
        have g2 : decide (2000 < z.length) = false := by simp; omega
        by_cases h2 : 20000 < f
        · have g3 : decide ((20000 : Int) < (f : Int)) = true := by simp; omega
          have g4 : decide (20000 < f) = true := by simp; omega
          clear HT HM
          go_wp2_with (go_at_call 7; refine (awake_any _).mono ?_; rintro e w' ⟨rfl, hb⟩)
          go_ret
          exact ⟨rfl, hb⟩
        · have g3 : decide ((20000 : Int) < (f : Int)) = false := by simp; omega
          have g4 : decide (20000 < f) = false := by simp; omega
          by_cases h3 : 2000 < k
          · have g5 : decide ((2000 : Int) < (k : Int)) = true := by simp; omega
            have g6 : decide (2000 < k) = true := by simp; omega
            clear HT HM
            go_wp2_with (go_at_call 7; refine (awake_any _).mono ?_; rintro e w' ⟨rfl, hb⟩)
            go_ret
            exact ⟨rfl, hb⟩
          · have g5 : decide ((2000 : Int) < (k : Int)) = false := by simp; omega
            have g6 : decide (2000 < k) = false := by simp; omega
            go_wp2_with fail
            clear g1 g2 g3 g4 g5 g6
            go_roundw
            case rel =>
              refine ⟨k + 1, by omega, by go_num, ?_, fun l hl => ?_, by omega, by have := HT.out; omega, ?_⟩
              · first
                | exact congrArg (Value.int .i64) (by have := HT.out; omega)
                | (have := HT.out; omega)
              · rcases HM.out l hl with rfl | hl
                · omega
                · exact HALL.out l hl
              · first | trivial | rfl
            case measure => simp [intOf]; omega
    · obtain rfl : k = ls.length := by omega
      have HSm : Hid (Small ls) := by
        rw [List.take_length] at hfl HALL
        exact ⟨HALL.out, by omega, by omega⟩
      clear HALL hfl hk2
      generalize (ls.take ls.length).flatten.length = N
      have HB0 : Hid (Below W.heap.size W W) := Below.refl _ _
      have HHm := Lib.hid (show ls.length ≤ 2002 from HSm.out.2.1)
      go_wp2_with fail
      go_loopw [5, 6, 7] (fun vi vw i w' => ∃ (k : Nat) (ps : List (Nat × List UInt8)) (ain : Option Addr) (cin : Nat) (vv : Value), k ≤ ls.length ∧ i = .int .i64 k ∧ vi = .slice ain k cin ∧ vv = vw ∧ ps.map Prod.snd = ls.take k ∧ w'.ownsRow W.heap.size 23 1 (.slice ain k cin) k (inC ps) ∧ w'.ownsRow W.heap.size 5 1 vv (ls.take k).flatten.length (bcells (ls.take k).flatten) ∧ Lents w' W.heap.size vv ps ∧ Below W.heap.size W w') (fun _ _ i _ => ls.length - (intOf i).toNat)
      case atStart => exact ⟨0, [], none, 0, _, by omega, rfl, rfl, rfl, rfl, World.ownsRow_nil _ _ _ _, World.ownsRow_nil _ _ _ _, ⟨(fun p hp => by cases hp), List.nodup_nil⟩, HB0.out⟩
      case round =>
        obtain ⟨k, ps, ain, cin, vv, hk, rfl, rfl, rfl, hps, hin, hwant, hlents, hbel⟩ := hrel
        have HPS := Lib.hid hps
        have HIn := Lib.hid hin
        have HWant := Lib.hid hwant
        have HLe := Lib.hid hlents
        have HBe := Lib.hid hbel
        have hszb := hbel.size
        clear hps hin hwant hlents hbel HB0
        by_cases hlt : k < ls.length
        · have HPart : Hid (∀ w', Below W.heap.size W w' → ∃ sb off, ao = some ⟨sb, off, none⟩ ∧ ∃ ao' c', w'.cell? ⟨sb, off + k, none⟩ = some (.slice ao' (ls[k]).length c') ∧ SlG w'.heap.size w' ao' (bcells ls[k]) ∧ (ao' = none → c' = 0)) := fun w' b => by
            obtain ⟨sb, off, e, _, hc⟩ := (H.out.below b) (by omega)
            obtain ⟨ao', c', h1, h2, h3⟩ := hc k hlt
            exact ⟨sb, off, e, ao', c', h1, h2.up (Below.refl _ _) b.size, h3⟩
          have HPS1 : Hid (∀ g, (ps ++ [(g, ls[k])]).map Prod.snd = ls.take (k + 1)) := fun g => by
            rw [List.map_append, HPS.out, List.take_add_one, List.getElem?_eq_getElem hlt]
            rfl
          have HFl := Lib.hid (flatten_take ls k hlt)
          have hzl : (ls[k]).length ≤ 2000 := HSm.out.1 _ (List.getElem_mem hlt)
          have hfl2 : (ls.take k).flatten.length + (ls[k]).length ≤ 24000 := Nat.le_trans (flatten_take_le ls k hlt) HSm.out.2.2
          have hk2 : k ≤ 2002 := by have := HHm.out; omega
          generalize (ls.take k).flatten = fl at HFl HWant hfl2
          generalize ls[k] = z at HPart HPS1 HFl hzl hfl2
          obtain ⟨sb, off, rfl, ao1, k1, c1, hs1, hn1⟩ := HPart.out _ HBe.out
          have KL := Lib.hid (lentB_any ao1 k1 z _ (by omega) (hs1.slB hn1))
          clear hs1 hn1
          go_wp2_with (go_at_call 8; refine (KL.out).mono ?_; rintro e w1 ⟨rfl, hL, hb⟩; refine Hid.out ?_)
          have HL1 := Lib.hid (hLe_snoc HLe.out HWant.out rfl hb hL hszb)
          have hown : w1.ownsRow W.heap.size 23 1 _ _ _ := owns_below HIn.out hb
          have HW1 := Lib.hid (owns_below HWant.out hb)
          have HB1 := Lib.hid (HBe.out.trans (hb.mono hszb))
          have hs1 : W.heap.size ≤ w1.heap.size := HB1.out.size
          clear hL hb KL c1 HLe HIn HWant
          refine Lib.hid ?_
          go_wp2_with (at_builtin; refine wpList_append_own _ rfl _ _ 22 rfl W.heap.size 23 i1 (.slice none 0 0) 1 24 Tryd.underlying22 hi1 hz10 hz11 hz12 rfl (by decide) _ _ _ rfl (hown.alloc _) ⟨w1.heap.size, 0, none⟩ 1 1 [.slice (some ⟨wr.heap.size, 0, none⟩) z.length (z.length + 12)] rfl rfl (fun t u hu => by rw [Addr.add_lit, Nat.zero_add]; exact cells_made _ _ _ t u (by simpa using hu)) (fun u hu => by simp at hu; subst hu; rfl) (by unfold maxLen; omega) (by omega) (by simp; omega) ?_; intro v' w3 hown' hgrow' hnil'; obtain ⟨ain', cin', rfl⟩ := owns_slice hown'; refine Hid.out ?_)
          have hgk : ∀ k', ((Value.slice ain k cin).ownBlock = some k' → W.heap.size ≤ k') := fun k' hk' => ((hown.lt) k' hk').1
          have HK3 := Lib.hid (owns_tag (hown.alloc (.cells #[.slice (some ⟨wr.heap.size, 0, none⟩) z.length (z.length + 12)] 23)))
          have HL3 := Lib.hid ((HL1.out.below (below_own _)).far hgrow' HK3.out)
          have HW3 := Lib.hid (owns_far (HW1.out.alloc _) (by decide) hgrow' HK3.out)
          have HIn3 := Lib.hid hown'
          have HB3 := Lib.hid ((HB1.out.alloc hs1 _).grown hgrow' (by simp; omega) hgk)
          obtain ⟨sb', off', he, ao2, k2, c2, hs2, hn2⟩ := HPart.out _ HB3.out
          obtain ⟨rfl, rfl⟩ : sb' = sb ∧ off' = off := by
            simp only [Option.some.injEq, Addr.mk.injEq, and_true] at he
            exact ⟨he.1.symm, he.2.symm⟩
          have HSB := Lib.hid (hs2.slB hn2)
          have hs3 : W.heap.size ≤ w3.heap.size := HB3.out.size
          clear hown hown' hgrow' hnil' hgk hs2 hn2 HL1 HW1 HB1 HK3 he
          refine Lib.hid ?_
          go_wp2_with (at_builtin; go_must (refine wpList_append_apart _ rfl _ _ 23 rfl W.heap.size 5 i0 (.int .u8 0) 1 1 Tryd.underlying23 hi hz0 hz1 hz2 rfl (by decide) _ _ _ rfl HW3.out ao2 z.length k2 (bcells z) rfl (by rw [bcells_length, Nat.mul_one]) (fun e => ⟨by rw [(HSB.out.nil e).1]; rfl, (HSB.out.nil e).2⟩) HSB.out.cells (Lib.byteCells_one z) (by unfold maxLen; omega) (by omega) hs3 ?_); intro v2 w4 hown2 hgrow2 hap2; refine Hid.out ?_)
          have hgk : ∀ k', (vv.ownBlock = some k' → W.heap.size ≤ k') := fun k' hk' => (HW3.out.lt k' hk').1
          have HKB := Lib.hid (owns_tag HW3.out)
          have HL4 := Lib.hid (HL3.out.own hgrow2 hap2)
          have HIn4 := Lib.hid (owns_far HIn3.out (by decide) hgrow2 HKB.out)
          have HW4 := Lib.hid hown2
          have HB4 := Lib.hid (HB3.out.grown hgrow2 hs3 hgk)
          clear hown2 hgrow2 hap2 hgk HKB HL3 HIn3 HW3 HB3 HSB
          refine Lib.hid ?_
          go_wp2_with fail
          have RI : w4.ownsRow W.heap.size 23 1 (.slice ain' (k + 1) cin') (k + 1) (inC (ps ++ [(wr.heap.size, z)])) := by
            have h := HIn4.out
            unfold inC at h ⊢
            rw [List.map_append]
            exact h
          have RW : w4.ownsRow W.heap.size 5 1 v2 (ls.take (k + 1)).flatten.length (bcells (ls.take (k + 1)).flatten) := by
            have h := HW4.out
            rw [← bcells_append] at h
            rw [HFl.out, List.length_append]
            exact h
          clear HIn4 HW4 HPart HFl H HSm HHm HPS
          go_roundw
          case rel =>
            refine ⟨k + 1, ps ++ [(wr.heap.size, z)], ain', cin', v2, by omega, by go_num, ?_, rfl, HPS1.out _, RI, RW, HL4.out, HB4.out⟩
            first | rfl | go_num
          case measure => simp [intOf]; omega
        · obtain rfl : k = ls.length := by omega
          rw [List.take_length] at HPS HWant
          have hpl : ps.length = ls.length := by rw [← HPS.out, List.length_map]
          have HJ := Lib.hid (join_any ain ls cin hm wr (by have := lents_slR HLe.out (by rw [hpl]) (by rw [hpl]; exact HIn.out); rwa [HPS.out] at this) (by have := HSm.out.2.2; omega))
          obtain ⟨L, hL⟩ : ∃ L, L = ls.flatten := ⟨_, rfl⟩
          have HLn : Hid (L.length ≤ 24000) := by rw [hL]; exact HSm.out.2.2
          rw [← hL] at HWant HJ
          clear hL
          obtain ⟨aw, cw, rfl⟩ := owns_slice HWant.out
          have HPB : Hid (∀ p, p ∈ ps → p.1 < wr.heap.size ∧ W.heap.size ≤ p.1 ∧ (Value.slice aw L.length cw).ownBlock ≠ some p.1) := fun p hp => by
            obtain ⟨h1, h2, h3⟩ := HLe.out.at_ p hp
            exact ⟨h1.size, h2, h3⟩
          have HND : Hid (ps.map Prod.fst).Nodup := HLe.out.apart
          have HRs : Hid (Rest wr ps 0) := fun j _ hj => (HLe.out.at_ _ (List.getElem_mem hj)).1
          go_wp2_with (go_at_call 9; refine (HJ.out).mono ?_; rintro e w1 ⟨aj, cj, rfl, hJ, hb⟩; refine Hid.out ?_)
          have HIn1 := Lib.hid (owns_below HIn.out hb)
          have HW1 := Lib.hid (owns_below HWant.out hb)
          have HR1 := Lib.hid (HRs.out.below hb)
          have HB1 := Lib.hid (HBe.out.trans (hb.mono hszb))
          have HJ1 := Lib.hid hJ
          clear HJ hJ hb HIn HWant HLe HBe HRs
          generalize wr.heap.size = B1 at HJ1 HPB
          refine Lib.hid ?_
          go_wp2_with fail
          go_loopw [9] (fun i w' => ∃ k : Nat, k ≤ ls.length ∧ i = .int .i64 k ∧ w'.ownsRow W.heap.size 23 1 (.slice ain ls.length cin) ls.length (inC ps) ∧ w'.ownsRow W.heap.size 5 1 (.slice aw L.length cw) L.length (bcells L) ∧ w'.ownsRow B1 5 1 (.slice aj L.length cj) L.length (bcells L) ∧ Rest w' ps k ∧ Below W.heap.size W w') (fun i _ => ls.length - (intOf i).toNat)
          case atStart => exact ⟨0, by omega, rfl, HIn1.out, HW1.out, HJ1.out, HR1.out, HB1.out⟩
          case round =>
            obtain ⟨k, hk, rfl, hin, hwant, hjoin, hrest, hbel⟩ := hrel
            clear HIn1 HW1 HJ1 HR1 HB1
            have HIn := Lib.hid hin
            have HW := Lib.hid hwant
            have HJ := Lib.hid hjoin
            have HR := Lib.hid hrest
            have HB := Lib.hid hbel
            have hszb := hbel.size
            clear hin hwant hjoin hrest hbel
            by_cases hlt : k < ls.length
            · have hkp : k < ps.length := by omega
              have HPart : Hid (∀ w', Below W.heap.size W w' → ∃ sb off, ao = some ⟨sb, off, none⟩ ∧ ∃ ao' c', w'.cell? ⟨sb, off + k, none⟩ = some (.slice ao' (ls[k]).length c') ∧ SlG w'.heap.size w' ao' (bcells ls[k]) ∧ (ao' = none → c' = 0)) := fun w' b => by
                obtain ⟨sb, off, e, _, hc⟩ := (H.out.below b) (by omega)
                obtain ⟨ao', c', h1, h2, h3⟩ := hc k hlt
                exact ⟨sb, off, e, ao', c', h1, h2.up (Below.refl _ _) b.size, h3⟩
              have hzk : ls[k] = (ps[k]).2 := by
                have := HPS.out
                subst this
                simp
              have HC : Hid (∀ w' : World, w'.ownsRow W.heap.size 23 1 (.slice ain ls.length cin) ls.length (inC ps) → ∃ gi, ain = some ⟨gi, 0, none⟩ ∧ w'.cell? ⟨gi, k, none⟩ = some (.slice (some ⟨(ps[k]).1, 0, none⟩) (ps[k]).2.length ((ps[k]).2.length + 12))) := fun w' h => in_cell (by rw [hpl]; exact h) k hkp
              have HLt : Hid (LentAt wr (ps[k]).1 (ps[k]).2) := HR.out k (by omega) hkp
              have HRn : Hid (∀ u u', Rest u ps k → u.grownBy u' (some (ps[k]).1) → Rest u' ps (k + 1)) := fun u u' h g => h.next hkp HND.out g
              obtain ⟨hg1, hg2, hg3⟩ := HPB.out (ps[k]) (List.getElem_mem hkp)
              have hzl : (ls[k]).length ≤ 2000 := HSm.out.1 _ (List.getElem_mem hlt)
              rw [hzk] at HPart hzl
              have hk2 : k ≤ 2002 := by have := HHm.out; omega
              clear hzk
              generalize (ps[k]).2 = z at HPart HC HLt hzl
              generalize (ps[k]).1 = g at HC HLt HRn hg1 hg2 hg3
              obtain ⟨sb, off, rfl, ao1, k1, c1, hs1, hn1⟩ := HPart.out _ HB.out
              obtain ⟨gi, rfl, c2⟩ := HC.out _ HIn.out
              have HK : Hid (∀ W', Below wr.heap.size wr W' → Calls Tryd.prog 10 #[.slice (some ⟨g, 0, none⟩) z.length (z.length + 12), .slice ao1 z.length k1] W' (YesP W')) := fun W' b => keptB_any g ao1 k1 z W' (by omega) (HLt.out.below b) (hs1.up b b.size)
              clear hs1 hn1
              go_wp2_with fail
              go_region_with (go_at_call 10; refine (HK.out _ ?_).mono ?_; (first | exact Below.refl _ _ | exact (Below.refl _ _).drew); rintro e w1 ⟨rfl, hb⟩; have HBx := Lib.hid (show Below wr.heap.size wr w1 from (show Below wr.heap.size wr wr.drew from (Below.refl _ _).drew).trans hb); clear hb)
              all_goals
                have HIn1 := Lib.hid (owns_below HIn.out HBx.out)
                have HW1 := Lib.hid (owns_below HW.out HBx.out)
                have HJ1 := Lib.hid (owns_below HJ.out HBx.out)
                have HR1 := Lib.hid (HR.out.below HBx.out)
                have HL1 := Lib.hid (HLt.out.below HBx.out)
                have HB1 := Lib.hid (HB.out.trans (HBx.out.mono hszb))
                have hs1 : W.heap.size ≤ w1.heap.size := HB1.out.size
                obtain ⟨gi', he, c3⟩ := HC.out _ HIn1.out
                obtain rfl : gi' = gi := by
                  simp only [Option.some.injEq, Addr.mk.injEq, and_true] at he
                  exact he.symm
                have HO := Lib.hid (overB_any g z w1 (by omega) HL1.out)
                clear HK HBx HIn HW HJ HR HLt HB c1 c2 he HPart HC
                refine Lib.hid ?_
                go_wp2_with (go_at_call 11; refine (HO.out).mono ?_; rintro e w2 ⟨rfl, hgr⟩; refine Hid.out ?_)
                have RI := owns_far (e' := 5) HIn1.out (by decide) hgr (fun k' hk' => by
                  obtain rfl := Option.some.inj hk'
                  obtain ⟨cur, h1, _⟩ := HL1.out
                  exact ⟨_, _, h1⟩)
                have RW := owns_apart HW1.out hgr hg3
                have RJ := owns_apart HJ1.out hgr (fun e => by have := (HJ1.out.lt _ e).1; omega)
                have RR := HRn.out _ _ HR1.out hgr
                have RB := HB1.out.grown hgr hs1 (fun k' hk' => by obtain rfl := Option.some.inj hk'; exact hg2)
                refine Lib.hid ?_
                clear HIn1 HW1 HJ1 HR1 HB1 HL1 HO HRn c3
                go_wp2_with fail
                go_roundw
                case rel => exact ⟨k + 1, by omega, by go_num, RI, RW, RJ, RR, RB⟩
                case measure => simp [intOf]; omega
            · obtain rfl : k = ls.length := by omega
              have HS := Lib.hid (sameB_at aj aw L.length L.length cj cw L rfl rfl (by have := HLn.out; omega) wr (owns_slB HJ.out) (owns_slB HW.out))
              clear HR HIn HW HJ
              go_wp2_with (go_at_call 12; refine (HS.out).mono ?_; rintro e w1 ⟨rfl, hb⟩; refine Hid.out ?_)
              have HB1 := Lib.hid (HB.out.trans (hb.mono hszb))
              have hs1 : W.heap.size ≤ w1.heap.size := HB1.out.size
              have HJ0 : Hid (Calls Tryd.prog 9 #[.slice none 0 0] w1 (WrittenP [] w1)) := join_any none [] 0 (by simp) w1 (fun h => by simp at h) (by simp)
              clear HS hb HB
              refine Lib.hid ?_
              go_wp2_with (go_at_call 9; refine (HJ0.out).mono ?_; rintro e w2 ⟨a0, c0, rfl, -, hb⟩; refine Hid.out ?_)
              have HB2 := Lib.hid (HB1.out.trans (hb.mono hs1))
              clear HJ0 hb HB1
              refine Lib.hid ?_
              go_wp2_with (go_at_call 7; refine (awake_any _).mono ?_; rintro e w3 ⟨rfl, hb⟩)
              go_ret
              exact ⟨rfl, HB2.out.trans (hb.mono HB2.out.size)⟩
end Go.Proofs.YtmocfielcllfmaaDoor
