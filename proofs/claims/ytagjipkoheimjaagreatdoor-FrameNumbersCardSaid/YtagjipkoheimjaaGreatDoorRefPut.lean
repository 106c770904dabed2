/- The document's own Put. -/
import Derived.Test.YtagjipkoheimjaaGreatDoorPutF
import Derived.Test.YtagjipkoheimjaaGreatDoorPut
import Derived.Test.YtagjipkoheimjaaGreatDoorFlat
import Derived.Test.YtagjipkoheimjaaGreatDoorNum
import Derived.Test.YtagjipkoheimjaaGreatDoorAwake
namespace Go.Proofs.YtagjipkoheimjaaGreatDoor
open Go.RowKit

theorem four_any (n : Nat) (hn : n < 4294967296) (w : World) :
    Calls Tryz.prog 32 #[.int .u32 n] w fun e w' => e = .returned (.slice (some ⟨w.heap.size, 0, none⟩) 4 4) ∧ w.alloc (.cells (b4 n) 5) = w' := by
  go_enter Tryz.func32, Tryz.ntmps32
  go_wp2
  go_ret
  exact ⟨rfl, rfl⟩

theorem owns_lit1 (w : World) (B : Nat) (u : Value) (hb : B ≤ w.heap.size) : (w.alloc (.cells #[u] 5)).ownsRow B 5 1 (.slice (some ⟨w.heap.size, 0, none⟩) 1 1) 1 [u] :=
  ⟨rfl, .inr ⟨w.heap.size, 1, #[u], rfl, hb, heap_alloc_new w _, Nat.le_refl _, by unfold maxLen; omega, rfl, rfl⟩⟩

/-- Bytes that lie at the beginning of a block. -/
structure BodyAt (W : World) (b : Nat) (B : List UInt8) : Prop where
  lt : b < W.heap.size
  cells : ∀ j u, (bcells B)[j]? = some u → W.cell? ⟨b, j, none⟩ = some u
theorem BodyAt.keep {W W' : World} {b : Nat} {B : List UInt8} (h : BodyAt W b B) (hs : W.heap.size ≤ W'.heap.size) (e : W'.heap[b]? = W.heap[b]?) : BodyAt W' b B :=
  ⟨Nat.lt_of_lt_of_le h.lt hs, fun j u hu => by
    have := h.cells j u hu
    simp only [World.cell?] at this ⊢
    rw [e]
    exact this⟩
theorem BodyAt.below {W W' : World} {b : Nat} {B : List UInt8} (h : BodyAt W b B) (k : Below W.heap.size W W') : BodyAt W' b B := h.keep k.size (k.block b h.lt)
theorem BodyAt.grown {W W' : World} {b : Nat} {B : List UInt8} {row : Option Nat} (h : BodyAt W b B) (k : W.grownBy W' row) (hr : row ≠ some b) : BodyAt W' b B := h.keep k.size (k.block b h.lt (fun e => hr e.symm))
theorem BodyAt.slG {W : World} {b : Nat} {B : List UInt8} (h : BodyAt W b B) : SlG W.heap.size W (some ⟨b, 0, none⟩) (bcells B) := fun _ => ⟨b, 0, rfl, h.lt, fun j u hu => by rw [Nat.zero_add]; exact h.cells j u hu⟩
theorem own_body {w : World} {base n c : Nat} {a : Option Addr} {B : List UInt8} (o : w.ownsRow base 5 1 (.slice a n c) n (bcells B)) (hn : 0 < n) : ∃ b, a = some ⟨b, 0, none⟩ ∧ BodyAt w b B ∧ base ≤ b := by
  obtain ⟨b, hb⟩ := own_block (h := (a, n, c)) o hn
  simp only at hb
  subst hb
  have h1 := o.lt b rfl
  exact ⟨b, rfl, ⟨h1.2, fun j u hu => by
    have := own_cells (a := some ⟨b, 0, none⟩) o _ rfl j u hu
    rwa [Addr.add_lit, Nat.zero_add] at this⟩, h1.1⟩

theorem app_next {w W W' : World} {bb n : Nat} {B : List UInt8} {v v' : Value} {xs : List Value} (HBW : Below w.heap.size w W) (o : W.ownsRow w.heap.size 5 1 v n xs) (hb : BodyAt W bb B) (hv : v.ownBlock ≠ some bb) (g : W.grownBy W' v.ownBlock) (wh : v'.ownBlock = v.ownBlock ∨ ∀ k, v'.ownBlock = some k → W.heap.size ≤ k) :
    Below w.heap.size w W' ∧ BodyAt W' bb B ∧ v'.ownBlock ≠ some bb := by
  refine ⟨HBW.grown g HBW.size (fun q hq => (o.lt q hq).1), hb.grown g hv, fun e => ?_⟩
  rcases wh with h | h
  · rw [h] at e
    exact hv e
  · have h1 := h bb e
    have h2 := hb.lt
    omega
theorem refSum_at (n : Nat) (bb : Nat) (B : List UInt8) (c : Nat) (hm : B.length ≤ 9223372036854775807) (W : World) (hn : n = B.length) (h : BodyAt W bb B) :
    Calls Tryz.prog 33 #[.slice (some ⟨bb, 0, none⟩) n c] W fun e w' => e = .returned (.int .u32 ((sumN B : Nat) : Int)) ∧ W = w' := by
  subst hn
  exact refSum_any (some ⟨bb, 0, none⟩) B c hm W h.slG

set_option maxRecDepth 100000 in
set_option maxHeartbeats 4000000 in
theorem refPut_any (ao : Option Addr) (l : List FR) (c : Nat) (hm : l.length ≤ 9223372036854775807) (w : World) (hs : SlFr w.heap.size w ao l) (hl : (l.flatMap frB).length ≤ 140737488355328) :
    Calls Tryz.prog 12 #[.slice ao l.length c] w (PuttedP (putF l) w) := by
  obtain ⟨i0, hi, hz0, hz1, hz2⟩ := info_parts infoB
  have HS := Lib.hid hs
  have HL := Lib.hid hl
  clear hs hl
  go_enter Tryz.func12, Tryz.ntmps12
  go_wp2_with fail
  go_loopw [4, 5] (fun v i wr => ∃ (j : Nat) (a0 : Option Addr) (c0 : Nat) (L : List UInt8), j ≤ l.length ∧ i = .int .i64 j ∧ v = .slice a0 L.length c0 ∧ Hid (L = (l.take j).flatMap frB) ∧ Hid (OkFs (l.take j)) ∧ Hid (wr.ownsRow w.heap.size 5 1 (.slice a0 L.length c0) L.length (bcells L)) ∧ Hid (Below w.heap.size w wr)) (fun _ i _ => l.length - (intOf i).toNat)
  case atStart => exact ⟨0, none, 0, [], by omega, rfl, rfl, rfl, (fun f hf => by simp at hf), World.ownsRow_nil _ _ _ _, Below.refl _ _⟩
  case round =>
    obtain ⟨j, a0, c0, L, hj, rfl, rfl, HLe, HOk, HO, HB⟩ := hrel
    by_cases hlt : j < l.length
    · obtain ⟨sb, off, rfl, hsb, hc⟩ := (HS.out.below HB.out).at (by omega)
      obtain ⟨a1, c1, k1, k2, hx, hn⟩ := hc j hlt
      have HT := Lib.hid (flat_take l j hlt)
      have HLs := Lib.hid (flat_take_le l j hlt)
      have HOk1 : Hid (faultF l[j] = 0 → OkFs (l.take (j + 1))) := fun h0 f hf => by
        rw [List.take_add_one, List.getElem?_eq_getElem hlt] at hf
        rcases List.mem_append.1 hf with hf | hf
        · exact HOk.out f hf
        · obtain rfl : f = l[j] := by simpa using hf
          exact h0
      have HBad : Hid (faultF l[j] ≠ 0 → putF l = ([], faultF l[j])) := fun h0 => putF_bad l j hlt HOk.out h0
      have HX := Lib.hid (And.intro hx (And.intro hsb hn))
      have hjl : (j : Int) < (l.length : Int) := by omega
      clear hc hx hn hsb
      generalize (l[j]'hlt) = f at k1 k2 HT HOk1 HBad HX HLs
      obtain ⟨k, d⟩ := f
      simp only at k1 k2 HX
      by_cases h0 : k < 0
      · have HBd := Lib.hid (HBad.out (by unfold faultF; rw [if_pos (Or.inl h0)]; decide))
        have HF : Hid (faultF (k, d) = 2) := by unfold Hid faultF; rw [if_pos (Or.inl h0)]
        clear HBad HT HOk1 HX HLs
        have hd : decide (k < 0) = true := by simpa using h0
        go_wp2_with fail
        go_ret2
        rw [HBd.out, HF.out]
        exact ⟨none, 0, rfl, World.ownsRow_nil _ _ _ _, HB.out⟩
      · by_cases h1 : 255 < k
        · have HBd := Lib.hid (HBad.out (by unfold faultF; rw [if_pos (Or.inr h1)]; decide))
          have HF : Hid (faultF (k, d) = 2) := by unfold Hid faultF; rw [if_pos (Or.inr h1)]
          clear HBad HT HOk1 HX HLs
          have hd : decide (k < 0) = false := by simpa using h0
          go_wp2_with fail
          go_ret2
          rw [HBd.out, HF.out]
          exact ⟨none, 0, rfl, World.ownsRow_nil _ _ _ _, HB.out⟩
        · by_cases h2 : 1048576 < d.length
          · have hnn : ¬ (k < 0 ∨ 255 < k) := by omega
            have HF : Hid (faultF (k, d) = 3) := by unfold Hid faultF; simp only; rw [if_neg hnn, if_pos h2]
            have HBd := Lib.hid (HBad.out (by rw [HF.out]; decide))
            clear HBad HT HOk1 HX HLs hnn
            have hd : decide (k < 0) = false := by simpa using h0
            have hd2 : (1048576 : Int) < (d.length : Int) := by omega
            go_wp2_with fail
            go_ret2
            rw [HBd.out, HF.out]
            exact ⟨none, 0, rfl, World.ownsRow_nil _ _ _ _, HB.out⟩
          · have HF : Hid (faultF (k, d) = 0) := ok_fault ⟨by simp only; omega, by simp only; omega, by simp only; omega⟩
            have hd : decide (k < 0) = false := by simpa using h0
            have hd2 : ¬ (1048576 : Int) < (d.length : Int) := by omega
            have hku : IntKind.u8.wrap k = k := by rw [IntKind.wrap_u8']; omega
            have hdu : IntKind.u32.wrap (d.length : Int) = (d.length : Int) := by rw [IntKind.wrap_u32']; omega
            have HCs : Hid (∀ W, Below wr.heap.size wr W → ∀ ad, a1 = some ad → ∀ j u, (bcells d)[j]? = some u → W.cell? (ad.add j) = some u) := fun W hW => ((HX.out.1.up (hW.mono HB.out.size) (Nat.le_trans HB.out.size hW.size)).slB HX.out.2.2).cells
            have HNo : Hid (a1 = none → d.length = 0 ∧ c1 = 0) := fun e => by
              have h := (HX.out.1.up (Below.refl _ _) HB.out.size).slB HX.out.2.2
              exact ⟨by rw [(h.nil e).1]; rfl, (h.nil e).2⟩
            have hdl : d.length ≤ 1048576 := by omega
            have HDl := Lib.hid hdl
            have hsl : sb < wr.heap.size := Nat.lt_of_lt_of_le HX.out.2.1 HB.out.size
            have hne : sb ≠ wr.heap.size := by omega
            clear HBad hdl
            go_wp2_with fail
            go_region_law (refine step_append_any rfl (.tmp 40) (.tmp 45) 26 rfl wr.heap.size 5 i0 (.int .u8 0) 1 1 Tryz.underlying26 hi hz0 hz1 hz2 rfl (by decide) _ 1 _ rfl (owns_lit1 _ _ _ (Nat.le_refl _)) a1 d.length c1 (bcells d) rfl (by rw [bcells_length, Nat.mul_one]) HNo.out (HCs.out _ ((Below.refl wr.heap.size wr).drew.alloc (Nat.le_refl _) _)) (Lib.byteCells_one _) (by have := HDl.out; unfold maxLen; omega) (by have := HDl.out; omega) (by simp) ?_; intro v9 w9 hown9 hgrow9)
            all_goals
              have hB9 : Below wr.heap.size wr w9 := ((Below.refl wr.heap.size wr).drew.alloc (Nat.le_refl _) _).grown hgrow9 (by simp) (fun k hk => Nat.le_of_eq (Option.some.inj hk))
              obtain ⟨B, hBd⟩ : ∃ B, B = octI k :: d := ⟨_, rfl⟩
              have e1 : [Value.int .u8 k] ++ bcells d = bcells B := by
                rw [hBd]
                show _ = Value.int .u8 ((octI k).toNat : Int) :: bcells d
                rw [oct_toNat k ⟨h0, h1⟩]
                rfl
              have e2 : 1 + d.length = B.length := by rw [hBd, List.length_cons]; omega
              rw [e1, e2] at hown9
              obtain ⟨ab, cb, rfl⟩ := owns_slice hown9
              obtain ⟨bb, rfl, hbody, hbbw⟩ := own_body hown9 (by omega)
              have hcap := (owns_cap hown9).1
              have h63 := HLs.out
              rw [frB_length, ← HLe.out] at h63
              have h64 := HL.out
              have HLn := Lib.hid (show L.length + (9 + d.length) ≤ 140737488355328 by simp only at h63; omega)
              have hb4 := b4_cells d.length (by omega)
              have HF4 := Lib.hid hb4
              have HBl := Lib.hid (And.intro hBd (And.intro e1 e2))
              have HHp := Lib.hid hcap
              have hown9' := owns_below HO.out hB9
              have HB9 := Lib.hid (HB.out.trans (hB9.mono HB.out.size))
              have hap9 : (Value.slice a0 L.length c0).ownBlock ≠ some bb := fun e => by
                have := (HO.out.lt bb e).2
                omega
              have HBo := Lib.hid hbody
              have k3 : w9.cell? ⟨sb, off + j * 2 + 1, none⟩ = some (.slice a1 d.length c1) := ((bcell hB9).1 sb _ hsl).trans k2
              have HAp := Lib.hid hap9
              have HO9 := Lib.hid hown9'
              clear hown9 hgrow9 hB9 hbody hbbw hcap h63 h64 hb4 e1 e2 hBd hown9' hap9 k1 k2 hku HCs HNo HO HB
              go_wp2_with (first
                | (go_at_call 32; refine (four_any d.length (by have := HDl.out; omega) _).mono ?_; rintro e w' ⟨rfl, rfl⟩)
                | (at_builtin; refine wpList_append_apart _ rfl (.tmp 47) (.tmp 55) 26 rfl w.heap.size 5 i0 (.int .u8 0) 1 1 Tryz.underlying26 hi hz0 hz1 hz2 rfl (by decide) _ L.length (bcells L) rfl (World.ownsRow.alloc HO9.out _) (some ⟨w9.heap.size, 0, none⟩) 4 4 (bcells (be4 d.length)) rfl (by rw [bcells_length]; rfl) (fun h => by cases h) (fun ad had i u hu => by obtain rfl := Option.some.inj had; rw [Addr.add_lit, Nat.zero_add]; exact cells_made w9 _ _ i u (by rw [HF4.out] at hu; rwa [Array.getElem?_toList] at hu)) (Lib.byteCells_one _) (by have := HLn.out; unfold maxLen; omega) (by have := HLn.out; omega) (Nat.le_trans HB9.out.size (below_own _).size) ?_; intro v10 w10 hown10 hgrow10 hwh10; obtain ⟨a10, c10, rfl⟩ := owns_slice hown10; refine Hid.out ?_))
              obtain ⟨n1, n2, n3⟩ := app_next (HB9.out.trans ((below_own _).mono HB9.out.size)) (World.ownsRow.alloc HO9.out _) (HBo.out.below (below_own _)) HAp.out hgrow10 hwh10
              rw [← bcells_append] at hown10
              have hk0 : w10.cell? ⟨bb, 0, none⟩ = some (.int .u8 k) := n2.cells 0 _ (by rw [← HBl.out.2.1]; rfl)
              have HB10 := Lib.hid n1
              have HBo10 := Lib.hid n2
              have HAp10 := Lib.hid n3
              have HO10 := Lib.hid hown10
              have hBp : (0 : Int) < (B.length : Int) := by have := HBl.out.2.2; omega
              clear n1 n2 n3 hown10 hgrow10 hwh10 HB9 HO9 HBo HAp HF4 k3
              refine Lib.hid ?_
              go_wp2_with (at_builtin; go_must (refine wpList_append_apart _ rfl (.tmp 57) (.tmp 61) 26 rfl w.heap.size 5 i0 (.int .u8 0) 1 1 Tryz.underlying26 hi hz0 hz1 hz2 rfl (by decide) _ (L.length + 4) (bcells (L ++ be4 d.length)) rfl (World.ownsRow.alloc HO10.out _) (some ⟨w10.heap.size, 0, none⟩) 1 1 [.int .u8 k] rfl rfl (fun h => by cases h) (fun ad had i u hu => by obtain rfl := Option.some.inj had; rw [Addr.add_lit, Nat.zero_add]; exact cells_made w10 _ _ i u (by simpa using hu)) (fun u hu => by simp at hu; subst hu; rfl) (by have := HLn.out; unfold maxLen; omega) (by have := HLn.out; omega) (Nat.le_trans HB10.out.size (below_own _).size) ?_; intro v11 w11 hown11 hgrow11 hwh11; obtain ⟨a11, c11, rfl⟩ := owns_slice hown11; refine Hid.out ?_))
              obtain ⟨n1, n2, n3⟩ := app_next (HB10.out.trans ((below_own _).mono HB10.out.size)) (World.ownsRow.alloc HO10.out _) (HBo10.out.below (below_own _)) HAp10.out hgrow11 hwh11
              have e3 : [Value.int .u8 k] = bcells [octI k] := by
                show _ = [Value.int .u8 ((octI k).toNat : Int)]
                rw [oct_toNat k ⟨h0, h1⟩]
              rw [e3, ← bcells_append] at hown11
              have HB11 := Lib.hid n1
              have HBo11 := Lib.hid n2
              have HAp11 := Lib.hid n3
              have HO11 := Lib.hid hown11
              have HF4 := Lib.hid (b4_cells (sumN B) (sumN_lt _))
              have KS := Lib.hid (refSum_at B.length bb B cb (by have := HBl.out.2.2; have := HDl.out; omega) w11 rfl n2)
              clear n1 n2 n3 hown11 hgrow11 hwh11 HB10 HO10 HBo10 HAp10 e3 hk0
              refine Lib.hid ?_
              go_wp2_with (first
                | (go_at_call 33; refine (KS.out).mono ?_; rintro e w' ⟨rfl, rfl⟩)
                | (go_at_call 32; refine (four_any (sumN B) (sumN_lt _) _).mono ?_; rintro e w' ⟨rfl, rfl⟩)
                | (at_builtin; refine wpList_append_apart _ rfl (.tmp 63) (.tmp 66) 26 rfl w.heap.size 5 i0 (.int .u8 0) 1 1 Tryz.underlying26 hi hz0 hz1 hz2 rfl (by decide) _ (L.length + 4 + 1) (bcells (L ++ be4 d.length ++ [octI k])) rfl (World.ownsRow.alloc HO11.out _) (some ⟨w11.heap.size, 0, none⟩) 4 4 (bcells (be4 (sumN B))) rfl (by rw [bcells_length]; rfl) (fun h => by cases h) (fun ad had i u hu => by obtain rfl := Option.some.inj had; rw [Addr.add_lit, Nat.zero_add]; exact cells_made w11 _ _ i u (by rw [HF4.out] at hu; rwa [Array.getElem?_toList] at hu)) (Lib.byteCells_one _) (by have := HLn.out; unfold maxLen; omega) (by have := HLn.out; omega) (Nat.le_trans HB11.out.size (below_own _).size) ?_; intro v12 w12 hown12 hgrow12 hwh12; obtain ⟨a12, c12, rfl⟩ := owns_slice hown12; refine Hid.out ?_))
              obtain ⟨n1, n2, n3⟩ := app_next (HB11.out.trans ((below_own _).mono HB11.out.size)) (World.ownsRow.alloc HO11.out _) (HBo11.out.below (below_own _)) HAp11.out hgrow12 hwh12
              rw [← bcells_append] at hown12
              have HB12 := Lib.hid n1
              have HBo12 := Lib.hid n2
              have HO12 := Lib.hid hown12
              have HCt : Hid (∀ ad, (if cb = 1 then some (⟨bb, 0, none⟩ : Addr) else some ⟨bb, 1, none⟩) = some ad → ∀ i u, (bcells d)[i]? = some u → w12.cell? (ad.add i) = some u) := fun ad had i u hu => by
                by_cases hcb : cb = 1
                · have h5 := HBl.out.2.2
                  have h6 := HHp.out
                  obtain rfl : d = [] := List.eq_nil_of_length_eq_zero (by omega)
                  simp [Lib.byteCells] at hu
                · rw [if_neg hcb] at had
                  obtain rfl := Option.some.inj had
                  rw [Addr.add_lit]
                  exact n2.cells (1 + i) u (by rw [← HBl.out.2.1, Nat.add_comm 1 i]; exact hu)
              have hB1 : (1 : Int) ≤ (B.length : Int) := by omega
              have hB2 : (B.length : Int) ≤ (cb : Int) := by have := HHp.out; omega
              clear n1 n2 n3 hown12 hgrow12 hwh12 HB11 HO11 HBo11 HAp11 KS
              refine Lib.hid ?_
              go_wp2_with (at_builtin; go_must (refine wpList_append_apart _ rfl (.tmp 68) (.tmp 70) 26 rfl w.heap.size 5 i0 (.int .u8 0) 1 1 Tryz.underlying26 hi hz0 hz1 hz2 rfl (by decide) _ (L.length + 4 + 1 + 4) (bcells (L ++ be4 d.length ++ [octI k] ++ be4 (sumN B))) rfl HO12.out (if cb = 1 then some ⟨bb, 0, none⟩ else some ⟨bb, 1, none⟩) (B.length - 1) (cb - 1) (bcells d) rfl (by rw [bcells_length]; have := HBl.out.2.2; omega) (fun h => by split at h <;> cases h) (HCt.out) (Lib.byteCells_one _) (by have := HLn.out; have := HBl.out.2.2; unfold maxLen; omega) (by have := HLn.out; have := HBl.out.2.2; omega) HB12.out.size ?_; intro v13 w13 hown13 hgrow13 hwh13; obtain ⟨a13, c13, rfl⟩ := owns_slice hown13; refine Hid.out ?_))
              all_goals
                have e5 : L.length + 4 + 1 + 4 + (B.length - 1) = ((l.take (j + 1)).flatMap frB).length := by
                  rw [HT.out, List.length_append, frB_length, ← HLe.out]
                  have := HBl.out.2.2
                  simp only
                  omega
                have e6 : L ++ be4 d.length ++ [octI k] ++ be4 (sumN B) ++ d = (l.take (j + 1)).flatMap frB := by
                  rw [HT.out, ← HLe.out, HBl.out.1]
                  simp only [frB, sumF, List.append_assoc, List.cons_append, List.nil_append]
                rw [← bcells_append, e6, e5] at hown13
                rw [e5]
                obtain ⟨L2, hL2⟩ : ∃ L2, L2 = (l.take (j + 1)).flatMap frB := ⟨_, rfl⟩
                rw [← hL2] at hown13 ⊢
                have HO13 := Lib.hid hown13
                have HB13 : Hid (Below w.heap.size w w13) := HB12.out.grown hgrow13 HB12.out.size (fun q hq => (HO12.out.lt q hq).1)
                have HL2 := Lib.hid hL2
                clear hown13 hgrow13 hwh13 HB12 HO12 HBo12 HCt e5 e6 hL2 hB1 hB2 hBp HF4
                refine Lib.hid ?_
                go_wp2_with fail
                go_roundw
                case rel => exact ⟨j + 1, a13, c13, L2, by omega, by go_num, rfl, HL2, HOk1.out HF.out, HO13, HB13⟩
                case measure => simp [intOf]; omega
    · obtain rfl : j = l.length := by omega
      have hE := HLe.out
      have hOk := HOk.out
      rw [List.take_length] at hE hOk
      have HP := Lib.hid (putF_ok l hOk)
      have HE := Lib.hid hE
      clear hE hOk HLe HOk
      go_wp2_with fail
      go_ret2
      rw [HP.out, ← HE.out]
      exact ⟨a0, c0, rfl, HO.out, HB.out⟩
end Go.Proofs.YtagjipkoheimjaaGreatDoor
