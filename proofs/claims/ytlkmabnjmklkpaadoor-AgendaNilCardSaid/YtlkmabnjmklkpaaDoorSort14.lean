/- slices.SortFunc of matches, by the order's method value: rows of twelve at most (the insertion sort). -/
import Derived.Test.YtlkmabnjmklkpaaDoorMatch14
import Derived.Shelf.SlSortCmp.KitK
import Derived.Sort.LotA
namespace Go.Proofs.YtlkmabnjmklkpaaDoor
open Go.RowKit Go.Sort Go.Lib

/-- A match of the program's, as it lies in memory: its Ids' slice, and the sorted ones'. -/
abbrev MV := TK × (Option Addr × Nat) × (Option Addr × Nat)
section
variable {α : Type} [Inhabited α]
abbrev enc3 (f : α → MV) (x : α) : List Value := [.int .i64 (f x).1.1, .slice (f x).2.1.1 (f x).1.2.length (f x).2.1.2, .slice (f x).2.2.1 (f x).1.2.length (f x).2.2.2]
/-- What is asked of the comparison: in each world of the sort's it tells a number, draws and makes blocks alone. -/
def CmpM (f : α → MV) (ord : Value) (cf : α → α → Int) (g size : Nat) (w0 : World) : Prop :=
  ∀ (W : World) (dk : Array α), dk.size = size → SWK (enc3 f) 3 w0 g 0 dk W → ∀ x y : α, Calls Tryd.prog 28 #[ord, .agg #[.int .i64 (f x).1.1, .slice (f x).2.1.1 (f x).1.2.length (f x).2.1.2, .slice (f x).2.2.1 (f x).1.2.length (f x).2.2.2], .agg #[.int .i64 (f y).1.1, .slice (f y).2.1.1 (f y).1.2.length (f y).2.1.2, .slice (f y).2.2.1 (f y).1.2.length (f y).2.2.2]] W (NumG (cf x y) W)
theorem SWK.cells3 {f : α → MV} {w0 W : World} {g : Nat} {d0 dk : Array α} (h : SWK (enc3 f) 3 w0 g 0 dk W) (R : RowK (enc3 f) 3 w0 g 0 d0) (hs : dk.size = d0.size) (i : Nat) (hi : i < dk.size) :
    W.cell? ⟨g, i * 3, none⟩ = some (.int .i64 (f dk[i]!).1.1) ∧ W.cell? ⟨g, i * 3 + 1, none⟩ = some (.slice (f dk[i]!).2.1.1 (f dk[i]!).1.2.length (f dk[i]!).2.1.2) ∧ W.cell? ⟨g, i * 3 + 2, none⟩ = some (.slice (f dk[i]!).2.2.1 (f dk[i]!).1.2.length (f dk[i]!).2.2.2) ∧ W.frozen? ⟨g, i * 3, none⟩ = false ∧ W.frozen? ⟨g, i * 3 + 1, none⟩ = false ∧ W.frozen? ⟨g, i * 3 + 2, none⟩ = false := by
  have hh := h.holds R.hblk R.hH hs
  have hc := HoldsK.cells hh R.hk hi
  have h0 := hc 0 (.int .i64 (f dk[i]!).1.1) rfl
  have h1 := hc 1 (.slice (f dk[i]!).2.1.1 (f dk[i]!).1.2.length (f dk[i]!).2.1.2) rfl
  have h2 := hc 2 (.slice (f dk[i]!).2.2.1 (f dk[i]!).1.2.length (f dk[i]!).2.2.2) rfl
  simp only [Addr.add_lit, Nat.zero_add, Nat.add_zero] at h0 h1 h2
  have hz : (flatK (enc3 f) 3 dk).size = dk.size * 3 := size_flatK _ _ _
  have hf : ∀ q, q < 3 → W.frozen? ⟨g, i * 3 + q, none⟩ = false := fun q hq => by
    have := (hh (i * 3 + q) (by rw [hz]; omega)).2
    rwa [Nat.zero_add] at this
  exact ⟨h0, h1, h2, hf 0 (by omega), hf 1 (by omega), hf 2 (by omega)⟩

set_option maxRecDepth 100000 in
set_option maxHeartbeats 4000000 in
theorem insM_any (f : α → MV) (ord : Value) (cf : α → α → Int) (g cap n a b : Nat) (d d0 : Array α) (w0 w : World) (R : RowK (enc3 f) 3 w0 g 0 d0) (hd : d.size = n) (hd0 : d0.size = n) (hab : a ≤ b) (hb : b ≤ n) (hbig : n ≤ 1000000)
    (hC : CmpM f ord cf g n w0) (hW : SWK (enc3 f) 3 w0 g 0 d w) :
    Calls Tryd.prog 50 #[.slice (some ⟨g, 0, none⟩) n cap, .int .i64 a, .int .i64 b, .func (.func 28) #[ord] #[]] w fun e w' => e = .returned (.tuple #[]) ∧ SWK (enc3 f) 3 w0 g 0 (insertionSort (ltOf cf) d a b) w' := by
  have mixed : Tryd.prog.follows .mixedOrders = true := by kernel_rfl
  have eg : ∀ args w, (callFunc 28 args).run Tryd.prog w = .ok (.enter 28 args) w := enters_of Tryd.func28 (by kernel_rfl) rfl
  have HR : Aside (RowK (enc3 f) 3 w0 g 0 d0) := R
  have HC : Aside (CmpM f ord cf g n w0) := hC
  have HW : Aside (SWK (enc3 f) 3 w0 g 0 d w) := hW
  have HD : Aside (d.size = n ∧ d0.size = n) := ⟨hd, hd0⟩
  clear R hC hW hd hd0
  go_enter Tryd.func50, Tryd.ntmps50
  go_wp2_with fail
  go_loopw [8] (fun vi wr => ∃ (i : Nat) (dk : Array α), vi = .int .i64 i ∧ a < i ∧ i ≤ b + 1 ∧ Aside (dk.size = n) ∧ Aside (SWK (enc3 f) 3 w0 g 0 dk wr) ∧ Aside (insOuter (ltOf cf) a b i dk = insOuter (ltOf cf) a b (a + 1) d)) (fun vi _ => b + 1 - (intOf vi).toNat)
  case atStart => exact ⟨a + 1, d, by go_num, by omega, by omega, HD.out.1, HW, rfl⟩
  case round =>
    obtain ⟨i, dk, rfl, hai, hib, hsk, HS, HO⟩ := hrel
    clear HW
    by_cases hlt : i < b
    · have hltz : (i : Int) < (b : Int) := by omega
      go_wp2_with fail
      go_loopw [9] (fun vj wr2 => ∃ (j : Nat) (dj : Array α), vj = .int .i64 j ∧ a ≤ j ∧ j ≤ i ∧ Aside (dj.size = n) ∧ Aside (SWK (enc3 f) 3 w0 g 0 dj wr2) ∧ Aside (insInner (ltOf cf) a j dj = insInner (ltOf cf) a i dk)) (fun vj _ => (intOf vj).toNat)
      case atStart => exact ⟨i, dk, rfl, by omega, Nat.le_refl _, hsk, HS, rfl⟩
      case round =>
        obtain ⟨j, dj, rfl, haj, hji, hsj, HJ, HI⟩ := hrel
        clear HS
        have OUT : Aside ((j ≤ a ∨ ltOf cf dj[j]! dj[j - 1]! = false) → Aside (insOuter (ltOf cf) a b (i + 1) dj = insOuter (ltOf cf) a b (a + 1) d)) := fun hs => by
          show _ = _
          rw [← HO.out, insOuter_go _ _ _ _ _ hlt, ← HI.out, insInner_stop _ _ _ _ hs]
        by_cases hja : a < j
        · obtain ⟨jp, rfl⟩ : ∃ jp, j = jp + 1 := ⟨j - 1, by omega⟩
          have hjaz : (a : Int) < ((jp + 1 : Nat) : Int) := by omega
          have hwp : IntKind.i64.wrap (jp : Int) = (jp : Int) := by rw [IntKind.wrap_i64]; omega
          have jz : (jp : Int) + 1 < (n : Int) := by omega
          have jz1 : (jp : Int) < (n : Int) := by omega
          have hjaz' : (a : Int) < (jp : Int) + 1 := by omega
          have p0 : (0 : Int) ≤ (jp : Int) + 1 := by omega
          have e0 : ((jp : Int) + 1).toNat = jp + 1 := by omega
          have cj : ∀ n os, _ := fun n os => SWK.cells3 (HJ.out.grown n os) HR.out (hsj.out.trans HD.out.2.symm) (jp + 1) (by rw [hsj.out]; omega)
          have cp : ∀ n os, _ := fun n os => SWK.cells3 (HJ.out.grown n os) HR.out (hsj.out.trans HD.out.2.symm) jp (by rw [hsj.out]; omega)
          have hcg : ∀ n os, Calls Tryd.prog 28 #[ord, .agg #[.int .i64 (f dj[jp + 1]!).1.1, .slice (f dj[jp + 1]!).2.1.1 (f dj[jp + 1]!).1.2.length (f dj[jp + 1]!).2.1.2, .slice (f dj[jp + 1]!).2.2.1 (f dj[jp + 1]!).1.2.length (f dj[jp + 1]!).2.2.2], .agg #[.int .i64 (f dj[jp]!).1.1, .slice (f dj[jp]!).2.1.1 (f dj[jp]!).1.2.length (f dj[jp]!).2.1.2, .slice (f dj[jp]!).2.2.1 (f dj[jp]!).1.2.length (f dj[jp]!).2.2.2]] (grow (wr.drewN n) os) fun e w' => e = .returned (.int .i64 (cf dj[jp + 1]! dj[jp]!)) ∧ ∃ q os'', w' = grow ((grow (wr.drewN n) os).drewN q) os'' := fun n os => HC.out _ dj hsj.out (HJ.out.grown n os) _ _
          have cj0 : ∀ n os, (grow (wr.drewN n) os).cell? ⟨g, (jp + 1) * 3, none⟩ = some (.int .i64 (f dj[jp + 1]!).1.1) := fun n os => (cj n os).1
          have cj1 : ∀ n os, (grow (wr.drewN n) os).cell? ⟨g, (jp + 1) * 3 + 1, none⟩ = some (.slice (f dj[jp + 1]!).2.1.1 (f dj[jp + 1]!).1.2.length (f dj[jp + 1]!).2.1.2) := fun n os => (cj n os).2.1
          have cj2 : ∀ n os, (grow (wr.drewN n) os).cell? ⟨g, (jp + 1) * 3 + 2, none⟩ = some (.slice (f dj[jp + 1]!).2.2.1 (f dj[jp + 1]!).1.2.length (f dj[jp + 1]!).2.2.2) := fun n os => (cj n os).2.2.1
          have cp0 : ∀ n os, (grow (wr.drewN n) os).cell? ⟨g, jp * 3, none⟩ = some (.int .i64 (f dj[jp]!).1.1) := fun n os => (cp n os).1
          have cp1 : ∀ n os, (grow (wr.drewN n) os).cell? ⟨g, jp * 3 + 1, none⟩ = some (.slice (f dj[jp]!).2.1.1 (f dj[jp]!).1.2.length (f dj[jp]!).2.1.2) := fun n os => (cp n os).2.1
          have cp2 : ∀ n os, (grow (wr.drewN n) os).cell? ⟨g, jp * 3 + 2, none⟩ = some (.slice (f dj[jp]!).2.2.1 (f dj[jp]!).1.2.length (f dj[jp]!).2.2.2) := fun n os => (cp n os).2.2.1
          clear cj cp
          have HX : Aside (∃ x y, x = dj[jp + 1]! ∧ y = dj[jp]!) := ⟨_, _, rfl, rfl⟩
          by_cases hlv : cf dj[jp + 1]! dj[jp]! < 0
          · have hd : decide (cf dj[jp + 1]! dj[jp]! < 0) = true := decide_eq_true hlv
            go_wp2_with fail
            go_quiet_grown (first | (go_at_fn 28; refine Calls.grown_of (hcg _ _)) | (go_at_call 28; refine Calls.grown_of (hcg _ _)))
            go_wp2_with fail
            have hq := HJ.out.grown nq osq
            clear cj0 cj1 cj2 cp0 cp1 cp2 hcg
            generalize grow (wr.drewN nq) osq = wq at hq ⊢
            have HQ : Aside (SWK (enc3 f) 3 w0 g 0 dj wq) := hq
            obtain ⟨j0, j1, j2, f0, f1, f2⟩ := SWK.cells3 hq.drew HR.out (hsj.out.trans HD.out.2.symm) (jp + 1) (by rw [hsj.out]; omega)
            obtain ⟨p0', p1', p2', g0, g1, g2⟩ := SWK.cells3 hq.drew HR.out (hsj.out.trans HD.out.2.symm) jp (by rw [hsj.out]; omega)
            have HLV : Aside (ltOf cf dj[jp + 1]! dj[jp]! = true) := hd
            clear hq hlv hd
            generalize hX : f dj[jp + 1]! = X at j0 j1 j2 p0' p1' p2' ⊢
            generalize hY : f dj[jp]! = Y at j0 j1 j2 p0' p1' p2' ⊢
            have HXY : Aside (f dj[jp + 1]! = X ∧ f dj[jp]! = Y) := ⟨hX, hY⟩
            clear hX hY
            obtain ⟨⟨kx, lx⟩, ⟨ax, cx⟩, ⟨dx, ex⟩⟩ := X
            obtain ⟨⟨ky, ly⟩, ⟨ay, cy⟩, ⟨dy, ey⟩⟩ := Y
            simp only at j0 j1 j2 p0' p1' p2'
            have a0 : wq.frozen? ⟨g, (jp + 1) * 3, none⟩ = false := f0
            have a1 : wq.frozen? ⟨g, (jp + 1) * 3 + 1, none⟩ = false := f1
            have a2 : wq.frozen? ⟨g, (jp + 1) * 3 + 2, none⟩ = false := f2
            have b0 : wq.frozen? ⟨g, jp * 3, none⟩ = false := g0
            have b1 : wq.frozen? ⟨g, jp * 3 + 1, none⟩ = false := g1
            have b2 : wq.frozen? ⟨g, jp * 3 + 2, none⟩ = false := g2
            have cc0 : wq.cell? ⟨g, (jp + 1) * 3, none⟩ = _ := j0
            have cc1 : wq.cell? ⟨g, (jp + 1) * 3 + 1, none⟩ = _ := j1
            have cc2 : wq.cell? ⟨g, (jp + 1) * 3 + 2, none⟩ = _ := j2
            have dd0 : wq.cell? ⟨g, jp * 3, none⟩ = _ := p0'
            have dd1 : wq.cell? ⟨g, jp * 3 + 1, none⟩ = _ := p1'
            have dd2 : wq.cell? ⟨g, jp * 3 + 2, none⟩ = _ := p2'
            clear f0 f1 f2 g0 g1 g2 j0 j1 j2 p0' p1' p2'
            go_big_region_o
            clear a0 a1 a2 b0 b1 b2 cc0 cc1 cc2 dd0 dd1 dd2
            all_goals go_wp2
            go_roundw
            case measure => simp [intOf]
            case rel =>
              refine ⟨jp, swp dj (jp + 1) jp, by go_num, by omega, by omega, (by show _ = _; rw [size_swp]; exact hsj.out), ?_, ?_⟩
              · have h := (HQ.out.swap HR.out.hk HR.out.hblk (jp + 1) jp (by rw [hsj.out]; omega) (by rw [hsj.out]; omega)).drew
                simp only [HXY.out.1, HXY.out.2, World.setCells, Nat.zero_add] at h
                exact h
              · show _ = _
                have := insInner_go (lt := ltOf cf) a (jp + 1) dj hja (by simp only [Nat.add_sub_cancel]; exact HLV.out)
                simp only [Nat.add_sub_cancel] at this
                rw [← HI.out, this]
          · have hd : decide (cf dj[jp + 1]! dj[jp]! < 0) = false := decide_eq_false hlv
            go_wp2_with fail
            go_quiet_grown (first | (go_at_fn 28; refine Calls.grown_of (hcg _ _)) | (go_at_call 28; refine Calls.grown_of (hcg _ _)))
            have hq := HJ.out.grown nq osq
            have hO := OUT.out (Or.inr (by simp only [Nat.add_sub_cancel]; exact hd))
            clear cj0 cj1 cj2 cp0 cp1 cp2 hcg
            generalize grow (wr.drewN nq) osq = wq at hq ⊢
            have HQ : Aside (SWK (enc3 f) 3 w0 g 0 dj wq) := hq
            clear hq
            go_wp2
            go_roundw
            case measure => simp [intOf]; omega
            case rel => exact ⟨i + 1, dj, by go_num, by omega, by omega, hsj, HQ, hO⟩
        · have hjaz : decide ((a : Int) < (j : Int)) = false := decide_eq_false (by omega)
          have hjaz2 : decide (a < j) = false := decide_eq_false (by omega)
          have hO := OUT.out (Or.inl (by omega))
          have HQ : Aside (SWK (enc3 f) 3 w0 g 0 dj wr.drew) := HJ.out.drew
          go_wp2_with fail
          go_big_region_o
          all_goals go_wp2
          go_roundw
          case measure => simp [intOf]; omega
          case rel => exact ⟨i + 1, dj, by go_num, by omega, by omega, hsj, HQ, hO⟩
    · have hltz : decide ((i : Int) < (b : Int)) = false := decide_eq_false (by omega)
      have hltz2 : decide (i < b) = false := decide_eq_false (by omega)
      have hS : SWK (enc3 f) 3 w0 g 0 (insertionSort (ltOf cf) d a b) wr := by
        unfold insertionSort
        rw [← HO.out, insOuter_stop _ _ _ _ _ hlt]
        exact HS.out
      have HSS : Aside (SWK (enc3 f) 3 w0 g 0 (insertionSort (ltOf cf) d a b) wr) := hS
      clear hS
      go_wp2
      go_end0
      exact ⟨rfl, HSS.out⟩
end
end Go.Proofs.YtlkmabnjmklkpaaDoor
