/- ScanBack: tokens written with blanks, or comments, between are told as they were. -/
import Derived.Test.YtebfclanamoldaaDoorBackQ
import Derived.Test.YtebfclanamoldaaDoorPick
namespace Go.Proofs.YtebfclanamoldaaDoor
open Go.RowKit

theorem placed_text {all : Bs} : ∀ {ys : List Y} {p : Nat}, Placed all p ys → ∀ y ∈ ys, y.1.text.length ≤ all.length := by
  intro ys
  induction ys with
  | nil => intro p _ y hy; cases hy
  | cons x ys ih =>
    intro p h y hy
    obtain ⟨_, h2, _, h4⟩ := h
    rcases List.mem_cons.1 hy with rfl | hy
    · omega
    · exact ih h4 y hy
theorem writtenB_len (g : Bs) (M : Nat) : ∀ ys : List Y, (∀ y ∈ ys, y.1.text.length ≤ M) → (writtenB g ys).length ≤ ys.length * (1 + M + g.length) ∧ ys.length * g.length ≤ (writtenB g ys).length := by
  intro ys
  induction ys with
  | nil => intro _; exact ⟨Nat.zero_le _, by simp⟩
  | cons x ys ih =>
    intro h
    obtain ⟨i1, i2⟩ := ih fun y hy => h y (List.mem_cons_of_mem _ hy)
    have h1 := h x List.mem_cons_self
    have h2 : (sigil x.1.kind).length ≤ 1 := by unfold sigil; split; simp; split <;> simp
    simp only [writtenB, List.length_append, List.length_cons]
    rw [Nat.add_mul, Nat.add_mul, Nat.one_mul, Nat.one_mul]
    omega

/-- What is told of what was written. -/
theorem told_back (l g : Bs) (hg : Between g) (hok : ∀ y ∈ seqF l.length (l.length + 1) l, y.1.err = 0) :
    ((writtenB g (seqF l.length (l.length + 1) l)).length > 16384 → toldOf (writtenB g (seqF l.length (l.length + 1) l)) = ([], 3, 0)) ∧
    (¬ (writtenB g (seqF l.length (l.length + 1) l)).length > 16384 → ∃ zs : List Y, toldOf (writtenB g (seqF l.length (l.length + 1) l)) = (zs, 0, 0) ∧ zs.map kt = (seqF l.length (l.length + 1) l).map kt) := by
  obtain ⟨q, hq, hgq⟩ := seq_good l.length (l.length + 1) l (Nat.lt_succ_self _) hok
  constructor
  · intro h
    unfold toldOf
    rw [if_pos h]
  · intro h
    rw [hq] at h ⊢
    obtain ⟨b, r, hbr, _⟩ := hg.first
    have hgl : 1 ≤ g.length := by rw [hbr]; simp
    have hlow : (q ++ [endY l.length]).length ≤ (writtenB g (q ++ [endY l.length])).length := by
      have h1 : ∀ ys : List Y, ys.length ≤ (writtenB g ys).length := by
        intro ys
        induction ys with
        | nil => simp
        | cons x ys ih => simp only [writtenB, List.length_append, List.length_cons]; omega
      exact h1 _
    rw [List.length_append, List.length_singleton] at hlow
    -- the places are those of a source of another length: the end's place plays no part
    have hN : ∀ (N M f : Nat) (m : Bs), (seqF N f m).map kt = (seqF M f m).map kt ∧ ((∀ y ∈ seqF N f m, y.1.err = 0) → ∀ y ∈ seqF M f m, y.1.err = 0) := by
      intro N M f
      induction f with
      | zero => intro m; exact ⟨rfl, fun h => h⟩
      | succ f ih =>
        intro m
        rw [seqF_succ, seqF_succ]
        constructor
        · rw [List.map_cons, List.map_cons]
          split
          · rw [(ih _).1]; rfl
          · rfl
        · intro hh y hy
          rcases List.mem_cons.1 hy with rfl | hy
          · exact hh (tokT (skipS false m), N - (skipS false m).length) List.mem_cons_self
          · split at hy
            · rename_i hc
              exact (ih _).2 (fun z hz => hh z (List.mem_cons_of_mem _ (by rw [if_pos hc]; exact hz))) y hy
            · cases hy
    obtain ⟨b1, b2⟩ := back g hg l.length q ((writtenB g (q ++ [endY l.length])).length + 1) (by omega) hgq
    obtain ⟨c1, c2⟩ := hN l.length (writtenB g (q ++ [endY l.length])).length ((writtenB g (q ++ [endY l.length])).length + 1) (writtenB g (q ++ [endY l.length]))
    have c3 := c2 b2
    refine ⟨_, ?_, c1.symm.trans b1⟩
    unfold toldOf
    rw [if_neg h, List.find?_eq_none.2 (fun y hy => by simp [c3 y hy])]

theorem kt_get {zs ys : List Y} (h : zs.map kt = ys.map kt) (k : Nat) (hz : k < zs.length) (hy : k < ys.length) : (zs[k]).1.kind = (ys[k]).1.kind ∧ (zs[k]).1.text = (ys[k]).1.text := by
  have h1 : (zs.map kt)[k]? = (ys.map kt)[k]? := by rw [h]
  rw [List.getElem?_map, List.getElem?_map, List.getElem?_eq_getElem hz, List.getElem?_eq_getElem hy] at h1
  have h2 := Option.some.inj h1
  unfold kt at h2
  exact ⟨(Prod.mk.inj h2).1, (Prod.mk.inj h2).2⟩

abbrev btZ (nb : ByteArray) : List ByteArray := [⟨#[32]⟩, ⟨#[9, 13]⟩, ⟨#[10, 10]⟩, nb]

set_option maxRecDepth 100000 in
set_option maxHeartbeats 4000000 in
theorem scanBack_any (s : ByteArray) (wh : Int) (nt : ByteArray) (w : World) (he : Errs w) : Calls Tryd.prog 6 #[.string s, .int .i64 wh, .string nt] w (YesP w) := by
  have KA := Lib.hid (awake_any w he)
  have HE := Lib.hid he
  clear he
  by_cases hs : s.size ≤ 1500
  · have hs' : ¬ (1500 : Int) < (s.size : Int) := by omega
    have hs2 : decide ((1500 : Int) < (s.size : Int)) = false := by simp; omega
    by_cases hn : nt.size ≤ 30
    · have hn' : ¬ (30 : Int) < (nt.size : Int) := by omega
      have hn2 : decide ((30 : Int) < (nt.size : Int)) = false := by simp; omega
      have KT := Lib.hid (fun w' (h : Errs w') => tokens_any s w' h)
      have HLN : Hid (s.data.toList.length = s.size) := by unfold Hid; simp
      rcases told_cases s.data.toList with ⟨er, a, ht, hne, ha0, ha1⟩ | ⟨ht, hok, _⟩
      · rw [ht] at KT
        rw [HLN.out] at ha1
        have q0 : (er != 0) = true := by simpa using hne
        have d1 : decide (0 ≤ a) = true := by simpa using ha0
        have d2 : decide (a ≤ (s.size : Int)) = true := by simpa using ha1
        clear ht hne hs hn
        go_enter Tryd.func6, Tryd.ntmps6
        go_wp2_with (first
          | (go_at_call 8; refine (KA.out).mono ?_; rintro e w1 ⟨rfl, hb1⟩; have HB1 := Lib.hid hb1; clear hb1)
          | (go_at_call 9; refine (KT.out _ (HE.out.below HB1.out)).mono ?_; rintro e w2 ⟨ao, c, rfl, hrow, hb2⟩; have HB2 := Lib.hid (below_step HB1.out hb2); clear hb2 hrow))
        go_ret
        exact ⟨rfl, below_new HB2.out _⟩
      · rw [ht] at KT
        have HTB := Lib.hid (fun g hg => told_back s.data.toList g hg hok)
        obtain ⟨ys, hys⟩ : ∃ ys, ys = seqF s.data.toList.length (s.data.toList.length + 1) s.data.toList := ⟨_, rfl⟩
        have HYL : Hid (0 < ys.length ∧ ys.length ≤ 1501 ∧ ∀ y ∈ ys, y.1.text.length ≤ 1500) := by
          obtain ⟨q, hq⟩ := seq_last s.data.toList.length (s.data.toList.length + 1) s.data.toList (Nat.lt_succ_self _) hok
          have h1 := seq_len s.data.toList.length (s.data.toList.length + 1) s.data.toList
          have hp := seq_placed s.data.toList (s.data.toList.length + 1) 0 (Nat.zero_le _) (by rw [List.drop_zero]; exact hok)
          rw [List.drop_zero] at hp
          have h2 := HLN.out
          refine ⟨by rw [hys, hq, List.length_append]; simp, by rw [hys]; omega, fun y hy => ?_⟩
          rw [hys] at hy
          have := placed_text hp y hy
          omega
        rw [← hys] at KT HTB
        have HNN := Lib.hid hn
        clear ht hok hys hs
        go_enter Tryd.func6, Tryd.ntmps6
        go_wp2_with (first
          | (go_at_call 8; refine (KA.out).mono ?_; rintro e w1 ⟨rfl, hb1⟩; have HB1 := Lib.hid hb1; clear hb1)
          | (go_at_call 9; refine (KT.out _ (HE.out.below HB1.out)).mono ?_; rintro e w2 ⟨ao, c, rfl, hrow, hb2⟩; have HB2 := Lib.hid (below_step HB1.out hb2); have HRW := Lib.hid hrow; clear hb2 hrow))
        obtain ⟨g, rfl, _, hg2, _, hcell⟩ := told_cells HRW.out HYL.out.1
        have HC : Hid (∀ (j : Nat) (u : Value), (lexCs ys)[j]? = some u → (w2.alloc (.cells #[.int .i64 0, .int .i64 0] 26)).cell? ⟨g, j, none⟩ = some u) := fun j u hu => (World.cell?_alloc_lt w2 _ ⟨g, j, none⟩ hg2).trans (hcell j u hu)
        have HB3 : Hid (Below w.heap.size w (w2.alloc (.cells #[.int .i64 0, .int .i64 0] 26))) := below_new HB2.out _
        have HG : Hid (g < (w2.alloc (.cells #[.int .i64 0, .int .i64 0] 26)).heap.size) := by unfold Hid; simp only [World.size_alloc]; omega
        generalize (w2.alloc (.cells #[.int .i64 0, .int .i64 0] 26)) = w3 at HC HB3 HG ⊢
        clear HB2 HRW KA KT hcell hg2
        go_loop [9] (fun i => ∃ k : Nat, k ≤ nt.size ∧ i = .int .i64 k ∧ Hid (∀ j, (hj : j < nt.size) → j < k → nt[j].toNat ≠ 10)) (fun i => nt.size - (intOf i).toNat)
        case atStart => exact ⟨0, Nat.zero_le _, rfl, fun j _ hj => absurd hj (Nat.not_lt_zero _)⟩
        case round =>
          obtain ⟨k, hk, rfl, HA⟩ := hrel
          by_cases hlt : k < nt.size
          · by_cases h10 : nt[k].toNat = 10
            · have q10 : ((nt[k].toNat : Int) == 10) = true := by simp; omega
              clear h10
              go_wp2
              go_ret
              exact ⟨rfl, HB3.out⟩
            · have q10 : ((nt[k].toNat : Int) == 10) = false := by simp; omega
              have HA' : Hid (∀ j, (hj : j < nt.size) → j < k + 1 → nt[j].toNat ≠ 10) := fun j hj h => by
                rcases Nat.lt_or_ge j k with h | h
                · exact HA.out j hj h
                · obtain rfl : j = k := by omega
                  exact h10
              clear h10 HA
              go_wp2
              go_round
              case rel => exact ⟨k + 1, by omega, by go_num, HA'⟩
              case measure => simp [intOf]; omega
          · obtain rfl : k = nt.size := by omega
            have HAL : Hid (nt.data.toList.all lineB = true) := by
              unfold Hid
              rw [List.all_eq_true]
              intro c hc
              obtain ⟨j, hj, rfl⟩ := List.getElem_of_mem hc
              have hj' : j < nt.size := by simpa using hj
              have h1 := HA.out j hj' hj'
              have e : nt.data.toList[j] = nt[j] := rfl
              rw [e]
              exact decide_eq_true h1
            have hnn := HNN.out
            have l1 : ¬ 9223372036854775807 < 3 + nt.size := by omega
            have l2 : ¬ 9223372036854775807 < 3 + nt.size + 1 := by omega
            clear HA hlt
            go_wp2_with fail
            obtain ⟨nb, hnb⟩ : ∃ nb : ByteArray, nb = ⟨#[32, 35, 32]⟩ ++ nt ++ ⟨#[10]⟩ := ⟨_, rfl⟩
            have hnbl : nb.data.toList = [32, 35, 32] ++ nt.data.toList ++ [10] := by
              rw [hnb]
              simp [ByteArray.data_append]
            have HSB : Hid (Sets (w3.alloc (.cells #[.string ⟨#[32]⟩, .string ⟨#[9, 13]⟩, .string ⟨#[10, 10]⟩, .string nb] 9)) w3.heap.size (btZ nb)) := sets_made w3 (btZ nb) _ _ rfl
            obtain ⟨p, hp0⟩ : ∃ p, p = pickI wh 4 := ⟨_, rfl⟩
            have hp : p < 4 := by rw [hp0]; exact pickI_lt wh 4 (by decide)
            have KP : Hid (∀ w', Calls Tryd.prog 16 #[.int .i64 wh, .int .i64 4] w' fun e w'' => e = .returned (.int .i64 ((p : Nat) : Int)) ∧ w' = w'') := fun w' => by rw [hp0]; exact pick_any wh 4 (by decide) (by decide) w'
            have hpz : p < (btZ nb).length := hp
            have cp := HSB.out.cell p hpz
            have HBT : Hid (Between ((btZ nb)[p]).data.toList ∧ ((btZ nb)[p]).data.toList.length ≤ 34) := by
              have h1 : ∀ z ∈ btZ nb, z.data.toList ∈ btB nt.data.toList ∧ z.data.toList.length ≤ 34 := by
                intro z hz
                unfold btB
                simp only [List.mem_cons, List.not_mem_nil, or_false] at hz
                rcases hz with rfl | rfl | rfl | rfl
                · exact ⟨by simp, by decide⟩
                · exact ⟨by simp, by decide⟩
                · exact ⟨by simp, by decide⟩
                · rw [hnbl]
                  refine ⟨by simp, ?_⟩
                  simp
                  omega
              obtain ⟨h2, h3⟩ := h1 _ (List.getElem_mem hpz)
              exact ⟨between_ok _ HAL.out _ h2, h3⟩
            rw [← hnb]
            generalize (btZ nb)[p] = bz at cp HBT
            have hpi : (p : Int) < 4 := by omega
            have HEX : Hid (Errs (w3.alloc (.cells #[.string ⟨#[32]⟩, .string ⟨#[9, 13]⟩, .string ⟨#[10, 10]⟩, .string nb] 9))) := (HE.out.below HB3.out).alloc _
            have HB4 : Hid (Below w.heap.size w (w3.alloc (.cells #[.string ⟨#[32]⟩, .string ⟨#[9, 13]⟩, .string ⟨#[10, 10]⟩, .string nb] 9))) := below_new HB3.out _
            have HC4 : Hid (∀ (j : Nat) (u : Value), (lexCs ys)[j]? = some u → (w3.alloc (.cells #[.string ⟨#[32]⟩, .string ⟨#[9, 13]⟩, .string ⟨#[10, 10]⟩, .string nb] 9)).cell? ⟨g, j, none⟩ = some u) := fun j u hu => (World.cell?_alloc_lt w3 _ ⟨g, j, none⟩ HG.out).trans (HC.out j u hu)
            have HG4 : Hid (g < (w3.alloc (.cells #[.string ⟨#[32]⟩, .string ⟨#[9, 13]⟩, .string ⟨#[10, 10]⟩, .string nb] 9)).heap.size) := by have := HG.out; unfold Hid; simp only [World.size_alloc]; omega
            obtain ⟨hw1, _⟩ := writtenB_len bz.data.toList 1500 ys HYL.out.2.2
            have hW9 : (writtenB bz.data.toList ys).length ≤ 1000000000 := by
              have h1 := HYL.out.2.1
              have h2 := HBT.out.2
              have h3 : ys.length * (1 + 1500 + bz.data.toList.length) ≤ 1501 * (1 + 1500 + 34) := Nat.mul_le_mul h1 (by omega)
              omega
            have KW : Hid (Calls Tryd.prog 17 #[.slice (some ⟨g, 0, none⟩) ys.length c, .string bz] (w3.alloc (.cells #[.string ⟨#[32]⟩, .string ⟨#[9, 13]⟩, .string ⟨#[10, 10]⟩, .string nb] 9)) fun e w' => e = .returned (.string ⟨(writtenB bz.data.toList ys).toArray⟩) ∧ (w3.alloc (.cells #[.string ⟨#[32]⟩, .string ⟨#[9, 13]⟩, .string ⟨#[10, 10]⟩, .string nb] 9)) = w') :=
              written_any ys g c bz.data.toList (by have := HYL.out.2.1; omega) hW9 _ HC4.out
            obtain ⟨tb1, tb2⟩ := HTB.out bz.data.toList HBT.out.1
            obtain ⟨tz, htz⟩ : ∃ tz : ByteArray, tz = ⟨(writtenB bz.data.toList ys).toArray⟩ := ⟨_, rfl⟩
            have htl : (writtenB bz.data.toList ys).length = tz.size := by rw [htz]; simp [ByteArray.size]
            have KT2 := Lib.hid (fun w' (h : Errs w') => tokens_any tz w' h)
            rw [show tz.data.toList = writtenB bz.data.toList ys by rw [htz]] at KT2
            rw [← htz] at KW
            rw [htl] at tb1 tb2 hW9
            have HYS := Lib.hid HYL.out.2.1
            have HYP := Lib.hid HYL.out.1
            generalize toldOf (writtenB bz.data.toList ys) = rr at KT2 tb1 tb2
            clear hw1 htl htz hpz hp0 hnb hnbl HTB HBT HSB HC HG HB3 HYL HAL hnn HE
            generalize (w3.alloc (.cells #[.string ⟨#[32]⟩, .string ⟨#[9, 13]⟩, .string ⟨#[10, 10]⟩, .string nb] 9)) = w4 at *
            by_cases hlong : tz.size > 16384
            · rw [tb1 hlong] at KT2
              have i1 : (16384 : Int) < (tz.size : Int) := by omega
              clear tb1 tb2 hlong hp
              go_wp2_with (first
                | (go_at_call 16; refine (KP.out _).mono ?_; rintro e w5 ⟨rfl, rfl⟩)
                | (go_at_call 17; refine (KW.out).mono ?_; rintro e w5 ⟨rfl, rfl⟩)
                | (go_at_call 9; refine (KT2.out _ HEX.out).mono ?_; rintro e w5 ⟨ao, c2, rfl, hrow2, hb5⟩; have HB5 := Lib.hid hb5; clear hb5 hrow2))
              go_ret
              exact ⟨rfl, below_new (below_step HB4.out HB5.out) _⟩
            · obtain ⟨zs, hr, hkt⟩ := tb2 hlong
              rw [hr] at KT2
              have HKT := Lib.hid hkt
              have i1 : ¬ (16384 : Int) < (tz.size : Int) := by omega
              have HZL : Hid (zs.length = ys.length) := by
                have h1 := congrArg List.length hkt
                rw [List.length_map, List.length_map] at h1
                exact h1
              clear tb1 tb2 hlong hp hkt hr
              obtain ⟨n, hn0⟩ : ∃ n, ys.length = n := ⟨_, rfl⟩
              have HNL := Lib.hid hn0
              rw [hn0] at HZL HYS HYP KW ⊢
              have KT3 : Hid (∀ w', Errs w' → Calls Tryd.prog 9 #[.string tz] w' fun e w'' => ∃ ao c, e = .returned (.tuple #[.slice ao n c, .agg #[.int .i64 0, .int .i64 0]]) ∧ w''.ownsRow w'.heap.size 41 3 (.slice ao n c) n (lexCs zs) ∧ Below w'.heap.size w' w'') := fun w' h => by
                refine (KT2.out w' h).mono fun e w'' ⟨ao, c, h1, h2, h3⟩ => ⟨ao, c, ?_, ?_, h3⟩
                · rw [h1]
                  simp only
                  rw [HZL.out]
                · simp only at h2
                  rwa [HZL.out] at h2
              clear hn0 KT2
              go_wp2_with (first
                | (go_at_call 16; refine (KP.out _).mono ?_; rintro e w5 ⟨rfl, rfl⟩)
                | (go_at_call 17; refine (KW.out).mono ?_; rintro e w5 ⟨rfl, rfl⟩)
                | (go_at_call 9; refine (KT3.out _ HEX.out).mono ?_; rintro e w5 ⟨ao, c2, rfl, hrow2, hb5⟩; have HB5 := Lib.hid hb5; have HRW2 := Lib.hid hrow2; clear hb5 hrow2))
              obtain ⟨g2, rfl, _, hg5, _, hcell2⟩ := told_cells HRW2.out HYP.out
              have HD : Hid (∀ (j : Nat) (u : Value), (lexCs zs)[j]? = some u → (w5.alloc (.cells #[.int .i64 0, .int .i64 0] 26)).cell? ⟨g2, j, none⟩ = some u) := fun j u hu => (World.cell?_alloc_lt w5 _ ⟨g2, j, none⟩ hg5).trans (hcell2 j u hu)
              have HC5 : Hid (∀ (j : Nat) (u : Value), (lexCs ys)[j]? = some u → (w5.alloc (.cells #[.int .i64 0, .int .i64 0] 26)).cell? ⟨g, j, none⟩ = some u) := fun j u hu => (World.cell?_alloc_lt w5 _ ⟨g, j, none⟩ (Nat.lt_of_lt_of_le HG4.out HB5.out.size)).trans ((HB5.out.cell (p := ⟨g, j, none⟩) HG4.out).trans (HC4.out j u hu))
              have HB6 : Hid (Below w.heap.size w (w5.alloc (.cells #[.int .i64 0, .int .i64 0] 26))) := below_new (below_step HB4.out HB5.out) _
              generalize (w5.alloc (.cells #[.int .i64 0, .int .i64 0] 26)) = w6 at HD HC5 HB6 ⊢
              have hys := HYS.out
              clear HB5 HRW2 hcell2 hg5 HC4 HG4 HB4 HEX KT3 KW KP cp
              go_loopw [14] (fun i wr => ∃ (k m : Nat), k ≤ n ∧ i = .int .i64 k ∧ wr = w6.drewN m) (fun i _ => n - (intOf i).toNat)
              case atStart => exact ⟨0, 0, Nat.zero_le _, rfl, rfl⟩
              case round =>
                obtain ⟨k, m, hk, rfl, rfl⟩ := hrel
                by_cases hlt : k < n
                · have hky : k < ys.length := by rw [HNL.out]; exact hlt
                  have hkz : k < zs.length := by rw [HZL.out]; exact hlt
                  obtain ⟨a0, a1, a2⟩ := lexCs_at ys k hky
                  obtain ⟨z0, z1, z2⟩ := lexCs_at zs k hkz
                  obtain ⟨k1, k2⟩ := kt_get HKT.out k hkz hky
                  rw [k1] at z0
                  rw [k2] at z1
                  have c0 := HC5.out _ _ a0
                  have c1 := HC5.out _ _ a1
                  have d0 := HD.out _ _ z0
                  have d1 := HD.out _ _ z1
                  clear a0 a1 a2 z0 z1 z2 k1 k2
                  generalize ys[k] = x at c0 c1 d0 d1
                  obtain ⟨⟨er, kd, tx, rs⟩, a⟩ := x
                  simp only at c0 c1 d0 d1
                  generalize (⟨tx.toArray⟩ : ByteArray) = z at c1 d1
                  clear hky hkz
                  have qk : (kd != kd) = false := by simp
                  go_wp2_with fail
                  go_quiet (fail)
                  go_wp2
                  go_roundw
                  case rel => exact ⟨k + 1, _, by omega, by go_num, rfl⟩
                  case measure => clear c0 c1 d0 d1; simp [intOf]; omega
                · obtain rfl : k = n := by omega
                  go_wp2
                  go_ret
                  exact ⟨rfl, RowKit_drewN HB6.out _⟩
    · have hn' : (30 : Int) < (nt.size : Int) := by omega
      have hn2 : decide ((30 : Int) < (nt.size : Int)) = true := by simp; omega
      clear hs hn
      go_enter Tryd.func6, Tryd.ntmps6
      go_wp2_with (go_at_call 8; refine (KA.out).mono ?_; rintro e w1 ⟨rfl, hb1⟩; have HB1 := Lib.hid hb1; clear hb1)
      go_ret
      exact ⟨rfl, HB1.out⟩
  · have hs' : (1500 : Int) < (s.size : Int) := by omega
    have hs2 : decide ((1500 : Int) < (s.size : Int)) = true := by simp; omega
    clear hs
    go_enter Tryd.func6, Tryd.ntmps6
    go_wp2_with (go_at_call 8; refine (KA.out).mono ?_; rintro e w1 ⟨rfl, hb1⟩; have HB1 := Lib.hid hb1; clear hb1)
    go_ret
    exact ⟨rfl, HB1.out⟩
end Go.Proofs.YtebfclanamoldaaDoor
