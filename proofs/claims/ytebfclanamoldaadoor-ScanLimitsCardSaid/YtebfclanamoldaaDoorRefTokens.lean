/- The document's tokens. -/
import Derived.Test.YtebfclanamoldaaDoorRefTok5
import Derived.Test.YtebfclanamoldaaDoorBackP
namespace Go.Proofs.YtebfclanamoldaaDoor
open Go.RowKit

theorem told_bad (l : Bs) (hl : l.length ≤ 16384) (q : List Y) (x : Y) (h : seqF l.length (l.length + 1) l = q ++ [x]) (hq : ∀ y ∈ q, y.1.err = 0) (hx : x.1.err ≠ 0) : toldOf l = ([], x.1.err, (x.2 : Int)) := by
  unfold toldOf
  rw [if_neg (by omega), h, find_last q x (q ++ [x]) hq hx (List.prefix_refl _)]
theorem told_good (l : Bs) (hl : l.length ≤ 16384) (q : List Y) (h : seqF l.length (l.length + 1) l = q) (hq : ∀ y ∈ q, y.1.err = 0) : toldOf l = (q, 0, 0) := by
  have hf : q.find? (fun y => decide (y.1.err ≠ 0)) = none := List.find?_eq_none.2 fun x hx => by
    have := hq x hx
    simp [this]
  unfold toldOf
  rw [if_neg (by omega), h, hf]

theorem seq_blank (s : ByteArray) (j f : Nat) (hj : j < s.size) (h : blankB s[j] = true) : seqF s.size (f + 1) (s.data.toList.drop j) = seqF s.size (f + 1) (s.data.toList.drop (j + 1)) :=
  seqF_skip _ _ _ _ (by rw [drop_at s j hj]; simp [skipS, h])
theorem seq_hash (s : ByteArray) (j f : Nat) (hj : j < s.size) (h : hashB s[j] = true) : seqF s.size (f + 1) (s.data.toList.drop j) = seqF s.size (f + 1) (s.data.toList.drop (j + ((s.data.toList.drop j).takeWhile lineB).length)) :=
  seqF_skip _ _ _ _ (by rw [drop_step, drop_at s j hj]; exact skipS_hash _ _ h)
theorem seq_here (s : ByteArray) (j f : Nat) (hj : j < s.size) (h1 : blankB s[j] = false) (h2 : hashB s[j] = false) : seqF s.size (f + 1) (s.data.toList.drop j) = (tokT (s.data.toList.drop j), j) :: if (tokT (s.data.toList.drop j)).err = 0 then seqF s.size f (s.data.toList.drop (s.size - (tokT (s.data.toList.drop j)).rest.length)) else [] := by
  have hs : skipS false (s.data.toList.drop j) = s.data.toList.drop j := skipS_stop _ (by rw [drop_at s j hj]; exact h1) (by rw [drop_at s j hj]; exact h2)
  have hl : s.size - (s.data.toList.drop j).length = j := by simp; omega
  rw [seqF_succ, hs, hl]
  congr 1
  by_cases he : (tokT (s.data.toList.drop j)).err = 0
  · have hk : (tokT (s.data.toList.drop j)).kind ≠ 7 := fun hk => by
      have := tok_end _ he hk
      rw [drop_at s j hj] at this
      cases this
    rw [if_pos ⟨he, hk⟩, if_pos he]
    obtain ⟨s1, _, s3⟩ := tok_stands _ he
    congr 1
    rw [s3, List.drop_drop]
    congr 1
    simp at s1 ⊢
    omega
  · rw [if_neg (fun h => he h.1), if_neg he]
theorem seq_over (s : ByteArray) (f : Nat) : seqF s.size (f + 1) (s.data.toList.drop s.size) = [(⟨0, 7, [], []⟩, s.size)] := by
  rw [List.drop_of_length_le (by simp), seqF_succ]
  rfl
theorem tok_on (s : ByteArray) (j : Nat) (hj : j < s.size) (h : (tokT (s.data.toList.drop j)).err = 0) : j < s.size - (tokT (s.data.toList.drop j)).rest.length := by
  have hk : (tokT (s.data.toList.drop j)).kind ≠ 7 := fun hk => by
    have := tok_end _ h hk
    rw [drop_at s j hj] at this
    cases this
  have := tok_less _ h hk
  simp at this
  omega

/-- Between two rounds. -/
structure RefI (w : World) (pre : List Y) (v : Value) (W : World) : Prop where
  r0 : W.heap[w.heap.size]? = some (.cells #[.int .i64 0, .int .i64 0] 26 (0, 0))
  row : W.ownsRow (w.heap.size + 1) 41 3 v pre.length (lexCs pre)
  ok : ∀ x ∈ pre, x.1.err = 0
  bel : Below w.heap.size w W
theorem RefI.below {w W W2 : World} {pre : List Y} {v : Value} (h : RefI w pre v W) (hb : Below W.heap.size W W2) : RefI w pre v W2 :=
  ⟨(hb.block _ (lt_of_heap h.r0)).trans h.r0, owns_below h.row hb, h.ok, below_step h.bel hb⟩
theorem refI_pushed {w W w1 : World} {pre : List Y} {v v' : Value} (x : Y) (h : RefI w pre v W) (hx : x.1.err = 0)
    (hown : w1.ownsRow (w.heap.size + 1) 41 3 v' (pre.length + 1) (lexCs pre ++ lexCs [x])) (hgrow : W.grownBy w1 v.ownBlock) : RefI w (pre ++ [x]) v' w1 := by
  have hb : ∀ b, v.ownBlock = some b → w.heap.size + 1 ≤ b := fun b hb => (h.row.lt b hb).1
  refine ⟨block_kept h.r0 hgrow (fun r e => by have := hb r e; omega), ?_, ?_, below_grown h.bel hgrow (fun r e => by have := hb r e; omega)⟩
  · rw [lexCs_append, List.length_append]
    exact hown
  · intro y hy
    rcases List.mem_append.1 hy with hy | hy
    · exact h.ok y hy
    · obtain rfl := List.mem_singleton.1 hy
      exact hx

/-- The fault is stored: all is there. -/
theorem refI_stored {w W : World} {pre : List Y} {v : Value} (h : RefI w pre v W) (x y : Value) :
    ((W.setCell ⟨w.heap.size, 0, none⟩ x).setCell ⟨w.heap.size, 1, none⟩ y).cell? ⟨w.heap.size, 0, none⟩ = some x ∧ ((W.setCell ⟨w.heap.size, 0, none⟩ x).setCell ⟨w.heap.size, 1, none⟩ y).cell? ⟨w.heap.size, 1, none⟩ = some y ∧ ((W.setCell ⟨w.heap.size, 0, none⟩ x).setCell ⟨w.heap.size, 1, none⟩ y).ownsRow w.heap.size 41 3 v pre.length (lexCs pre) ∧ Below w.heap.size w ((W.setCell ⟨w.heap.size, 0, none⟩ x).setCell ⟨w.heap.size, 1, none⟩ y) := by
  have hb : ∀ b, v.ownBlock = some b → w.heap.size + 1 ≤ b := fun b hb => (h.row.lt b hb).1
  have c0 : W.cell? ⟨w.heap.size, 0, none⟩ = some (.int .i64 0) := Lib.cell_of_heap h.r0 0
  have c1 : W.cell? ⟨w.heap.size, 1, none⟩ = some (.int .i64 0) := Lib.cell_of_heap h.r0 1
  have hne : v.ownBlock ≠ some w.heap.size := fun e => by have := hb _ e; omega
  refine ⟨(cell_other _ _ _ _ _ (by decide)).trans (cell_same _ _ _ _ _ c0), cell_same _ _ _ _ _ ((cell_other _ _ _ _ _ (by decide)).trans c1), ?_, (h.bel.setCell (p := ⟨w.heap.size, 0, none⟩) (Nat.le_refl _) _).setCell (p := ⟨w.heap.size, 1, none⟩) (Nat.le_refl _) _⟩
  exact owns_mono ((h.row.kept (Lib.grownBy_setCell W w.heap.size 0 x) (Or.inr hne)).kept (Lib.grownBy_setCell _ w.heap.size 1 y) (Or.inr hne)) (by omega)

set_option maxRecDepth 100000 in
set_option maxHeartbeats 4000000 in
theorem refTokens_any (s : ByteArray) (hm : s.size ≤ 3000) (w : World) :
    Calls Tryd.prog 10 #[.string s] w (ToldP (toldOf s.data.toList) w) := by
  obtain ⟨i0, hi, hz0, hz1, hz2⟩ := info_parts infoLex
  have h1 : ¬ (16384 : Int) < (s.size : Int) := by omega
  have KT : Hid (∀ (j : Nat) (_ : j < s.size) (w : World), Calls Tryd.prog 19 #[.string s, .int .i64 j] w fun e w' => e = .returned (rtV (tokT (s.data.toList.drop j)) j (s.size - (tokT (s.data.toList.drop j)).rest.length)) ∧ Below w.heap.size w w') := fun j hj w => refTok_any s (by omega) j hj w
  have HM := Lib.hid hm
  have hlen : s.data.toList.length = s.size := by simp
  have HBAD : Hid (∀ (q : List Y) (x : Y), seqF s.size (s.size + 1) s.data.toList = q ++ [x] → (∀ y ∈ q, y.1.err = 0) → x.1.err ≠ 0 → toldOf s.data.toList = ([], x.1.err, (x.2 : Int))) := fun q x h => told_bad _ (by omega) q x (by rw [hlen]; exact h)
  have HGOOD : Hid (∀ (q : List Y), seqF s.size (s.size + 1) s.data.toList = q → (∀ y ∈ q, y.1.err = 0) → toldOf s.data.toList = (q, 0, 0)) := fun q h => told_good _ (by omega) q (by rw [hlen]; exact h)
  generalize toldOf s.data.toList = r at HBAD HGOOD ⊢
  have HI0 : Hid (RefI w [] (.slice none 0 0) (w.alloc (.cells #[.int .i64 0, .int .i64 0] 26))) :=
    ⟨heap_alloc_new w _, World.ownsRow_nil _ _ _ _, (fun x hx => by cases hx), below_own _⟩
  have HS0 : Hid (seqF s.size (s.size + 1) s.data.toList = [] ++ seqF s.size (s.size + 1) (s.data.toList.drop 0)) := rfl
  generalize seqF s.size (s.size + 1) s.data.toList = all at HBAD HGOOD HS0
  clear hlen
  go_enter Tryd.func10, Tryd.ntmps10
  go_wp2
  generalize (w.alloc (.cells #[.int .i64 0, .int .i64 0] 26)) = w0 at HI0 ⊢
  go_loopw [4, 5] (fun o i wr => ∃ (j f : Nat) (pre : List Y), j ≤ s.size ∧ i = .int .i64 j ∧ pre.length ≤ j ∧ Hid (f + pre.length = s.size) ∧ Hid (all = pre ++ seqF s.size (f + 1) (s.data.toList.drop j)) ∧ Hid (RefI w pre o wr)) (fun _ i _ => s.size - (intOf i).toNat)
  case atStart => exact ⟨0, s.size, [], Nat.zero_le _, rfl, Nat.le_refl _, rfl, HS0, HI0⟩
  case round =>
    clear HI0 HS0 h1
    obtain ⟨j, f, pre, hj, rfl, hpl, HF, HSQ, HI⟩ := hrel
    by_cases hlt : j < s.size
    · by_cases hbl : blankB s[j] = true
      · have HSQ' : Hid (all = pre ++ seqF s.size (f + 1) (s.data.toList.drop (j + 1))) := by
          have h2 := HSQ.out
          rw [seq_blank s j f hlt hbl] at h2
          exact h2
        have hm' := HM.out
        clear HSQ HBAD HGOOD KT
        by_cases h9 : s[j].toNat = 9
        · have q9 : ((s[j].toNat : Int) == 9) = true := by simp [h9]
          clear hbl h9
          go_wp2
          go_roundw
          case rel => exact ⟨j + 1, f, pre, by omega, by go_num, by omega, HF, HSQ', HI⟩
          case measure => simp [intOf]; omega
        · have q9 : ((s[j].toNat : Int) == 9) = false := by simp; omega
          by_cases h10 : s[j].toNat = 10
          · have q10 : ((s[j].toNat : Int) == 10) = true := by simp [h10]
            clear hbl h9 h10
            go_wp2
            go_roundw
            case rel => exact ⟨j + 1, f, pre, by omega, by go_num, by omega, HF, HSQ', HI⟩
            case measure => simp [intOf]; omega
          · have q10 : ((s[j].toNat : Int) == 10) = false := by simp; omega
            by_cases h13 : s[j].toNat = 13
            · have q13 : ((s[j].toNat : Int) == 13) = true := by simp [h13]
              clear hbl h9 h10 h13
              go_wp2
              go_roundw
              case rel => exact ⟨j + 1, f, pre, by omega, by go_num, by omega, HF, HSQ', HI⟩
              case measure => simp [intOf]; omega
            · have q13 : ((s[j].toNat : Int) == 13) = false := by simp; omega
              have h32 : s[j].toNat = 32 := by
                unfold blankB at hbl
                simp at hbl
                omega
              have q32 : ((s[j].toNat : Int) == 32) = true := by simp [h32]
              clear hbl h9 h10 h13 h32
              go_wp2
              go_roundw
              case rel => exact ⟨j + 1, f, pre, by omega, by go_num, by omega, HF, HSQ', HI⟩
              case measure => simp [intOf]; omega
      · have hbl' : blankB s[j] = false := by simpa using hbl
        obtain ⟨n9, n10, n13, n32⟩ : s[j].toNat ≠ 9 ∧ s[j].toNat ≠ 10 ∧ s[j].toNat ≠ 13 ∧ s[j].toNat ≠ 32 := by
          unfold blankB at hbl'
          simp at hbl'
          omega
        have q9 : ((s[j].toNat : Int) == 9) = false := by simp; omega
        have q10 : ((s[j].toNat : Int) == 10) = false := by simp; omega
        have q13 : ((s[j].toNat : Int) == 13) = false := by simp; omega
        have q32 : ((s[j].toNat : Int) == 32) = false := by simp; omega
        clear hbl n9 n13 n32
        have hm' := HM.out
        by_cases h35 : s[j].toNat = 35
        · have q35 : ((s[j].toNat : Int) == 35) = true := by simp [h35]
          have hh : hashB s[j] = true := by simp [hashB, h35]
          have HSQ' : Hid (all = pre ++ seqF s.size (f + 1) (s.data.toList.drop (j + ((s.data.toList.drop j).takeWhile lineB).length))) := by
            have h2 := HSQ.out
            rw [seq_hash s j f hlt hh] at h2
            exact h2
          have hle := takeWhile_len lineB s j
          have hgo := takeWhile_hit lineB s j hlt (by simp [lineB, h35])
          obtain ⟨E, hE⟩ : ∃ E, j + ((s.data.toList.drop j).takeWhile lineB).length = E := ⟨_, rfl⟩
          rw [hE] at HSQ'
          have HE := Lib.hid hE
          have hEj : j < E ∧ E ≤ s.size := by omega
          clear HSQ HBAD HGOOD KT hle hgo hh hE h35 hbl' n10
          go_wp2
          go_loop [5] (fun i => ∃ q : Nat, q ≤ s.size ∧ i = .int .i64 q ∧ Hid (q + ((s.data.toList.drop q).takeWhile lineB).length = E)) (fun i => s.size - (intOf i).toNat)
          case atStart => exact ⟨j, Nat.le_of_lt hlt, rfl, HE⟩
          case round =>
            clear HE
            obtain ⟨q, hq, rfl, HQ⟩ := hrel
            by_cases hcont : q < s.size ∧ nextB lineB (s.data.toList.drop q) = true
            · obtain ⟨hql, hp0⟩ := hcont
              have hp : lineB s[q] = true := by rw [drop_at s q hql] at hp0; exact hp0
              have hp' : ((s[q].toNat : Int) != 10) = true := by
                have : s[q].toNat ≠ 10 := by simpa [lineB] using hp
                simp; omega
              have HQ' : Hid (q + 1 + ((s.data.toList.drop (q + 1)).takeWhile lineB).length = E) := by
                have h1 := takeWhile_hit lineB s q hql hp
                have h2 := HQ.out
                unfold Hid
                omega
              clear hp hp0 HQ
              go_wp2
              go_round
              case rel => exact ⟨q + 1, by omega, by go_num, HQ'⟩
              case measure => simp [intOf]; omega
            · have hstop : nextB lineB (s.data.toList.drop q) = false := by
                by_cases hlt : q < s.size
                · have : ¬ nextB lineB (s.data.toList.drop q) = true := fun h => hcont ⟨hlt, h⟩
                  simpa using this
                · rw [List.drop_of_length_le (by simp; omega)]
                  rfl
              obtain rfl : q = E := by
                have h1 := takeWhile_miss lineB s q hstop
                have h2 := HQ.out
                omega
              clear HQ hcont
              by_cases hql : q < s.size
              · have hp' : ((s[q].toNat : Int) != 10) = false := by
                  rw [drop_at s q hql] at hstop
                  have h2 : lineB s[q] = false := hstop
                  have : s[q].toNat = 10 := by simpa [lineB] using h2
                  simp; omega
                clear hstop
                go_wp2
                go_roundw
                case rel => exact ⟨q, f, pre, by omega, rfl, by omega, HF, HSQ', HI⟩
                case measure => simp [intOf]; omega
              · obtain hqs : q = s.size := by omega
                clear hstop
                go_wp2
                go_roundw
                case rel => exact ⟨q, f, pre, by omega, rfl, by omega, HF, HSQ', HI⟩
                case measure => simp [intOf]; omega
        · have q35 : ((s[j].toNat : Int) == 35) = false := by simp; omega
          have hh : hashB s[j] = false := by simp [hashB, h35]
          obtain ⟨f', rfl⟩ : ∃ f', f = f' + 1 := ⟨f - 1, by have := HF.out; omega⟩
          have hsq := HSQ.out
          rw [seq_here s j (f' + 1) hlt hbl' hh] at hsq
          have K := Lib.hid (KT.out j hlt)
          have hon := tok_on s j hlt
          generalize tokT (s.data.toList.drop j) = x at hsq K hon
          have HSQ' := Lib.hid hsq
          clear HSQ hsq hh h35 hbl' n10 KT
          obtain ⟨er, kd, tx, rs⟩ := x
          by_cases he : er = 0
          · subst he
            have hgo := hon rfl
            have HSQ2 : Hid (all = (pre ++ [(⟨0, kd, tx, rs⟩, j)]) ++ seqF s.size (f' + 1) (s.data.toList.drop (s.size - rs.length))) := by
              rw [List.append_assoc]
              exact HSQ'.out
            have K' : Hid (∀ w, Calls Tryd.prog 19 #[.string s, .int .i64 j] w fun e w' => e = .returned (.tuple #[.agg #[.int .u8 kd, .string ⟨tx.toArray⟩, .int .i64 (j : Int)], .int .i64 ((s.size - rs.length : Nat) : Int), .int .i64 0]) ∧ Below w.heap.size w w') := K.out
            have hgo' : j < s.size - rs.length := hgo
            have hE2 : s.size - rs.length ≤ s.size := by omega
            generalize s.size - rs.length = E at HSQ2 K' hgo' hE2
            clear K HSQ' hon HBAD HGOOD hgo
            have HMX : Hid (pre.length + 1 ≤ 3000) := by unfold Hid; omega
            go_wp2_with (first
              | (go_at_call 19; refine (K'.out _).mono ?_; rintro e w2 ⟨rfl, hb2⟩
                 have HI2 := Lib.hid (((HI.out.below hb2).below (below_own (.cells #[.int .u8 kd, .string ⟨tx.toArray⟩, .int .i64 (j : Int)] 41))).below (below_own (.cells #[.int .u8 kd, .string ⟨tx.toArray⟩, .int .i64 (j : Int)] 41)))
                 have HCM : Hid (∀ (i : Nat) (u : Value), ([.int .u8 kd, .string ⟨tx.toArray⟩, .int .i64 (j : Int)] : List Value)[i]? = some u → ((w2.alloc (.cells #[.int .u8 kd, .string ⟨tx.toArray⟩, .int .i64 (j : Int)] 41)).alloc (.cells #[.int .u8 kd, .string ⟨tx.toArray⟩, .int .i64 (j : Int)] 41)).cell? ⟨w2.heap.size + 1, i, none⟩ = some u) := fun i u hu => by
                   have := cells_made (w2.alloc (.cells #[.int .u8 kd, .string ⟨tx.toArray⟩, .int .i64 (j : Int)] 41)) #[.int .u8 kd, .string ⟨tx.toArray⟩, .int .i64 (j : Int)] 41 i u (by simpa using hu)
                   rwa [World.size_alloc] at this
                 clear hb2)
              | (at_builtin; go_must (refine wpList_append_own _ rfl _ _ 23 rfl (w.heap.size + 1) 41 i0 (.agg #[.int .u8 0, .string ⟨#[]⟩, .int .i64 0]) 3 32 Tryd.underlying23 hi hz0 hz1 hz2 rfl (by decide) _ pre.length (lexCs pre) rfl HI2.out.row ⟨w2.heap.size + 1, 0, none⟩ 1 1 [.int .u8 kd, .string ⟨tx.toArray⟩, .int .i64 (j : Int)] rfl rfl (fun i u hu => by rw [Addr.add_lit, Nat.zero_add]; exact HCM.out i u hu) (by simp [Value.oneCell']) (by have := HMX.out; unfold maxLen; omega) (by have := HMX.out; omega) (lt_of_heap HI2.out.r0) ?_; intro v' w4 hown4 hgrow4 _; have HI3 := Lib.hid (refI_pushed (⟨0, kd, tx, rs⟩, j) HI2.out rfl hown4 hgrow4); clear hown4 hgrow4)))
            go_roundw
            case rel => exact ⟨E, f', _, hE2, rfl, by rw [List.length_append]; show pre.length + 1 ≤ E; omega, by unfold Hid; rw [List.length_append]; have := HF.out; show f' + (pre.length + 1) = s.size; omega, HSQ2, HI3⟩
            case measure => simp [intOf]; omega
          · have q0 : (er != 0) = true := by simpa using he
            have K' : Hid (∀ w, Calls Tryd.prog 19 #[.string s, .int .i64 j] w fun e w' => e = .returned (.tuple #[.agg #[.int .u8 0, .string ⟨#[]⟩, .int .i64 0], .int .i64 0, .int .i64 er]) ∧ Below w.heap.size w w') := by
              have := K.out
              unfold rtV at this
              rw [if_neg he] at this
              exact this
            have HR : Hid (r = ([], er, (j : Int))) := HBAD.out pre (⟨er, kd, tx, rs⟩, j) (by have := HSQ'.out; rw [if_neg he] at this; exact this) HI.out.ok he
            clear K HSQ' hon HBAD HGOOD
            go_wp2_with (go_at_call 19; refine (K'.out _).mono ?_; rintro e w2 ⟨rfl, hb2⟩
                         have HI2 := Lib.hid ((HI.out.below hb2).below (below_own (.cells #[.int .u8 0, .string ⟨#[]⟩, .int .i64 0] 41)))
                         have c0 : (w2.alloc (.cells #[.int .u8 0, .string ⟨#[]⟩, .int .i64 0] 41)).cell? ⟨w.heap.size, 0, none⟩ = some (.int .i64 0) := Lib.cell_of_heap HI2.out.r0 0
                         have c1 : (w2.alloc (.cells #[.int .u8 0, .string ⟨#[]⟩, .int .i64 0] 41)).cell? ⟨w.heap.size, 1, none⟩ = some (.int .i64 0) := Lib.cell_of_heap HI2.out.r0 1
                         have f0 : ∀ j, (w2.alloc (.cells #[.int .u8 0, .string ⟨#[]⟩, .int .i64 0] 41)).frozen? ⟨w.heap.size, j, none⟩ = false := fun j => Lib.frozen_of_heap HI2.out.r0 j
                         clear hb2)
            obtain ⟨e0, e1, _, hb⟩ := refI_stored HI2.out (.int .i64 er) (.int .i64 (j : Int))
            exact bodyPost_ret (v := .tuple #[.slice none 0 0, .agg #[.int .i64 er, .int .i64 (j : Int)]]) (by simp [results, Tryd.results10, go_sem, e0, e1]) rfl (by rw [HR.out]; exact ⟨none, 0, rfl, World.ownsRow_nil _ _ _ _, hb⟩)
    · obtain rfl : j = s.size := by omega
      have hsq := HSQ.out
      rw [seq_over] at hsq
      have HR : Hid (r = (pre ++ [(⟨0, 7, [], []⟩, s.size)], 0, 0)) := HGOOD.out _ hsq (fun y hy => by
        rcases List.mem_append.1 hy with hy | hy
        · exact HI.out.ok y hy
        · obtain rfl := List.mem_singleton.1 hy
          rfl)
      clear HSQ hsq HBAD HGOOD KT
      have HI2 := Lib.hid (HI.out.below (below_own (.cells #[.int .u8 7, .string ⟨#[]⟩, .int .i64 (s.size : Int)] 41)))
      have HMX : Hid (pre.length + 1 ≤ 3001) := by have := HM.out; unfold Hid; omega
      have HCM : Hid (∀ (i : Nat) (u : Value), ([.int .u8 7, .string ⟨#[]⟩, .int .i64 (s.size : Int)] : List Value)[i]? = some u → (wr.alloc (.cells #[.int .u8 7, .string ⟨#[]⟩, .int .i64 (s.size : Int)] 41)).cell? ⟨wr.heap.size, i, none⟩ = some u) := fun i u hu =>
        cells_made wr #[.int .u8 7, .string ⟨#[]⟩, .int .i64 (s.size : Int)] 41 i u (by simpa using hu)
      go_wp2_with (at_builtin; go_must (refine wpList_append_own _ rfl _ _ 23 rfl (w.heap.size + 1) 41 i0 (.agg #[.int .u8 0, .string ⟨#[]⟩, .int .i64 0]) 3 32 Tryd.underlying23 hi hz0 hz1 hz2 rfl (by decide) _ pre.length (lexCs pre) rfl HI2.out.row ⟨wr.heap.size, 0, none⟩ 1 1 [.int .u8 7, .string ⟨#[]⟩, .int .i64 (s.size : Int)] rfl rfl (fun i u hu => by rw [Addr.add_lit, Nat.zero_add]; exact HCM.out i u hu) (by simp [Value.oneCell']) (by have := HMX.out; unfold maxLen; omega) (by have := HMX.out; omega) (lt_of_heap HI2.out.r0) ?_; intro v' w4 hown4 hgrow4 _; have HI3 := Lib.hid (refI_pushed (⟨0, 7, [], []⟩, s.size) HI2.out rfl hown4 hgrow4); obtain ⟨ao, c, rfl⟩ := owns_slice hown4; have c0 : w4.cell? ⟨w.heap.size, 0, none⟩ = some (.int .i64 0) := Lib.cell_of_heap HI3.out.r0 0; have c1 : w4.cell? ⟨w.heap.size, 1, none⟩ = some (.int .i64 0) := Lib.cell_of_heap HI3.out.r0 1; have f0 : ∀ j, w4.frozen? ⟨w.heap.size, j, none⟩ = false := fun j => Lib.frozen_of_heap HI3.out.r0 j; clear hown4 hgrow4))
      obtain ⟨e0, e1, ho, hb⟩ := refI_stored HI3.out (.int .i64 0) (.int .i64 0)
      exact bodyPost_ret (v := .tuple #[.slice ao (pre.length + 1) c, .agg #[.int .i64 0, .int .i64 0]]) (by simp [results, Tryd.results10, go_sem, e0, e1]) rfl (by rw [HR.out]; exact ⟨ao, c, by rw [List.length_append]; rfl, by rw [List.length_append] at ho; rw [List.length_append]; exact ho, hb⟩)
end Go.Proofs.YtebfclanamoldaaDoor
