/- ValueLaws is true: laws of reckoning over all pairs of numbers. -/
import Derived.Test.YtcmbedopmkodmaaDoorLawsP
namespace Go.Proofs.YtcmbedopmkodmaaDoor
open Go.RowKit


set_option maxHeartbeats 4000000 in
theorem laws_xnl (x y : Int) (w : World) (hx : In64 x) (hy : In64 y) (hs : fitB (x + y) = false) (hn : fitB (-x) = true) (hl : decide (x < y) = true) :
    Calls Tryd.prog 6 #[.int .i64 x, .int .i64 y] w fun e w' => e = .returned (.bool true) ∧ Below w.heap.size w w' := by
  obtain ⟨⟨⟨pk, pn, ps⟩, pe⟩, hp⟩ : ∃ r : V3 × Int, doV 3 [numT x, numT y] = r := ⟨_, rfl⟩
  have hp' : doV 3 [numT y, numT x] = ((pk, pn, ps), pe) := by rw [mul_num, Int.mul_comm, ← mul_num]; exact hp
  have H1 := Lib.hid (fun w g hg => do_err2 1 x y 300 (by rw [add_num, if_neg (by rw [hs]; simp)]) w g hg hx hy)
  have H2 := Lib.hid (fun w g hg => do_err2 1 y x 300 (by rw [add_num, Int.add_comm y x, if_neg (by rw [hs]; simp)]) w g hg hy hx)
  have hq1 := fun w => ne_self 0 0 ⟨#[]⟩ w
  have H3 := Lib.hid (fun w g hg => do_gen2 3 x y _ hp w g hg hx hy)
  have H4 := Lib.hid (fun w g hg => do_gen2 3 y x _ hp' w g hg hy hx)
  have hq2 := fun w => ne_self pk pn ps w
  have hpe : (pe != pe) = false := by simp
  have H6 := Lib.hid (fun w g hg => do_num1 4 x (-x) (by rw [neg_num, if_pos hn]) w g hg hx)
  have H7 := Lib.hid (fun w g hg => do_num1 4 (-x) x (by rw [neg_num, Int.neg_neg, if_pos ((fit_iff _).2 hx)]) w g hg (In64.of_fit hn))
  have hq3 := fun w => ne_self 1 x ⟨#[]⟩ w
  have H8 := Lib.hid (fun w g hg => do_num2 7 x y 1 (by rw [lt_num, hl]; rfl) w g hg hx hy)
  have H9 := Lib.hid (fun w g hg => do_num2 8 y x 0 (by rw [le_num, show decide (y ≤ x) = false from by rw [decide_eq_false_iff_not]; have := of_decide_eq_true hl; omega]; rfl) w g hg hy hx)
  have HA := Lib.hid awake_any
  have hg := eqGuardV
  clear hs hn hp hp' hx hy
  go_enter Tryd.func6, Tryd.ntmps6
  go_wp2_with fail
  refine (HA.out _).mono ?_
  rintro e w1 ⟨rfl, hb1⟩
  have HB := Lib.hid hb1
  clear hb1 HA
  go_wp2_with (go_at_call 22; refine (refNumber_any _ _).mono ?_; rintro e w' ⟨rfl, rfl⟩)
  refine (H1.out _ _ (by simp)).mono ?_
  rintro e w2 ⟨rfl, hb2⟩
  have Ha : Hid (At w2 (w1.heap.size + 1 + 1) 0 (1, x, ⟨#[]⟩)) := by
    refine At.later ?_ hb2 (by simp)
    constructor <;> go_simp
  have Hb : Hid (At w2 (w1.heap.size + 1 + 1 + 1) 0 (1, y, ⟨#[]⟩)) := by
    refine At.later ?_ hb2 (by simp)
    constructor <;> go_simp
  have hz : w1.heap.size + 1 + 1 + 1 < w2.heap.size := by have := hb2.size; simp at this; omega
  have HB' : Hid (Below w.heap.size w w2) := below_step (below_new (below_new (below_new (below_new (below_new HB.out _) _) _) _) _) hb2
  clear hb2 HB
  have HB := HB'
  clear HB'
  obtain ⟨ba, hba⟩ : ∃ b, b = w1.heap.size + 1 + 1 := ⟨_, rfl⟩
  rw [← hba] at Ha Hb hz ⊢
  clear hba
  have la : ba < w2.heap.size := by omega
  have lb : ba + 1 < w2.heap.size := by omega
  clear hz
  obtain ⟨a1, a2, a3⟩ := Ha.out
  have na0 : ba ≠ w2.heap.size := by omega
  have na1 : ba ≠ w2.heap.size + 1 := by omega
  obtain ⟨b1, b2, b3⟩ := Hb.out
  have nb0 : ba + 1 ≠ w2.heap.size := by omega
  have nb1 : ba + 1 ≠ w2.heap.size + 1 := by omega
  go_wp2_with fail
  clear a1 a2 a3 na0 na1
  clear b1 b2 b3 nb0 nb1
  refine (H2.out _ _ (by simp)).mono ?_
  rintro e w3 ⟨rfl, hb⟩
  have hk : Below w2.heap.size w2 w3 := below_step (below_new (below_own _) _) hb
  have hz : w2.heap.size + 1 < w3.heap.size := by have := hb.size; simp at this; omega
  have Ha' : Hid (At w3 (ba) 0 (1, x, ⟨#[]⟩)) := Ha.out.on (by omega) hk
  clear Ha
  have Ha := Ha'
  clear Ha'
  have Hb' : Hid (At w3 (ba + 1) 0 (1, y, ⟨#[]⟩)) := Hb.out.on (by omega) hk
  clear Hb
  have Hb := Hb'
  clear Hb'
  have Hs : Hid (At w3 w2.heap.size 0 (0, 0, ⟨#[]⟩)) := ((at_made _ _ _ _ _).later (below_own _) (by simp)).later hb (by simp <;> omega)
  obtain ⟨bs, hbv⟩ : ∃ b, b = w2.heap.size := ⟨_, rfl⟩
  rw [← hbv] at Hs hz ⊢
  rw [← hbv] at la lb
  clear hbv
  have ls : bs < w3.heap.size := by omega
  have la' : ba < w3.heap.size := by omega
  clear la
  have la := la'
  clear la'
  have lb' : ba + 1 < w3.heap.size := by omega
  clear lb
  have lb := lb'
  clear lb'
  have HB' : Hid (Below w.heap.size w w3) := below_step (below_new (below_new (HB.out) _) _) hb
  clear HB hb hk hz
  have HB := HB'
  clear HB'
  obtain ⟨a1, a2, a3⟩ := Ha.out
  have na0 : ba ≠ w3.heap.size := by omega
  have na1 : ba ≠ w3.heap.size + 1 := by omega
  obtain ⟨b1, b2, b3⟩ := Hb.out
  have nb0 : ba + 1 ≠ w3.heap.size := by omega
  have nb1 : ba + 1 ≠ w3.heap.size + 1 := by omega
  go_wp2_with fail
  clear a1 a2 a3 na0 na1
  clear b1 b2 b3 nb0 nb1
  refine (H3.out _ _ (by simp)).mono ?_
  rintro e w4 ⟨rfl, hb⟩
  have hk : Below w3.heap.size w3 w4 := below_step (below_new (below_own _) _) hb
  have hz : w3.heap.size + 1 < w4.heap.size := by have := hb.size; simp at this; omega
  have Ha' : Hid (At w4 (ba) 0 (1, x, ⟨#[]⟩)) := Ha.out.on (by omega) hk
  clear Ha
  have Ha := Ha'
  clear Ha'
  have Hb' : Hid (At w4 (ba + 1) 0 (1, y, ⟨#[]⟩)) := Hb.out.on (by omega) hk
  clear Hb
  have Hb := Hb'
  clear Hb'
  have Hs' : Hid (At w4 (bs) 0 (0, 0, ⟨#[]⟩)) := Hs.out.on (by omega) hk
  clear Hs
  have Hs := Hs'
  clear Hs'
  have Ht : Hid (At w4 w3.heap.size 0 (0, 0, ⟨#[]⟩)) := ((at_made _ _ _ _ _).later (below_own _) (by simp)).later hb (by simp <;> omega)
  obtain ⟨bt, hbv⟩ : ∃ b, b = w3.heap.size := ⟨_, rfl⟩
  rw [← hbv] at Ht hz ⊢
  rw [← hbv] at la lb ls
  clear hbv
  have lt : bt < w4.heap.size := by omega
  have la' : ba < w4.heap.size := by omega
  clear la
  have la := la'
  clear la'
  have lb' : ba + 1 < w4.heap.size := by omega
  clear lb
  have lb := lb'
  clear lb'
  have ls' : bs < w4.heap.size := by omega
  clear ls
  have ls := ls'
  clear ls'
  have HB' : Hid (Below w.heap.size w w4) := below_step (below_new (below_new (HB.out) _) _) hb
  clear HB hb hk hz
  have HB := HB'
  clear HB'
  obtain ⟨a1, a2, a3⟩ := Ha.out
  have na0 : ba ≠ w4.heap.size := by omega
  have na1 : ba ≠ w4.heap.size + 1 := by omega
  obtain ⟨b1, b2, b3⟩ := Hb.out
  have nb0 : ba + 1 ≠ w4.heap.size := by omega
  have nb1 : ba + 1 ≠ w4.heap.size + 1 := by omega
  go_wp2_with fail
  clear a1 a2 a3 na0 na1
  clear b1 b2 b3 nb0 nb1
  refine (H4.out _ _ (by simp)).mono ?_
  rintro e w5 ⟨rfl, hb⟩
  have hk : Below w4.heap.size w4 w5 := below_step (below_new (below_own _) _) hb
  have hz : w4.heap.size + 1 < w5.heap.size := by have := hb.size; simp at this; omega
  have Ha' : Hid (At w5 (ba) 0 (1, x, ⟨#[]⟩)) := Ha.out.on (by omega) hk
  clear Ha
  have Ha := Ha'
  clear Ha'
  have Hb' : Hid (At w5 (ba + 1) 0 (1, y, ⟨#[]⟩)) := Hb.out.on (by omega) hk
  clear Hb
  have Hb := Hb'
  clear Hb'
  have Hs' : Hid (At w5 (bs) 0 (0, 0, ⟨#[]⟩)) := Hs.out.on (by omega) hk
  clear Hs
  have Hs := Hs'
  clear Hs'
  have Ht' : Hid (At w5 (bt) 0 (0, 0, ⟨#[]⟩)) := Ht.out.on (by omega) hk
  clear Ht
  have Ht := Ht'
  clear Ht'
  have Hp : Hid (At w5 w4.heap.size 0 (pk, pn, ps)) := ((at_made _ _ _ _ _).later (below_own _) (by simp)).later hb (by simp <;> omega)
  obtain ⟨bp, hbv⟩ : ∃ b, b = w4.heap.size := ⟨_, rfl⟩
  rw [← hbv] at Hp hz ⊢
  rw [← hbv] at la lb ls lt
  clear hbv
  have lp : bp < w5.heap.size := by omega
  have la' : ba < w5.heap.size := by omega
  clear la
  have la := la'
  clear la'
  have lb' : ba + 1 < w5.heap.size := by omega
  clear lb
  have lb := lb'
  clear lb'
  have ls' : bs < w5.heap.size := by omega
  clear ls
  have ls := ls'
  clear ls'
  have lt' : bt < w5.heap.size := by omega
  clear lt
  have lt := lt'
  clear lt'
  have HB' : Hid (Below w.heap.size w w5) := below_step (below_new (below_new (HB.out) _) _) hb
  clear HB hb hk hz
  have HB := HB'
  clear HB'
  obtain ⟨s1, s2, s3⟩ := Hs.out
  have ns0 : bs ≠ w5.heap.size := by omega
  have ns1 : bs ≠ w5.heap.size + 1 := by omega
  obtain ⟨t1, t2, t3⟩ := Ht.out
  have nt0 : bt ≠ w5.heap.size := by omega
  have nt1 : bt ≠ w5.heap.size + 1 := by omega
  obtain ⟨p1, p2, p3⟩ := Hp.out
  have np0 : bp ≠ w5.heap.size := by omega
  have np1 : bp ≠ w5.heap.size + 1 := by omega
  obtain ⟨a1, a2, a3⟩ := Ha.out
  have na0 : ba ≠ w5.heap.size := by omega
  have na1 : ba ≠ w5.heap.size + 1 := by omega
  go_wp2_with fail
  clear s1 s2 s3 ns0 ns1
  clear t1 t2 t3 nt0 nt1
  clear p1 p2 p3 np0 np1
  clear a1 a2 a3 na0 na1
  refine (H6.out _ _ (by simp)).mono ?_
  rintro e w7 ⟨rfl, hb⟩
  have hk : Below w5.heap.size w5 w7 := below_step (below_new (below_own _) _) hb
  have hz : w5.heap.size + 1 < w7.heap.size := by have := hb.size; simp at this; omega
  have Ha' : Hid (At w7 (ba) 0 (1, x, ⟨#[]⟩)) := Ha.out.on (by omega) hk
  clear Ha
  have Ha := Ha'
  clear Ha'
  have Hb' : Hid (At w7 (ba + 1) 0 (1, y, ⟨#[]⟩)) := Hb.out.on (by omega) hk
  clear Hb
  have Hb := Hb'
  clear Hb'
  have Hs' : Hid (At w7 (bs) 0 (0, 0, ⟨#[]⟩)) := Hs.out.on (by omega) hk
  clear Hs
  have Hs := Hs'
  clear Hs'
  have Ht' : Hid (At w7 (bt) 0 (0, 0, ⟨#[]⟩)) := Ht.out.on (by omega) hk
  clear Ht
  have Ht := Ht'
  clear Ht'
  have Hp' : Hid (At w7 (bp) 0 (pk, pn, ps)) := Hp.out.on (by omega) hk
  clear Hp
  have Hp := Hp'
  clear Hp'
  have Hq : Hid (At w7 w5.heap.size 0 (pk, pn, ps)) := ((at_made _ _ _ _ _).later (below_own _) (by simp)).later hb (by simp <;> omega)
  obtain ⟨bq, hbv⟩ : ∃ b, b = w5.heap.size := ⟨_, rfl⟩
  rw [← hbv] at Hq hz ⊢
  rw [← hbv] at la lb ls lt lp
  clear hbv
  have lq : bq < w7.heap.size := by omega
  have la' : ba < w7.heap.size := by omega
  clear la
  have la := la'
  clear la'
  have lb' : ba + 1 < w7.heap.size := by omega
  clear lb
  have lb := lb'
  clear lb'
  have ls' : bs < w7.heap.size := by omega
  clear ls
  have ls := ls'
  clear ls'
  have lt' : bt < w7.heap.size := by omega
  clear lt
  have lt := lt'
  clear lt'
  have lp' : bp < w7.heap.size := by omega
  clear lp
  have lp := lp'
  clear lp'
  have HB' : Hid (Below w.heap.size w w7) := below_step (below_new (below_new (HB.out) _) _) hb
  clear HB hb hk hz
  have HB := HB'
  clear HB'
  go_wp2_with fail
  refine (H7.out _ _ (by simp)).mono ?_
  rintro e w8 ⟨rfl, hb⟩
  have hk : Below w7.heap.size w7 w8 := below_step (below_new (below_own _) _) hb
  have hz : w7.heap.size + 1 < w8.heap.size := by have := hb.size; simp at this; omega
  have Ha' : Hid (At w8 (ba) 0 (1, x, ⟨#[]⟩)) := Ha.out.on (by omega) hk
  clear Ha
  have Ha := Ha'
  clear Ha'
  have Hb' : Hid (At w8 (ba + 1) 0 (1, y, ⟨#[]⟩)) := Hb.out.on (by omega) hk
  clear Hb
  have Hb := Hb'
  clear Hb'
  have Hs' : Hid (At w8 (bs) 0 (0, 0, ⟨#[]⟩)) := Hs.out.on (by omega) hk
  clear Hs
  have Hs := Hs'
  clear Hs'
  have Ht' : Hid (At w8 (bt) 0 (0, 0, ⟨#[]⟩)) := Ht.out.on (by omega) hk
  clear Ht
  have Ht := Ht'
  clear Ht'
  have Hp' : Hid (At w8 (bp) 0 (pk, pn, ps)) := Hp.out.on (by omega) hk
  clear Hp
  have Hp := Hp'
  clear Hp'
  have Hq' : Hid (At w8 (bq) 0 (pk, pn, ps)) := Hq.out.on (by omega) hk
  clear Hq
  have Hq := Hq'
  clear Hq'
  have la' : ba < w8.heap.size := by omega
  clear la
  have la := la'
  clear la'
  have lb' : ba + 1 < w8.heap.size := by omega
  clear lb
  have lb := lb'
  clear lb'
  have ls' : bs < w8.heap.size := by omega
  clear ls
  have ls := ls'
  clear ls'
  have lt' : bt < w8.heap.size := by omega
  clear lt
  have lt := lt'
  clear lt'
  have lp' : bp < w8.heap.size := by omega
  clear lp
  have lp := lp'
  clear lp'
  have lq' : bq < w8.heap.size := by omega
  clear lq
  have lq := lq'
  clear lq'
  have HB' : Hid (Below w.heap.size w w8) := below_step (below_new (below_new (HB.out) _) _) hb
  clear HB hb hk hz
  have HB := HB'
  clear HB'
  obtain ⟨a1, a2, a3⟩ := Ha.out
  have na0 : ba ≠ w8.heap.size := by omega
  have na1 : ba ≠ w8.heap.size + 1 := by omega
  obtain ⟨b1, b2, b3⟩ := Hb.out
  have nb0 : ba + 1 ≠ w8.heap.size := by omega
  have nb1 : ba + 1 ≠ w8.heap.size + 1 := by omega
  go_wp2_with fail
  clear a1 a2 a3 na0 na1
  clear b1 b2 b3 nb0 nb1
  refine (H8.out _ _ (by simp)).mono ?_
  rintro e w9 ⟨rfl, hb⟩
  have hk : Below w8.heap.size w8 w9 := below_step (below_new (below_own _) _) hb
  have hz : w8.heap.size + 1 < w9.heap.size := by have := hb.size; simp at this; omega
  have Ha' : Hid (At w9 (ba) 0 (1, x, ⟨#[]⟩)) := Ha.out.on (by omega) hk
  clear Ha
  have Ha := Ha'
  clear Ha'
  have Hb' : Hid (At w9 (ba + 1) 0 (1, y, ⟨#[]⟩)) := Hb.out.on (by omega) hk
  clear Hb
  have Hb := Hb'
  clear Hb'
  have Hs' : Hid (At w9 (bs) 0 (0, 0, ⟨#[]⟩)) := Hs.out.on (by omega) hk
  clear Hs
  have Hs := Hs'
  clear Hs'
  have Ht' : Hid (At w9 (bt) 0 (0, 0, ⟨#[]⟩)) := Ht.out.on (by omega) hk
  clear Ht
  have Ht := Ht'
  clear Ht'
  have Hp' : Hid (At w9 (bp) 0 (pk, pn, ps)) := Hp.out.on (by omega) hk
  clear Hp
  have Hp := Hp'
  clear Hp'
  have Hq' : Hid (At w9 (bq) 0 (pk, pn, ps)) := Hq.out.on (by omega) hk
  clear Hq
  have Hq := Hq'
  clear Hq'
  have la' : ba < w9.heap.size := by omega
  clear la
  have la := la'
  clear la'
  have lb' : ba + 1 < w9.heap.size := by omega
  clear lb
  have lb := lb'
  clear lb'
  have ls' : bs < w9.heap.size := by omega
  clear ls
  have ls := ls'
  clear ls'
  have lt' : bt < w9.heap.size := by omega
  clear lt
  have lt := lt'
  clear lt'
  have lp' : bp < w9.heap.size := by omega
  clear lp
  have lp := lp'
  clear lp'
  have lq' : bq < w9.heap.size := by omega
  clear lq
  have lq := lq'
  clear lq'
  have HB' : Hid (Below w.heap.size w w9) := below_step (below_new (below_new (HB.out) _) _) hb
  clear HB hb hk hz
  have HB := HB'
  clear HB'
  obtain ⟨a1, a2, a3⟩ := Ha.out
  have na0 : ba ≠ w9.heap.size := by omega
  have na1 : ba ≠ w9.heap.size + 1 := by omega
  obtain ⟨b1, b2, b3⟩ := Hb.out
  have nb0 : ba + 1 ≠ w9.heap.size := by omega
  have nb1 : ba + 1 ≠ w9.heap.size + 1 := by omega
  go_wp2_with fail
  clear a1 a2 a3 na0 na1
  clear b1 b2 b3 nb0 nb1
  refine (H9.out _ _ (by simp)).mono ?_
  rintro e w10 ⟨rfl, hb⟩
  have hk : Below w9.heap.size w9 w10 := below_step (below_new (below_own _) _) hb
  have hz : w9.heap.size + 1 < w10.heap.size := by have := hb.size; simp at this; omega
  have Ha' : Hid (At w10 (ba) 0 (1, x, ⟨#[]⟩)) := Ha.out.on (by omega) hk
  clear Ha
  have Ha := Ha'
  clear Ha'
  have Hb' : Hid (At w10 (ba + 1) 0 (1, y, ⟨#[]⟩)) := Hb.out.on (by omega) hk
  clear Hb
  have Hb := Hb'
  clear Hb'
  have Hs' : Hid (At w10 (bs) 0 (0, 0, ⟨#[]⟩)) := Hs.out.on (by omega) hk
  clear Hs
  have Hs := Hs'
  clear Hs'
  have Ht' : Hid (At w10 (bt) 0 (0, 0, ⟨#[]⟩)) := Ht.out.on (by omega) hk
  clear Ht
  have Ht := Ht'
  clear Ht'
  have Hp' : Hid (At w10 (bp) 0 (pk, pn, ps)) := Hp.out.on (by omega) hk
  clear Hp
  have Hp := Hp'
  clear Hp'
  have Hq' : Hid (At w10 (bq) 0 (pk, pn, ps)) := Hq.out.on (by omega) hk
  clear Hq
  have Hq := Hq'
  clear Hq'
  have Hu : Hid (At w10 w9.heap.size 0 (1, 1, ⟨#[]⟩)) := ((at_made _ _ _ _ _).later (below_own _) (by simp)).later hb (by simp <;> omega)
  obtain ⟨bu, hbv⟩ : ∃ b, b = w9.heap.size := ⟨_, rfl⟩
  rw [← hbv] at Hu hz ⊢
  rw [← hbv] at la lb ls lt lp lq
  clear hbv
  have lu : bu < w10.heap.size := by omega
  have la' : ba < w10.heap.size := by omega
  clear la
  have la := la'
  clear la'
  have lb' : ba + 1 < w10.heap.size := by omega
  clear lb
  have lb := lb'
  clear lb'
  have ls' : bs < w10.heap.size := by omega
  clear ls
  have ls := ls'
  clear ls'
  have lt' : bt < w10.heap.size := by omega
  clear lt
  have lt := lt'
  clear lt'
  have lp' : bp < w10.heap.size := by omega
  clear lp
  have lp := lp'
  clear lp'
  have lq' : bq < w10.heap.size := by omega
  clear lq
  have lq := lq'
  clear lq'
  have HB' : Hid (Below w.heap.size w w10) := below_step (below_new (below_new (HB.out) _) _) hb
  clear HB hb hk hz
  have HB := HB'
  clear HB'
  have hlt : decide (x < y) = true := hl
  obtain ⟨u1, u2, u3⟩ := Hu.out
  have nu0 : bu ≠ w10.heap.size := by omega
  go_wp2
  go_ret
  exact ⟨rfl, below_new HB.out _⟩

set_option maxHeartbeats 4000000 in
theorem laws_xng (x y : Int) (w : World) (hx : In64 x) (hy : In64 y) (hs : fitB (x + y) = false) (hn : fitB (-x) = true) (hl : decide (x < y) = false) :
    Calls Tryd.prog 6 #[.int .i64 x, .int .i64 y] w fun e w' => e = .returned (.bool true) ∧ Below w.heap.size w w' := by
  obtain ⟨⟨⟨pk, pn, ps⟩, pe⟩, hp⟩ : ∃ r : V3 × Int, doV 3 [numT x, numT y] = r := ⟨_, rfl⟩
  have hp' : doV 3 [numT y, numT x] = ((pk, pn, ps), pe) := by rw [mul_num, Int.mul_comm, ← mul_num]; exact hp
  have H1 := Lib.hid (fun w g hg => do_err2 1 x y 300 (by rw [add_num, if_neg (by rw [hs]; simp)]) w g hg hx hy)
  have H2 := Lib.hid (fun w g hg => do_err2 1 y x 300 (by rw [add_num, Int.add_comm y x, if_neg (by rw [hs]; simp)]) w g hg hy hx)
  have hq1 := fun w => ne_self 0 0 ⟨#[]⟩ w
  have H3 := Lib.hid (fun w g hg => do_gen2 3 x y _ hp w g hg hx hy)
  have H4 := Lib.hid (fun w g hg => do_gen2 3 y x _ hp' w g hg hy hx)
  have hq2 := fun w => ne_self pk pn ps w
  have hpe : (pe != pe) = false := by simp
  have H6 := Lib.hid (fun w g hg => do_num1 4 x (-x) (by rw [neg_num, if_pos hn]) w g hg hx)
  have H7 := Lib.hid (fun w g hg => do_num1 4 (-x) x (by rw [neg_num, Int.neg_neg, if_pos ((fit_iff _).2 hx)]) w g hg (In64.of_fit hn))
  have hq3 := fun w => ne_self 1 x ⟨#[]⟩ w
  have H8 := Lib.hid (fun w g hg => do_num2 7 x y 0 (by rw [lt_num, hl]; rfl) w g hg hx hy)
  have H9 := Lib.hid (fun w g hg => do_num2 8 y x 1 (by rw [le_num, show decide (y ≤ x) = true from by rw [decide_eq_true_iff]; have := of_decide_eq_false hl; omega]; rfl) w g hg hy hx)
  have HA := Lib.hid awake_any
  have hg := eqGuardV
  clear hs hn hp hp' hx hy
  go_enter Tryd.func6, Tryd.ntmps6
  go_wp2_with fail
  refine (HA.out _).mono ?_
  rintro e w1 ⟨rfl, hb1⟩
  have HB := Lib.hid hb1
  clear hb1 HA
  go_wp2_with (go_at_call 22; refine (refNumber_any _ _).mono ?_; rintro e w' ⟨rfl, rfl⟩)
  refine (H1.out _ _ (by simp)).mono ?_
  rintro e w2 ⟨rfl, hb2⟩
  have Ha : Hid (At w2 (w1.heap.size + 1 + 1) 0 (1, x, ⟨#[]⟩)) := by
    refine At.later ?_ hb2 (by simp)
    constructor <;> go_simp
  have Hb : Hid (At w2 (w1.heap.size + 1 + 1 + 1) 0 (1, y, ⟨#[]⟩)) := by
    refine At.later ?_ hb2 (by simp)
    constructor <;> go_simp
  have hz : w1.heap.size + 1 + 1 + 1 < w2.heap.size := by have := hb2.size; simp at this; omega
  have HB' : Hid (Below w.heap.size w w2) := below_step (below_new (below_new (below_new (below_new (below_new HB.out _) _) _) _) _) hb2
  clear hb2 HB
  have HB := HB'
  clear HB'
  obtain ⟨ba, hba⟩ : ∃ b, b = w1.heap.size + 1 + 1 := ⟨_, rfl⟩
  rw [← hba] at Ha Hb hz ⊢
  clear hba
  have la : ba < w2.heap.size := by omega
  have lb : ba + 1 < w2.heap.size := by omega
  clear hz
  obtain ⟨a1, a2, a3⟩ := Ha.out
  have na0 : ba ≠ w2.heap.size := by omega
  have na1 : ba ≠ w2.heap.size + 1 := by omega
  obtain ⟨b1, b2, b3⟩ := Hb.out
  have nb0 : ba + 1 ≠ w2.heap.size := by omega
  have nb1 : ba + 1 ≠ w2.heap.size + 1 := by omega
  go_wp2_with fail
  clear a1 a2 a3 na0 na1
  clear b1 b2 b3 nb0 nb1
  refine (H2.out _ _ (by simp)).mono ?_
  rintro e w3 ⟨rfl, hb⟩
  have hk : Below w2.heap.size w2 w3 := below_step (below_new (below_own _) _) hb
  have hz : w2.heap.size + 1 < w3.heap.size := by have := hb.size; simp at this; omega
  have Ha' : Hid (At w3 (ba) 0 (1, x, ⟨#[]⟩)) := Ha.out.on (by omega) hk
  clear Ha
  have Ha := Ha'
  clear Ha'
  have Hb' : Hid (At w3 (ba + 1) 0 (1, y, ⟨#[]⟩)) := Hb.out.on (by omega) hk
  clear Hb
  have Hb := Hb'
  clear Hb'
  have Hs : Hid (At w3 w2.heap.size 0 (0, 0, ⟨#[]⟩)) := ((at_made _ _ _ _ _).later (below_own _) (by simp)).later hb (by simp <;> omega)
  obtain ⟨bs, hbv⟩ : ∃ b, b = w2.heap.size := ⟨_, rfl⟩
  rw [← hbv] at Hs hz ⊢
  rw [← hbv] at la lb
  clear hbv
  have ls : bs < w3.heap.size := by omega
  have la' : ba < w3.heap.size := by omega
  clear la
  have la := la'
  clear la'
  have lb' : ba + 1 < w3.heap.size := by omega
  clear lb
  have lb := lb'
  clear lb'
  have HB' : Hid (Below w.heap.size w w3) := below_step (below_new (below_new (HB.out) _) _) hb
  clear HB hb hk hz
  have HB := HB'
  clear HB'
  obtain ⟨a1, a2, a3⟩ := Ha.out
  have na0 : ba ≠ w3.heap.size := by omega
  have na1 : ba ≠ w3.heap.size + 1 := by omega
  obtain ⟨b1, b2, b3⟩ := Hb.out
  have nb0 : ba + 1 ≠ w3.heap.size := by omega
  have nb1 : ba + 1 ≠ w3.heap.size + 1 := by omega
  go_wp2_with fail
  clear a1 a2 a3 na0 na1
  clear b1 b2 b3 nb0 nb1
  refine (H3.out _ _ (by simp)).mono ?_
  rintro e w4 ⟨rfl, hb⟩
  have hk : Below w3.heap.size w3 w4 := below_step (below_new (below_own _) _) hb
  have hz : w3.heap.size + 1 < w4.heap.size := by have := hb.size; simp at this; omega
  have Ha' : Hid (At w4 (ba) 0 (1, x, ⟨#[]⟩)) := Ha.out.on (by omega) hk
  clear Ha
  have Ha := Ha'
  clear Ha'
  have Hb' : Hid (At w4 (ba + 1) 0 (1, y, ⟨#[]⟩)) := Hb.out.on (by omega) hk
  clear Hb
  have Hb := Hb'
  clear Hb'
  have Hs' : Hid (At w4 (bs) 0 (0, 0, ⟨#[]⟩)) := Hs.out.on (by omega) hk
  clear Hs
  have Hs := Hs'
  clear Hs'
  have Ht : Hid (At w4 w3.heap.size 0 (0, 0, ⟨#[]⟩)) := ((at_made _ _ _ _ _).later (below_own _) (by simp)).later hb (by simp <;> omega)
  obtain ⟨bt, hbv⟩ : ∃ b, b = w3.heap.size := ⟨_, rfl⟩
  rw [← hbv] at Ht hz ⊢
  rw [← hbv] at la lb ls
  clear hbv
  have lt : bt < w4.heap.size := by omega
  have la' : ba < w4.heap.size := by omega
  clear la
  have la := la'
  clear la'
  have lb' : ba + 1 < w4.heap.size := by omega
  clear lb
  have lb := lb'
  clear lb'
  have ls' : bs < w4.heap.size := by omega
  clear ls
  have ls := ls'
  clear ls'
  have HB' : Hid (Below w.heap.size w w4) := below_step (below_new (below_new (HB.out) _) _) hb
  clear HB hb hk hz
  have HB := HB'
  clear HB'
  obtain ⟨a1, a2, a3⟩ := Ha.out
  have na0 : ba ≠ w4.heap.size := by omega
  have na1 : ba ≠ w4.heap.size + 1 := by omega
  obtain ⟨b1, b2, b3⟩ := Hb.out
  have nb0 : ba + 1 ≠ w4.heap.size := by omega
  have nb1 : ba + 1 ≠ w4.heap.size + 1 := by omega
  go_wp2_with fail
  clear a1 a2 a3 na0 na1
  clear b1 b2 b3 nb0 nb1
  refine (H4.out _ _ (by simp)).mono ?_
  rintro e w5 ⟨rfl, hb⟩
  have hk : Below w4.heap.size w4 w5 := below_step (below_new (below_own _) _) hb
  have hz : w4.heap.size + 1 < w5.heap.size := by have := hb.size; simp at this; omega
  have Ha' : Hid (At w5 (ba) 0 (1, x, ⟨#[]⟩)) := Ha.out.on (by omega) hk
  clear Ha
  have Ha := Ha'
  clear Ha'
  have Hb' : Hid (At w5 (ba + 1) 0 (1, y, ⟨#[]⟩)) := Hb.out.on (by omega) hk
  clear Hb
  have Hb := Hb'
  clear Hb'
  have Hs' : Hid (At w5 (bs) 0 (0, 0, ⟨#[]⟩)) := Hs.out.on (by omega) hk
  clear Hs
  have Hs := Hs'
  clear Hs'
  have Ht' : Hid (At w5 (bt) 0 (0, 0, ⟨#[]⟩)) := Ht.out.on (by omega) hk
  clear Ht
  have Ht := Ht'
  clear Ht'
  have Hp : Hid (At w5 w4.heap.size 0 (pk, pn, ps)) := ((at_made _ _ _ _ _).later (below_own _) (by simp)).later hb (by simp <;> omega)
  obtain ⟨bp, hbv⟩ : ∃ b, b = w4.heap.size := ⟨_, rfl⟩
  rw [← hbv] at Hp hz ⊢
  rw [← hbv] at la lb ls lt
  clear hbv
  have lp : bp < w5.heap.size := by omega
  have la' : ba < w5.heap.size := by omega
  clear la
  have la := la'
  clear la'
  have lb' : ba + 1 < w5.heap.size := by omega
  clear lb
  have lb := lb'
  clear lb'
  have ls' : bs < w5.heap.size := by omega
  clear ls
  have ls := ls'
  clear ls'
  have lt' : bt < w5.heap.size := by omega
  clear lt
  have lt := lt'
  clear lt'
  have HB' : Hid (Below w.heap.size w w5) := below_step (below_new (below_new (HB.out) _) _) hb
  clear HB hb hk hz
  have HB := HB'
  clear HB'
  obtain ⟨s1, s2, s3⟩ := Hs.out
  have ns0 : bs ≠ w5.heap.size := by omega
  have ns1 : bs ≠ w5.heap.size + 1 := by omega
  obtain ⟨t1, t2, t3⟩ := Ht.out
  have nt0 : bt ≠ w5.heap.size := by omega
  have nt1 : bt ≠ w5.heap.size + 1 := by omega
  obtain ⟨p1, p2, p3⟩ := Hp.out
  have np0 : bp ≠ w5.heap.size := by omega
  have np1 : bp ≠ w5.heap.size + 1 := by omega
  obtain ⟨a1, a2, a3⟩ := Ha.out
  have na0 : ba ≠ w5.heap.size := by omega
  have na1 : ba ≠ w5.heap.size + 1 := by omega
  go_wp2_with fail
  clear s1 s2 s3 ns0 ns1
  clear t1 t2 t3 nt0 nt1
  clear p1 p2 p3 np0 np1
  clear a1 a2 a3 na0 na1
  refine (H6.out _ _ (by simp)).mono ?_
  rintro e w7 ⟨rfl, hb⟩
  have hk : Below w5.heap.size w5 w7 := below_step (below_new (below_own _) _) hb
  have hz : w5.heap.size + 1 < w7.heap.size := by have := hb.size; simp at this; omega
  have Ha' : Hid (At w7 (ba) 0 (1, x, ⟨#[]⟩)) := Ha.out.on (by omega) hk
  clear Ha
  have Ha := Ha'
  clear Ha'
  have Hb' : Hid (At w7 (ba + 1) 0 (1, y, ⟨#[]⟩)) := Hb.out.on (by omega) hk
  clear Hb
  have Hb := Hb'
  clear Hb'
  have Hs' : Hid (At w7 (bs) 0 (0, 0, ⟨#[]⟩)) := Hs.out.on (by omega) hk
  clear Hs
  have Hs := Hs'
  clear Hs'
  have Ht' : Hid (At w7 (bt) 0 (0, 0, ⟨#[]⟩)) := Ht.out.on (by omega) hk
  clear Ht
  have Ht := Ht'
  clear Ht'
  have Hp' : Hid (At w7 (bp) 0 (pk, pn, ps)) := Hp.out.on (by omega) hk
  clear Hp
  have Hp := Hp'
  clear Hp'
  have Hq : Hid (At w7 w5.heap.size 0 (pk, pn, ps)) := ((at_made _ _ _ _ _).later (below_own _) (by simp)).later hb (by simp <;> omega)
  obtain ⟨bq, hbv⟩ : ∃ b, b = w5.heap.size := ⟨_, rfl⟩
  rw [← hbv] at Hq hz ⊢
  rw [← hbv] at la lb ls lt lp
  clear hbv
  have lq : bq < w7.heap.size := by omega
  have la' : ba < w7.heap.size := by omega
  clear la
  have la := la'
  clear la'
  have lb' : ba + 1 < w7.heap.size := by omega
  clear lb
  have lb := lb'
  clear lb'
  have ls' : bs < w7.heap.size := by omega
  clear ls
  have ls := ls'
  clear ls'
  have lt' : bt < w7.heap.size := by omega
  clear lt
  have lt := lt'
  clear lt'
  have lp' : bp < w7.heap.size := by omega
  clear lp
  have lp := lp'
  clear lp'
  have HB' : Hid (Below w.heap.size w w7) := below_step (below_new (below_new (HB.out) _) _) hb
  clear HB hb hk hz
  have HB := HB'
  clear HB'
  go_wp2_with fail
  refine (H7.out _ _ (by simp)).mono ?_
  rintro e w8 ⟨rfl, hb⟩
  have hk : Below w7.heap.size w7 w8 := below_step (below_new (below_own _) _) hb
  have hz : w7.heap.size + 1 < w8.heap.size := by have := hb.size; simp at this; omega
  have Ha' : Hid (At w8 (ba) 0 (1, x, ⟨#[]⟩)) := Ha.out.on (by omega) hk
  clear Ha
  have Ha := Ha'
  clear Ha'
  have Hb' : Hid (At w8 (ba + 1) 0 (1, y, ⟨#[]⟩)) := Hb.out.on (by omega) hk
  clear Hb
  have Hb := Hb'
  clear Hb'
  have Hs' : Hid (At w8 (bs) 0 (0, 0, ⟨#[]⟩)) := Hs.out.on (by omega) hk
  clear Hs
  have Hs := Hs'
  clear Hs'
  have Ht' : Hid (At w8 (bt) 0 (0, 0, ⟨#[]⟩)) := Ht.out.on (by omega) hk
  clear Ht
  have Ht := Ht'
  clear Ht'
  have Hp' : Hid (At w8 (bp) 0 (pk, pn, ps)) := Hp.out.on (by omega) hk
  clear Hp
  have Hp := Hp'
  clear Hp'
  have Hq' : Hid (At w8 (bq) 0 (pk, pn, ps)) := Hq.out.on (by omega) hk
  clear Hq
  have Hq := Hq'
  clear Hq'
  have la' : ba < w8.heap.size := by omega
  clear la
  have la := la'
  clear la'
  have lb' : ba + 1 < w8.heap.size := by omega
  clear lb
  have lb := lb'
  clear lb'
  have ls' : bs < w8.heap.size := by omega
  clear ls
  have ls := ls'
  clear ls'
  have lt' : bt < w8.heap.size := by omega
  clear lt
  have lt := lt'
  clear lt'
  have lp' : bp < w8.heap.size := by omega
  clear lp
  have lp := lp'
  clear lp'
  have lq' : bq < w8.heap.size := by omega
  clear lq
  have lq := lq'
  clear lq'
  have HB' : Hid (Below w.heap.size w w8) := below_step (below_new (below_new (HB.out) _) _) hb
  clear HB hb hk hz
  have HB := HB'
  clear HB'
  obtain ⟨a1, a2, a3⟩ := Ha.out
  have na0 : ba ≠ w8.heap.size := by omega
  have na1 : ba ≠ w8.heap.size + 1 := by omega
  obtain ⟨b1, b2, b3⟩ := Hb.out
  have nb0 : ba + 1 ≠ w8.heap.size := by omega
  have nb1 : ba + 1 ≠ w8.heap.size + 1 := by omega
  go_wp2_with fail
  clear a1 a2 a3 na0 na1
  clear b1 b2 b3 nb0 nb1
  refine (H8.out _ _ (by simp)).mono ?_
  rintro e w9 ⟨rfl, hb⟩
  have hk : Below w8.heap.size w8 w9 := below_step (below_new (below_own _) _) hb
  have hz : w8.heap.size + 1 < w9.heap.size := by have := hb.size; simp at this; omega
  have Ha' : Hid (At w9 (ba) 0 (1, x, ⟨#[]⟩)) := Ha.out.on (by omega) hk
  clear Ha
  have Ha := Ha'
  clear Ha'
  have Hb' : Hid (At w9 (ba + 1) 0 (1, y, ⟨#[]⟩)) := Hb.out.on (by omega) hk
  clear Hb
  have Hb := Hb'
  clear Hb'
  have Hs' : Hid (At w9 (bs) 0 (0, 0, ⟨#[]⟩)) := Hs.out.on (by omega) hk
  clear Hs
  have Hs := Hs'
  clear Hs'
  have Ht' : Hid (At w9 (bt) 0 (0, 0, ⟨#[]⟩)) := Ht.out.on (by omega) hk
  clear Ht
  have Ht := Ht'
  clear Ht'
  have Hp' : Hid (At w9 (bp) 0 (pk, pn, ps)) := Hp.out.on (by omega) hk
  clear Hp
  have Hp := Hp'
  clear Hp'
  have Hq' : Hid (At w9 (bq) 0 (pk, pn, ps)) := Hq.out.on (by omega) hk
  clear Hq
  have Hq := Hq'
  clear Hq'
  have la' : ba < w9.heap.size := by omega
  clear la
  have la := la'
  clear la'
  have lb' : ba + 1 < w9.heap.size := by omega
  clear lb
  have lb := lb'
  clear lb'
  have ls' : bs < w9.heap.size := by omega
  clear ls
  have ls := ls'
  clear ls'
  have lt' : bt < w9.heap.size := by omega
  clear lt
  have lt := lt'
  clear lt'
  have lp' : bp < w9.heap.size := by omega
  clear lp
  have lp := lp'
  clear lp'
  have lq' : bq < w9.heap.size := by omega
  clear lq
  have lq := lq'
  clear lq'
  have HB' : Hid (Below w.heap.size w w9) := below_step (below_new (below_new (HB.out) _) _) hb
  clear HB hb hk hz
  have HB := HB'
  clear HB'
  obtain ⟨a1, a2, a3⟩ := Ha.out
  have na0 : ba ≠ w9.heap.size := by omega
  have na1 : ba ≠ w9.heap.size + 1 := by omega
  obtain ⟨b1, b2, b3⟩ := Hb.out
  have nb0 : ba + 1 ≠ w9.heap.size := by omega
  have nb1 : ba + 1 ≠ w9.heap.size + 1 := by omega
  go_wp2_with fail
  clear a1 a2 a3 na0 na1
  clear b1 b2 b3 nb0 nb1
  refine (H9.out _ _ (by simp)).mono ?_
  rintro e w10 ⟨rfl, hb⟩
  have hk : Below w9.heap.size w9 w10 := below_step (below_new (below_own _) _) hb
  have hz : w9.heap.size + 1 < w10.heap.size := by have := hb.size; simp at this; omega
  have Ha' : Hid (At w10 (ba) 0 (1, x, ⟨#[]⟩)) := Ha.out.on (by omega) hk
  clear Ha
  have Ha := Ha'
  clear Ha'
  have Hb' : Hid (At w10 (ba + 1) 0 (1, y, ⟨#[]⟩)) := Hb.out.on (by omega) hk
  clear Hb
  have Hb := Hb'
  clear Hb'
  have Hs' : Hid (At w10 (bs) 0 (0, 0, ⟨#[]⟩)) := Hs.out.on (by omega) hk
  clear Hs
  have Hs := Hs'
  clear Hs'
  have Ht' : Hid (At w10 (bt) 0 (0, 0, ⟨#[]⟩)) := Ht.out.on (by omega) hk
  clear Ht
  have Ht := Ht'
  clear Ht'
  have Hp' : Hid (At w10 (bp) 0 (pk, pn, ps)) := Hp.out.on (by omega) hk
  clear Hp
  have Hp := Hp'
  clear Hp'
  have Hq' : Hid (At w10 (bq) 0 (pk, pn, ps)) := Hq.out.on (by omega) hk
  clear Hq
  have Hq := Hq'
  clear Hq'
  have Hu : Hid (At w10 w9.heap.size 0 (1, 0, ⟨#[]⟩)) := ((at_made _ _ _ _ _).later (below_own _) (by simp)).later hb (by simp <;> omega)
  obtain ⟨bu, hbv⟩ : ∃ b, b = w9.heap.size := ⟨_, rfl⟩
  rw [← hbv] at Hu hz ⊢
  rw [← hbv] at la lb ls lt lp lq
  clear hbv
  have lu : bu < w10.heap.size := by omega
  have la' : ba < w10.heap.size := by omega
  clear la
  have la := la'
  clear la'
  have lb' : ba + 1 < w10.heap.size := by omega
  clear lb
  have lb := lb'
  clear lb'
  have ls' : bs < w10.heap.size := by omega
  clear ls
  have ls := ls'
  clear ls'
  have lt' : bt < w10.heap.size := by omega
  clear lt
  have lt := lt'
  clear lt'
  have lp' : bp < w10.heap.size := by omega
  clear lp
  have lp := lp'
  clear lp'
  have lq' : bq < w10.heap.size := by omega
  clear lq
  have lq := lq'
  clear lq'
  have HB' : Hid (Below w.heap.size w w10) := below_step (below_new (below_new (HB.out) _) _) hb
  clear HB hb hk hz
  have HB := HB'
  clear HB'
  have hlt : decide (x < y) = false := hl
  obtain ⟨u1, u2, u3⟩ := Hu.out
  have nu0 : bu ≠ w10.heap.size := by omega
  go_wp2
  go_ret
  exact ⟨rfl, below_new HB.out _⟩
end Go.Proofs.YtcmbedopmkodmaaDoor
