/- A look at a node: has it a shape? -/
import Derived.Test.YtfmjhbaenpbfoaaGreatDoorHas
namespace Go.Proofs.YtfmjhbaenpbfoaaGreatDoor
open Go.RowKit

def Sh.has (s : Sh) (k : Int) (x : ByteArray) (n : Int) (l : List T) : Bool := k == s.kind && s.text x && decide (s.low ≤ n) && decide (n ≤ s.high) && turnK s.least s.most s.rows l
/-- A line as it lies. -/
structure ShAt (B : Nat) (w : World) (s : Sh) (f : FuncId) (u : Value) : Prop where
  ok : TextOK f s.text
  clos : ClosAt B w u s.least s.most s.rows
  rl : s.rows.length ≤ 10
  kl : ∀ ks, ks ∈ s.rows → ks.length ≤ 1000
abbrev shV (s : Sh) (f : FuncId) (u : Value) : Value := .agg #[.int .u8 s.kind, .func (.func f) #[] #[], .int .i64 s.low, .int .i64 s.high, u]

set_option maxRecDepth 100000 in
set_option maxHeartbeats 2000000 in
theorem has_any (s : Sh) (f : FuncId) (u : Value) (t : T) (v : Value) (ab : Int) (w : World) (hs : ShAt w.heap.size w s f u) (hL : Laid w) (hk : Lies w.heap.size w t v) (hx : t.text.size ≤ 281474976710656) :
    Calls Tryz.prog 55 #[.agg #[.int .u8 t.kind, .string t.text, .int .i64 t.num, .int .i64 t.pos, v, .int .i64 ab], shV s f u] w fun e w' => e = .returned (.bool (s.has t.kind t.text t.num t.kids)) ∧ Below w.heap.size w w' := by
  obtain ⟨ao, c, ps, rfl, k1⟩ := hk.out
  obtain ⟨b1, b2, b3, rv, hu, h1, h2, h3, h4, h5, h6, h7⟩ := hs.clos
  subst hu
  have HB2 : Hid (Below w.heap.size w ((w.alloc (.cells #[.int .u8 t.kind, .string t.text, .int .i64 t.num, .int .i64 t.pos, .slice ao t.kids.length c, .int .i64 ab] 62)).alloc (.cells #[.int .u8 s.kind, .func (.func f) #[] #[], .int .i64 s.low, .int .i64 s.high, .func (.func 74) #[] #[.pointer (some ⟨b1, 0, none⟩), .pointer (some ⟨b2, 0, none⟩), .pointer (some ⟨b3, 0, none⟩)]] 89))) := below_two _ _ _
  have KT := Lib.hid (hs.ok.run t.text ((w.alloc (.cells #[.int .u8 t.kind, .string t.text, .int .i64 t.num, .int .i64 t.pos, .slice ao t.kids.length c, .int .i64 ab] 62)).alloc (.cells #[.int .u8 s.kind, .func (.func f) #[] #[], .int .i64 s.low, .int .i64 s.high, .func (.func 74) #[] #[.pointer (some ⟨b1, 0, none⟩), .pointer (some ⟨b2, 0, none⟩), .pointer (some ⟨b3, 0, none⟩)]] 89)) hx (hL.below HB2.out))
  have KC : Hid (∀ W, Below w.heap.size w W → Calls Tryz.prog 74 #[.slice ao t.kids.length c, .pointer (some ⟨b1, 0, none⟩), .pointer (some ⟨b2, 0, none⟩), .pointer (some ⟨b3, 0, none⟩)] W fun e w' => e = .returned (.bool (turnK s.least s.most s.rows t.kids)) ∧ W = w') := fun W hW =>
    turn_any s.least s.most s.rows t ao c ps b1 b2 b3 rv W (k1.up hW hW.size) ((hW.cell (p := ⟨b1, 0, none⟩) h1).trans h4) ((hW.cell (p := ⟨b2, 0, none⟩) h2).trans h5) ((hW.cell (p := ⟨b3, 0, none⟩) h3).trans h6) (h7.up hW hW.size) hs.rl hs.kl
  have HE : Hid (s.has t.kind t.text t.num t.kids = (t.kind == s.kind && s.text t.text && decide (s.low ≤ t.num) && decide (t.num ≤ s.high) && turnK s.least s.most s.rows t.kids)) := rfl
  unfold shV
  generalize turnK s.least s.most s.rows t.kids = tk at KC HE
  generalize s.text t.text = tx at KT HE
  generalize t.kind = k at HB2 KT HE ⊢
  generalize s.kind = k' at HB2 KT HE ⊢
  generalize t.num = n at HB2 KT HE ⊢
  generalize s.low = lo at HB2 KT HE ⊢
  generalize s.high = hi at HB2 KT HE ⊢
  generalize s.has k t.text n t.kids = r at HE ⊢
  have hent := hs.ok.ent
  clear hs hk k1 h1 h2 h3 h4 h5 h6 h7 hL
  by_cases hkk : k = k'
  · have hkk' : (k == k') = true := beq_iff_eq.2 hkk
    cases tx with
    | true =>
      by_cases hlo : lo ≤ n
      · by_cases hhi : n ≤ hi
        · have HR : Hid (r = tk) := by
            unfold Hid
            rw [HE.out, hkk', decide_eq_true hlo, decide_eq_true hhi]
            rfl
          clear HE hkk
          go_enter Tryz.func55, Tryz.ntmps55
          go_wp2_with (first
            | (go_at_call 74; go_must (refine (KC.out _ (HB2.out.trans (HBx.out.mono HB2.out.size))).mono ?_; rintro e w4 ⟨rfl, rfl⟩))
            | (refine (KT.out).mono ?_; rintro e w3 ⟨rfl, hb3⟩; obtain ⟨q1, q2⟩ := two_boxes hb3; have q12 : w3.cell? ⟨w.heap.size, 2, none⟩ = some (.int .i64 n) := q1 2; have q14 : w3.cell? ⟨w.heap.size, 4, none⟩ = some (.slice ao t.kids.length c) := q1 4; have q22 : w3.cell? ⟨w.heap.size + 1, 2, none⟩ = some (.int .i64 lo) := q2 2; have q23 : w3.cell? ⟨w.heap.size + 1, 3, none⟩ = some (.int .i64 hi) := q2 3; have q24 : w3.cell? ⟨w.heap.size + 1, 4, none⟩ = some (.func (.func 74) #[] #[.pointer (some ⟨b1, 0, none⟩), .pointer (some ⟨b2, 0, none⟩), .pointer (some ⟨b3, 0, none⟩)]) := q2 4; have HBx := Lib.hid hb3; clear hb3 q1 q2))
          go_ret
          exact ⟨by rw [HR.out]; rfl, HB2.out.trans (HBx.out.mono HB2.out.size)⟩
        · have hhi' : decide (n ≤ hi) = false := decide_eq_false hhi
          have HR : Hid (r = false) := by
            unfold Hid
            rw [HE.out, hhi', Bool.and_false, Bool.false_and]
          clear HE hkk KC
          go_enter Tryz.func55, Tryz.ntmps55
          go_wp2_with (refine (KT.out).mono ?_; rintro e w3 ⟨rfl, hb3⟩; obtain ⟨q1, q2⟩ := two_boxes hb3; have q12 : w3.cell? ⟨w.heap.size, 2, none⟩ = some (.int .i64 n) := q1 2; have q14 : w3.cell? ⟨w.heap.size, 4, none⟩ = some (.slice ao t.kids.length c) := q1 4; have q22 : w3.cell? ⟨w.heap.size + 1, 2, none⟩ = some (.int .i64 lo) := q2 2; have q23 : w3.cell? ⟨w.heap.size + 1, 3, none⟩ = some (.int .i64 hi) := q2 3; have q24 : w3.cell? ⟨w.heap.size + 1, 4, none⟩ = some (.func (.func 74) #[] #[.pointer (some ⟨b1, 0, none⟩), .pointer (some ⟨b2, 0, none⟩), .pointer (some ⟨b3, 0, none⟩)]) := q2 4; have HBx := Lib.hid hb3; clear hb3 q1 q2)
          go_ret
          exact ⟨by rw [HR.out]; rfl, HB2.out.trans (HBx.out.mono HB2.out.size)⟩
      · have hlo' : decide (lo ≤ n) = false := decide_eq_false hlo
        have HR : Hid (r = false) := by
          unfold Hid
          rw [HE.out, hlo', Bool.and_false, Bool.false_and, Bool.false_and]
        clear HE hkk KC
        go_enter Tryz.func55, Tryz.ntmps55
        go_wp2_with (refine (KT.out).mono ?_; rintro e w3 ⟨rfl, hb3⟩; obtain ⟨q1, q2⟩ := two_boxes hb3; have q12 : w3.cell? ⟨w.heap.size, 2, none⟩ = some (.int .i64 n) := q1 2; have q14 : w3.cell? ⟨w.heap.size, 4, none⟩ = some (.slice ao t.kids.length c) := q1 4; have q22 : w3.cell? ⟨w.heap.size + 1, 2, none⟩ = some (.int .i64 lo) := q2 2; have q23 : w3.cell? ⟨w.heap.size + 1, 3, none⟩ = some (.int .i64 hi) := q2 3; have q24 : w3.cell? ⟨w.heap.size + 1, 4, none⟩ = some (.func (.func 74) #[] #[.pointer (some ⟨b1, 0, none⟩), .pointer (some ⟨b2, 0, none⟩), .pointer (some ⟨b3, 0, none⟩)]) := q2 4; have HBx := Lib.hid hb3; clear hb3 q1 q2)
        go_ret
        exact ⟨by rw [HR.out]; rfl, HB2.out.trans (HBx.out.mono HB2.out.size)⟩
    | false =>
      have HR : Hid (r = false) := by
        unfold Hid
        rw [HE.out, Bool.and_false, Bool.false_and, Bool.false_and, Bool.false_and]
      clear HE hkk KC
      go_enter Tryz.func55, Tryz.ntmps55
      go_wp2_with (refine (KT.out).mono ?_; rintro e w3 ⟨rfl, hb3⟩; obtain ⟨q1, q2⟩ := two_boxes hb3; have q12 : w3.cell? ⟨w.heap.size, 2, none⟩ = some (.int .i64 n) := q1 2; have q14 : w3.cell? ⟨w.heap.size, 4, none⟩ = some (.slice ao t.kids.length c) := q1 4; have q22 : w3.cell? ⟨w.heap.size + 1, 2, none⟩ = some (.int .i64 lo) := q2 2; have q23 : w3.cell? ⟨w.heap.size + 1, 3, none⟩ = some (.int .i64 hi) := q2 3; have q24 : w3.cell? ⟨w.heap.size + 1, 4, none⟩ = some (.func (.func 74) #[] #[.pointer (some ⟨b1, 0, none⟩), .pointer (some ⟨b2, 0, none⟩), .pointer (some ⟨b3, 0, none⟩)]) := q2 4; have HBx := Lib.hid hb3; clear hb3 q1 q2)
      go_ret
      exact ⟨by rw [HR.out]; rfl, HB2.out.trans (HBx.out.mono HB2.out.size)⟩
  · have hkk' : (k == k') = false := beq_eq_false_iff_ne.2 hkk
    have HR : Hid (r = false) := by
      unfold Hid
      rw [HE.out, hkk', Bool.false_and, Bool.false_and, Bool.false_and, Bool.false_and]
    clear HE hkk KC KT
    go_enter Tryz.func55, Tryz.ntmps55
    go_wp2_with fail
    go_ret
    exact ⟨by rw [HR.out]; rfl, HB2.out⟩
end Go.Proofs.YtfmjhbaenpbfoaaGreatDoor
