/- What the program's agenda tells, call by call: the forms that its proofs must have (rows of N matches at most). -/
import Derived.Test.YtlkmabnjmklkpaaDoorPAg14
import Derived.Test.YtlkmabnjmklkpaaDoorCaps14
import Derived.Test.YtlkmabnjmklkpaaDoorHold14
import Derived.Carry
namespace Go.Proofs.YtlkmabnjmklkpaaDoor
open Go.RowKit

/-- The program's agenda in memory: a form that lies at blocks of bs, and stays as long as these stay. -/
structure AgForm (PA : World → Nat → List Int → List TK → List Bool → (Nat → Prop) → Prop) : Prop where
  lt : ∀ {w db s l sp bs}, PA w db s l sp bs → ∀ b, bs b → b < w.heap.size
  touch : ∀ {w w' db s l sp bs S}, PA w db s l sp bs → Touch S w w' → (∀ b, bs b → ¬ S b) → PA w' db s l sp bs
abbrev AgP := World → Nat → List Int → List TK → List Bool → (Nat → Prop) → Prop

def NewTells (PA : AgP) : Prop := ∀ (s : List Int) (ao : Option Addr) (c : Nat) (W : World), s.length ≤ 64 → SlG W.heap.size W ao (rcells s) → (ao = none → c = 0) → s.length ≤ c →
  Calls Tryd.prog 14 #[aggR ao s.length c] W fun e W' => ∃ (db : Nat) (bs : Nat → Prop), e = .returned (.pointer (some ⟨db, 0, none⟩)) ∧ PA W' db s [] [] bs ∧ Below W.heap.size W W' ∧ ∀ b, bs b → W.heap.size ≤ b
def SetTells (PA : AgP) (N : Nat) : Prop := ∀ (s : List Int) (l : List TK) (sp : List Bool) (l2 : List TK) (db : Nat) (bs : Nat → Prop) (ao : Option Addr) (c : Nat) (W : World), s.length ≤ 64 → l.length ≤ N → l2.length ≤ N → (∀ t, t ∈ l2 → Fit14 t) → PA W db s l sp bs → SlTkC W.heap.size W ao l2 → (ao = none → c = 0) → l2.length ≤ c → Tab14 W →
  Calls Tryd.prog 7 #[.pointer (some ⟨db, 0, none⟩), .slice ao l2.length c] W fun e W' => Touch bs W W' ∧ ((SetOk s l2 ∧ e = .returned (.int .i64 0) ∧ ∃ bs' : Nat → Prop, PA W' db s l2 (l2.map (heldB l sp)) bs' ∧ ∀ b, bs' b → bs b ∨ W.heap.size ≤ b) ∨ (¬ SetOk s l2 ∧ e = .returned (.int .i64 4) ∧ PA W' db s l sp bs))
def NextTells (PA : AgP) : Prop := ∀ (s : List Int) (l : List TK) (sp : List Bool) (db : Nat) (bs : Nat → Prop) (W : World), s.length ≤ 64 → l.length ≤ 1000000 → PA W db s l sp bs →
  Calls Tryd.prog 6 #[.pointer (some ⟨db, 0, none⟩)] W fun e W' => Below W.heap.size W W' ∧ ((best14 s (unspent l sp) = none ∧ e = .returned (.tuple #[.agg #[.int .i64 0, .slice none 0 0], .bool false])) ∨ ∃ t, best14 s (unspent l sp) = some t ∧ ∃ ao c, e = .returned (.tuple #[aggK t.1 ao t.2.length c, .bool true]) ∧ SlG W'.heap.size W' ao (icells t.2) ∧ (ao = none → c = 0) ∧ t.2.length ≤ c ∧ ∀ a, ao = some a → W.heap.size ≤ a.block ∧ a.block < W'.heap.size)
def FireTells (PA : AgP) : Prop := ∀ (s : List Int) (l : List TK) (sp : List Bool) (x : TK) (db : Nat) (bs : Nat → Prop) (ao : Option Addr) (c : Nat) (W : World), s.length ≤ 64 → l.length ≤ 1000000 → x.2.length ≤ 1000000 → PA W db s l sp bs → SlG W.heap.size W ao (icells x.2) → (ao = none → c = 0) → x.2.length ≤ c → Tab14 W →
  Calls Tryd.prog 9 #[.pointer (some ⟨db, 0, none⟩), aggK x.1 ao x.2.length c] W fun e W' => e = .returned (.int .i64 (fireE l sp x)) ∧ Touch bs W W' ∧ ∃ bs' : Nat → Prop, PA W' db s l (fireS l sp x) bs' ∧ ∀ b, bs' b → bs b ∨ W.heap.size ≤ b
def FiredTells (PA : AgP) (N : Nat) : Prop := ∀ (s : List Int) (l : List TK) (sp : List Bool) (db : Nat) (bs : Nat → Prop) (W : World), s.length ≤ 64 → l.length ≤ N → PA W db s l sp bs →
  Calls Tryd.prog 10 #[.pointer (some ⟨db, 0, none⟩)] W fun e W' => Below W.heap.size W W' ∧ ∃ ao c, e = .returned (.slice ao (fired14 s (firedOf l sp)).length c) ∧ SlTk W'.heap.size W' ao (fired14 s (firedOf l sp))
/-- The program's agenda as it should be. -/
structure AgTells (PA : AgP) (N : Nat) : Prop where
  form : AgForm PA
  new : NewTells PA
  set : SetTells PA N
  next : NextTells PA
  fire : FireTells PA
  fired : FiredTells PA N

theorem pag_form : AgForm PAg where
  lt := fun h b hb => by
    obtain ⟨lb, so, sc, wo, wc, mb, ws, F, h⟩ := h
    exact h.lts b hb
  touch := fun h t hd => by
    obtain ⟨lb, so, sc, wo, wc, mb, ws, F, h⟩ := h
    exact ⟨lb, so, sc, wo, wc, mb, ws, F, h.touch t hd⟩

set_option maxRecDepth 100000 in
set_option maxHeartbeats 4000000 in
theorem begin_any (s : List Int) (ao : Option Addr) (c : Nat) (w : World) (hm : s.length ≤ 64) (h : SlG w.heap.size w ao (rcells s)) :
    Calls Tryd.prog 29 #[aggR ao s.length c] w fun e w' => ∃ (so : Option Addr) (sc lb mb : Nat), e = .returned (.pointer (some ⟨lb, 0, none⟩)) ∧ w'.heap[lb]? = some (.cells #[.slice so s.length sc, .slice none 0 0, .map (some mb)] 57 (0, 0)) ∧ PMap w' mb [] ∧ w'.ownsRow w.heap.size 3 1 (.slice so s.length sc) s.length (icells s) ∧ Below w.heap.size w w' ∧ w.heap.size ≤ lb ∧ w.heap.size ≤ mb := by
  have HB0 := Lib.hid (below_own (w := w) (.cells #[.slice none 0 0, .slice ao s.length c] 44))
  have K1 := Lib.hid (orderOf_any s ao c (by omega) _ (h.up HB0.out HB0.out.size))
  clear h
  have hmm := @run_makeMap Tryd.prog
  go_enter Tryd.func29, Tryd.ntmps29
  go_wp2_with (go_at_call 27; refine K1.out.mono ?_; rintro e w1 ⟨v, rfl, ho, hb⟩; obtain ⟨so, sc, rfl⟩ := owns_slice ho; have HO := Lib.hid ho; have HB := Lib.hid hb; clear ho hb)
  go_ret
  have hb : Below w.heap.size w w1 := HB0.out.trans (HB.out.mono HB0.out.size)
  obtain ⟨q1, q2⟩ := heap_two (w := w1) (.map #[] 0) (.cells #[.slice so s.length sc, .slice none 0 0, .map (some w1.heap.size)] 57)
  refine ⟨so, sc, w1.heap.size + 1, w1.heap.size, rfl, q2, ((PMap.made w1).keep ?_), owns_mono (World.ownsRow.alloc (World.ownsRow.alloc HO.out _) _) (by simp), below_new (below_new hb _) _, Nat.le_trans hb.size (Nat.le_succ _), hb.size⟩
  exact q1.trans (heap_alloc_new w1 _).symm

set_option maxRecDepth 100000 in
set_option maxHeartbeats 4000000 in
theorem new_tells : NewTells PAg := by
  intro s ao c w hm h _ _
  have HB0 := Lib.hid (below_own (w := w) (.cells #[.slice none 0 0, .slice ao s.length c] 44))
  have K1 := Lib.hid (begin_any s ao c _ hm (h.up HB0.out HB0.out.size))
  have h64 : decide ((64 : Int) < (s.length : Int)) = false := by simp; omega
  have h64' : decide (64 < s.length) = false := by simp; omega
  clear h
  go_enter Tryd.func14, Tryd.ntmps14
  go_wp2_with (go_at_call 29; refine K1.out.mono ?_; rintro e w1 ⟨so, sc, lb, mb, rfl, hlb, hmb, ho, hb, hl1, hl2⟩; have HO := Lib.hid ho; have HB := Lib.hid hb; have HLB := Lib.hid hlb; have HMB := Lib.hid hmb; have HL1 := Lib.hid hl1; have HL2 := Lib.hid hl2; clear ho hb hlb hmb hl1 hl2)
  go_ret
  have hb : Below w.heap.size w w1 := HB0.out.trans (HB.out.mono HB0.out.size)
  have hb2 : Below w1.heap.size w1 (w1.alloc (.cells #[.pointer (some ⟨lb, 0, none⟩)] 29)) := below_own _
  have hsz : w.heap.size ≤ (w.alloc (.cells #[.slice none 0 0, .slice ao s.length c] 44)).heap.size := HB0.out.size
  have hle := hb.size
  have hal : (w1.alloc (.cells #[.pointer (some ⟨lb, 0, none⟩)] 29)).heap.size = w1.heap.size + 1 := by simp
  refine ⟨w1.heap.size, fun b => w.heap.size ≤ b ∧ b < w1.heap.size + 1, rfl, ⟨lb, so, sc, none, 0, mb, [], [], ?_⟩, below_new hb _, fun b h => h.1⟩
  exact {
    hdb := heap_alloc_new w1 _
    hlb := (hb2.block _ (lt_of_heap HLB.out)).trans HLB.out
    bdb := ⟨hb.size, Nat.lt_succ_self _⟩
    blb := ⟨Nat.le_trans hsz HL1.out, Nat.lt_succ_of_lt (lt_of_heap HLB.out)⟩
    bmb := ⟨Nat.le_trans hsz HL2.out, Nat.lt_succ_of_lt HMB.out.lt⟩
    sal := owns_slS (World.ownsRow.alloc HO.out _) (fun k h1 h2 h3 => ⟨⟨Nat.le_trans hsz h1, by rw [hal] at h2; exact h2⟩, h3⟩)
    row := ⟨Nat.zero_le _, fun _ => rfl, fun hn => absurd rfl hn⟩
    map := HMB.out.keep (hb2.block _ HMB.out.lt)
    wok := fun p hp => by cases hp
    fok := fun p hp => by cases hp
    srt := List.Pairwise.nil
    opn := List.Perm.refl _
    don := List.Perm.refl _
    nod := List.nodup_nil
    len := rfl
    lts := fun b hb => by rw [hal]; exact hb.2 }
end Go.Proofs.YtlkmabnjmklkpaaDoor
