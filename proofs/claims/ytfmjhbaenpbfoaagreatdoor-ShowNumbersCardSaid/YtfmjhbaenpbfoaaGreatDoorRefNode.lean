/- The document's node. -/
import Derived.Test.YtfmjhbaenpbfoaaGreatDoorRefKids
import Derived.Test.YtfmjhbaenpbfoaaGreatDoorRefT
namespace Go.Proofs.YtfmjhbaenpbfoaaGreatDoor
open Go.RowKit

def bodyT (k : Int) (s : ByteArray) (n : Int) (l : List T) : Bool :=
  if k == 2 then nameT s && allK [3] l
    else if k == 3 then nameT s && l.length == 0
    else if k == 4 then nameT s && decide (-2147483647 ≤ n) && decide (n ≤ 2147483647) && ruleK l
    else if k == 5 || k == 6 then nameT s && allK [12, 13, 14, 15] l
    else if k == 7 then s.toList.isEmpty && l.length == 1 && exprsK l
    else if k == 8 then nameT s && exprsK l
    else if k == 9 then s.toList.isEmpty && decide (0 ≤ n) && decide (n ≤ 2147483647) && l.length == 0
    else if k == 10 then s.toList.isEmpty && decide (1 ≤ l.length) && exprsK l
    else if k == 11 || k == 12 then s.toList.isEmpty && l.length == 0
    else if k == 13 || k == 15 then Nm.namedB s.data.toList && l.length == 0
    else if k == 14 then numsT s && l.length == 0
    else if k == 16 then (l.length == 1 && (s.toList == [45] || s.toList == [110, 111, 116]) || l.length == 2 && twoT s) && exprsK l
    else false
theorem T.right_eq (t : T) : t.right = (decide (0 ≤ t.pos) && (t.num == 0 || t.kind == 4 || t.kind == 9) && bodyT t.kind t.text t.num t.kids) := by cases t; rw [T.right]; rfl
/-- A call of all over all kids. -/
theorem allWhole (t : T) (ih : ∀ k, k ∈ t.kids → NodeOK k) (hS : Small 9000 t) (w : World) (a : Option Addr) (c : Nat) (ps : List (T × Value)) (hk : KidsAt w.heap.size w t a c ps) (ks : List Int) (cs : Array Value) (hcs : cs.toList = kindVs ks) (n : Nat) (hn : n = ks.length) (hn8 : n ≤ 100) (W : World) (hW : Gr w W) :
    Calls Tryz.prog 40 #[.slice a t.kids.length c, .int .i64 0, .int .i64 t.kids.length, .slice (some ⟨W.heap.size, 0, none⟩) n n] (W.alloc (.cells cs 22)) (fun e w' => e = .returned (.bool (allK ks t.kids)) ∧ Gr W w') := by
  have hb := hW.below.trans ((below_own (w := W) (.cells cs 22)).mono hW.below.size)
  have h := refAll_of t ih hS (W.alloc (.cells cs 22)) a c ps (hk.up hb hb.size) 0 t.kids.length (Nat.zero_le _) (Nat.le_refl _) ks W.heap.size n n hn hn8 (by simp) (fun j u hu => cells_made W _ _ j u (by rw [← Array.getElem?_toList, hcs]; exact hu))
  rw [List.take_length, List.drop_zero] at h
  exact h.mono fun e w' ⟨h1, h2⟩ => ⟨h1, (box_gr _ _).trans h2⟩

abbrev NodeAt (t : T) (w : World) (a : Option Addr) (c : Nat) : Prop := Calls Tryz.prog 71 #[.agg #[.int .u8 t.kind, .string t.text, .int .i64 t.num, .int .i64 t.pos, .slice a t.kids.length c]] w (fun e w' => e = .returned (.bool t.right) ∧ Gr w w')

set_option maxRecDepth 100000 in
/-- A place below nought. -/
theorem node_at (t : T) (w : World) (a : Option Addr) (c : Nat) (h : t.pos < 0) : NodeAt t w a c := by
  have HR : Hid (t.right = false) := by
    unfold Hid
    rw [T.right_eq, decide_eq_false (by omega)]
    rfl
  have HG : Hid (Gr w (w.alloc (.cells #[.int .u8 t.kind, .string t.text, .int .i64 t.num, .int .i64 t.pos, .slice a t.kids.length c] 25))) := box_gr _ _
  have hd : decide (t.pos < 0) = true := decide_eq_true h
  unfold NodeAt
  go_enter Tryz.func71, Tryz.ntmps71
  go_wp2_with fail
  go_ret
  rw [HR.out]
  exact ⟨rfl, HG.out⟩

set_option maxRecDepth 100000 in
/-- A number where none may be. -/
theorem node_num (t : T) (w : World) (a : Option Addr) (c : Nat) (h : 0 ≤ t.pos) (hn : t.num ≠ 0) (h4 : t.kind ≠ 4) (h9 : t.kind ≠ 9) : NodeAt t w a c := by
  have HR : Hid (t.right = false) := by
    unfold Hid
    rw [T.right_eq, decide_eq_true h, beq_eq_false_iff_ne.2 hn, beq_eq_false_iff_ne.2 h4, beq_eq_false_iff_ne.2 h9]
    rfl
  have HG : Hid (Gr w (w.alloc (.cells #[.int .u8 t.kind, .string t.text, .int .i64 t.num, .int .i64 t.pos, .slice a t.kids.length c] 25))) := box_gr _ _
  have hd : decide (t.pos < 0) = false := decide_eq_false (by omega)
  have hn' : (t.num != 0) = true := bne_iff_ne.2 hn
  have h4' : (t.kind != 4) = true := bne_iff_ne.2 h4
  have h9' : (t.kind != 9) = true := bne_iff_ne.2 h9
  clear hn h4 h9
  unfold NodeAt
  go_enter Tryz.func71, Tryz.ntmps71
  go_wp2_with fail
  go_ret
  rw [HR.out]
  exact ⟨rfl, HG.out⟩

/-- What the calls within a node's switch tell. -/
structure Told (t : T) (w : World) (a : Option Addr) (c : Nat) : Prop where
  name : ∀ W, Calls Tryz.prog 98 #[.string t.text] W (fun e w' => e = .returned (.bool (nameT t.text)) ∧ Gr W w')
  named : ∀ W, Calls Tryz.prog 101 #[.string t.text] W (fun e w' => e = .returned (.bool (Nm.namedB t.text.data.toList)) ∧ W = w')
  number : ∀ W, Calls Tryz.prog 102 #[.string t.text] W (fun e w' => e = .returned (.bool (numsT t.text)) ∧ W = w')
  two : ∀ W, Calls Tryz.prog 103 #[.string t.text] W (fun e w' => e = .returned (.bool (twoT t.text)) ∧ Gr W w')
  exprs : ∀ W, Gr w W → Calls Tryz.prog 100 #[.slice a t.kids.length c] W (fun e w' => e = .returned (.bool (exprsK t.kids)) ∧ Gr W w')
  rule : ∀ W, Gr w W → Calls Tryz.prog 99 #[.slice a t.kids.length c] W (fun e w' => e = .returned (.bool (ruleK t.kids)) ∧ Gr W w')
  all : ∀ (ks : List Int) (cs : Array Value) (_ : cs.toList = kindVs ks) (n : Nat) (_ : n = ks.length) (_ : n ≤ 100) (W : World), Gr w W → Calls Tryz.prog 40 #[.slice a t.kids.length c, .int .i64 0, .int .i64 t.kids.length, .slice (some ⟨W.heap.size, 0, none⟩) n n] (W.alloc (.cells cs 22)) (fun e w' => e = .returned (.bool (allK ks t.kids)) ∧ Gr W w')
theorem told_of (t : T) (ih : ∀ k, k ∈ t.kids → NodeOK k) (hS : Small 9000 t) (w : World) (a : Option Addr) (c : Nat) (ps : List (T × Value)) (hk : KidsAt w.heap.size w t a c ps) : Told t w a c := by
  have hsz := hS.size
  exact ⟨fun W => refName_any t.text W (by unfold maxLen; omega), fun W => Nm.refNamed_any t.text W (by unfold maxLen; omega), fun W => refNumT_any t.text W (by omega), fun W => refTwo_any t.text W,
    fun W hW => refExprs_of t ih hS W a c ps (hk.up hW.below hW.below.size), fun W hW => refRule_of t ih hS W a c ps (hk.up hW.below hW.below.size),
    fun ks cs h1 n h2 h3 W hW => allWhole t ih hS w a c ps hk ks cs h1 n h2 h3 W hW⟩

set_option maxRecDepth 100000 in
set_option maxHeartbeats 1000000 in
theorem node_2 (t : T) (w : World) (a : Option Addr) (c : Nat) (ht : Told t w a c) (hp : 0 ≤ t.pos) (hn : t.num = 0) (hk : t.kind = 2) : NodeAt t w a c := by
  have HE : Hid (t.right = bodyT 2 t.text t.num t.kids) := by
    unfold Hid
    rw [T.right_eq, decide_eq_true hp, hn, hk]
    rfl
  have HG : Hid (Gr w (w.alloc (.cells #[.int .u8 2, .string t.text, .int .i64 t.num, .int .i64 t.pos, .slice a t.kids.length c] 25))) := box_gr _ _
  have HT := Lib.hid ht
  have hd : decide (t.pos < 0) = false := decide_eq_false (by omega)
  unfold NodeAt
  rw [hk, hn]
  rw [hn] at HG
  clear ht hk hn
  have KN := Lib.hid (HT.out.name (w.alloc (.cells #[.int .u8 2, .string t.text, .int .i64 0, .int .i64 t.pos, .slice a t.kids.length c] 25)))
  cases h1 : nameT t.text with
  | false =>
    rw [h1] at KN
    have HR : Hid (t.right = false) := by
      unfold Hid
      rw [HE.out]
      unfold bodyT
      rw [h1]
      rfl
    go_enter Tryz.func71, Tryz.ntmps71
    go_wp2_with (go_at_call 98; go_must (refine (KN.out).mono ?_; rintro e w1 ⟨rfl, hg⟩; have HG1 := Lib.hid (HG.out.trans hg); have HGb := Lib.hid hg; clear hg; refine Hid.out ?_))
    refine Lib.hid ?_
    go_wp2_with fail
    go_ret
    rw [HR.out]
    exact ⟨rfl, HG1.out⟩
  | true =>
    rw [h1] at KN
    have HR : Hid (t.right = allK [3] t.kids) := by
      unfold Hid
      rw [HE.out]
      unfold bodyT
      rw [h1]
      rfl
    go_enter Tryz.func71, Tryz.ntmps71
    go_wp2_with (go_at_call 98; go_must (refine (KN.out).mono ?_; rintro e w1 ⟨rfl, hg⟩; have HG1 := Lib.hid (HG.out.trans hg); have HGb := Lib.hid hg; clear hg; refine Hid.out ?_))
    have KA := Lib.hid (HT.out.all [3] #[.int .u8 3] rfl 1 rfl (by omega) w1 HG1.out)
    have hbx := box_cell (cs := #[.int .u8 2, .string t.text, .int .i64 0, .int .i64 t.pos, .slice a t.kids.length c]) (show Gr _ w1 from HGb.out) 4
    refine Lib.hid ?_
    go_wp2_with (go_at_call 40; go_must (refine (KA.out).mono ?_; rintro e w2 ⟨rfl, hg⟩))
    go_ret
    rw [HR.out]
    exact ⟨rfl, HG1.out.trans hg⟩

set_option maxRecDepth 100000 in
set_option maxHeartbeats 1000000 in
theorem node_5 (t : T) (w : World) (a : Option Addr) (c : Nat) (ht : Told t w a c) (hp : 0 ≤ t.pos) (hn : t.num = 0) (hk : t.kind = 5) : NodeAt t w a c := by
  have HE : Hid (t.right = bodyT 5 t.text t.num t.kids) := by
    unfold Hid
    rw [T.right_eq, decide_eq_true hp, hn, hk]
    rfl
  have HG : Hid (Gr w (w.alloc (.cells #[.int .u8 5, .string t.text, .int .i64 t.num, .int .i64 t.pos, .slice a t.kids.length c] 25))) := box_gr _ _
  have HT := Lib.hid ht
  have hd : decide (t.pos < 0) = false := decide_eq_false (by omega)
  unfold NodeAt
  rw [hk, hn]
  rw [hn] at HG
  clear ht hk hn
  have KN := Lib.hid (HT.out.name (w.alloc (.cells #[.int .u8 5, .string t.text, .int .i64 0, .int .i64 t.pos, .slice a t.kids.length c] 25)))
  cases h1 : nameT t.text with
  | false =>
    rw [h1] at KN
    have HR : Hid (t.right = false) := by
      unfold Hid
      rw [HE.out]
      unfold bodyT
      rw [h1]
      rfl
    go_enter Tryz.func71, Tryz.ntmps71
    go_wp2_with (go_at_call 98; go_must (refine (KN.out).mono ?_; rintro e w1 ⟨rfl, hg⟩; have HG1 := Lib.hid (HG.out.trans hg); have HGb := Lib.hid hg; clear hg; refine Hid.out ?_))
    refine Lib.hid ?_
    go_wp2_with fail
    go_ret
    rw [HR.out]
    exact ⟨rfl, HG1.out⟩
  | true =>
    rw [h1] at KN
    have HR : Hid (t.right = allK [12, 13, 14, 15] t.kids) := by
      unfold Hid
      rw [HE.out]
      unfold bodyT
      rw [h1]
      rfl
    go_enter Tryz.func71, Tryz.ntmps71
    go_wp2_with (go_at_call 98; go_must (refine (KN.out).mono ?_; rintro e w1 ⟨rfl, hg⟩; have HG1 := Lib.hid (HG.out.trans hg); have HGb := Lib.hid hg; clear hg; refine Hid.out ?_))
    have KA := Lib.hid (HT.out.all [12, 13, 14, 15] #[.int .u8 12, .int .u8 13, .int .u8 14, .int .u8 15] rfl 4 rfl (by omega) w1 HG1.out)
    have hbx := box_cell (cs := #[.int .u8 5, .string t.text, .int .i64 0, .int .i64 t.pos, .slice a t.kids.length c]) (show Gr _ w1 from HGb.out) 4
    refine Lib.hid ?_
    go_wp2_with (go_at_call 40; go_must (refine (KA.out).mono ?_; rintro e w2 ⟨rfl, hg⟩))
    go_ret
    rw [HR.out]
    exact ⟨rfl, HG1.out.trans hg⟩

set_option maxRecDepth 100000 in
set_option maxHeartbeats 1000000 in
theorem node_6 (t : T) (w : World) (a : Option Addr) (c : Nat) (ht : Told t w a c) (hp : 0 ≤ t.pos) (hn : t.num = 0) (hk : t.kind = 6) : NodeAt t w a c := by
  have HE : Hid (t.right = bodyT 6 t.text t.num t.kids) := by
    unfold Hid
    rw [T.right_eq, decide_eq_true hp, hn, hk]
    rfl
  have HG : Hid (Gr w (w.alloc (.cells #[.int .u8 6, .string t.text, .int .i64 t.num, .int .i64 t.pos, .slice a t.kids.length c] 25))) := box_gr _ _
  have HT := Lib.hid ht
  have hd : decide (t.pos < 0) = false := decide_eq_false (by omega)
  unfold NodeAt
  rw [hk, hn]
  rw [hn] at HG
  clear ht hk hn
  have KN := Lib.hid (HT.out.name (w.alloc (.cells #[.int .u8 6, .string t.text, .int .i64 0, .int .i64 t.pos, .slice a t.kids.length c] 25)))
  cases h1 : nameT t.text with
  | false =>
    rw [h1] at KN
    have HR : Hid (t.right = false) := by
      unfold Hid
      rw [HE.out]
      unfold bodyT
      rw [h1]
      rfl
    go_enter Tryz.func71, Tryz.ntmps71
    go_wp2_with (go_at_call 98; go_must (refine (KN.out).mono ?_; rintro e w1 ⟨rfl, hg⟩; have HG1 := Lib.hid (HG.out.trans hg); have HGb := Lib.hid hg; clear hg; refine Hid.out ?_))
    refine Lib.hid ?_
    go_wp2_with fail
    go_ret
    rw [HR.out]
    exact ⟨rfl, HG1.out⟩
  | true =>
    rw [h1] at KN
    have HR : Hid (t.right = allK [12, 13, 14, 15] t.kids) := by
      unfold Hid
      rw [HE.out]
      unfold bodyT
      rw [h1]
      rfl
    go_enter Tryz.func71, Tryz.ntmps71
    go_wp2_with (go_at_call 98; go_must (refine (KN.out).mono ?_; rintro e w1 ⟨rfl, hg⟩; have HG1 := Lib.hid (HG.out.trans hg); have HGb := Lib.hid hg; clear hg; refine Hid.out ?_))
    have KA := Lib.hid (HT.out.all [12, 13, 14, 15] #[.int .u8 12, .int .u8 13, .int .u8 14, .int .u8 15] rfl 4 rfl (by omega) w1 HG1.out)
    have hbx := box_cell (cs := #[.int .u8 6, .string t.text, .int .i64 0, .int .i64 t.pos, .slice a t.kids.length c]) (show Gr _ w1 from HGb.out) 4
    refine Lib.hid ?_
    go_wp2_with (go_at_call 40; go_must (refine (KA.out).mono ?_; rintro e w2 ⟨rfl, hg⟩))
    go_ret
    rw [HR.out]
    exact ⟨rfl, HG1.out.trans hg⟩

set_option maxRecDepth 100000 in
set_option maxHeartbeats 1000000 in
theorem node_3 (t : T) (w : World) (a : Option Addr) (c : Nat) (ht : Told t w a c) (hp : 0 ≤ t.pos) (hn : t.num = 0) (hk : t.kind = 3) : NodeAt t w a c := by
  have HE : Hid (t.right = bodyT 3 t.text t.num t.kids) := by
    unfold Hid
    rw [T.right_eq, decide_eq_true hp, hn, hk]
    rfl
  have HG : Hid (Gr w (w.alloc (.cells #[.int .u8 3, .string t.text, .int .i64 t.num, .int .i64 t.pos, .slice a t.kids.length c] 25))) := box_gr _ _
  have HT := Lib.hid ht
  have hd : decide (t.pos < 0) = false := decide_eq_false (by omega)
  unfold NodeAt
  rw [hk, hn]
  rw [hn] at HG
  clear ht hk hn
  have KN := Lib.hid (HT.out.name (w.alloc (.cells #[.int .u8 3, .string t.text, .int .i64 0, .int .i64 t.pos, .slice a t.kids.length c] 25)))
  cases h1 : nameT t.text with
  | false =>
    rw [h1] at KN
    have HR : Hid (t.right = false) := by
      unfold Hid
      rw [HE.out]
      unfold bodyT
      rw [h1]
      rfl
    go_enter Tryz.func71, Tryz.ntmps71
    go_wp2_with (go_at_call 98; go_must (refine (KN.out).mono ?_; rintro e w1 ⟨rfl, hg⟩; have HG1 := Lib.hid (HG.out.trans hg); have HGb := Lib.hid hg; clear hg; refine Hid.out ?_))
    refine Lib.hid ?_
    go_wp2_with fail
    go_ret
    rw [HR.out]
    exact ⟨rfl, HG1.out⟩
  | true =>
    rw [h1] at KN
    by_cases h0 : t.kids.length = 0
    · have hz : ((t.kids.length : Int) == 0) = true := by rw [h0]; rfl
      have hz' : (t.kids.length == 0) = true := by rw [h0]; rfl
      have HR : Hid (t.right = true) := by
        unfold Hid
        rw [HE.out]
        unfold bodyT
        rw [h1, hz']
        rfl
      clear h0 hz'
      go_enter Tryz.func71, Tryz.ntmps71
      go_wp2_with (go_at_call 98; go_must (refine (KN.out).mono ?_; rintro e w1 ⟨rfl, hg⟩; have HG1 := Lib.hid (HG.out.trans hg); have HGb := Lib.hid hg; clear hg; refine Hid.out ?_))
      refine Lib.hid ?_
      go_wp2_with fail
      go_ret
      rw [HR.out]
      exact ⟨rfl, HG1.out⟩
    · have hz : ((t.kids.length : Int) == 0) = false := beq_eq_false_iff_ne.2 (by omega)
      have hz' : (t.kids.length == 0) = false := beq_eq_false_iff_ne.2 h0
      have HR : Hid (t.right = false) := by
        unfold Hid
        rw [HE.out]
        unfold bodyT
        rw [h1, hz']
        rfl
      clear h0 hz'
      go_enter Tryz.func71, Tryz.ntmps71
      go_wp2_with (go_at_call 98; go_must (refine (KN.out).mono ?_; rintro e w1 ⟨rfl, hg⟩; have HG1 := Lib.hid (HG.out.trans hg); have HGb := Lib.hid hg; clear hg; refine Hid.out ?_))
      refine Lib.hid ?_
      go_wp2_with fail
      go_ret
      rw [HR.out]
      exact ⟨rfl, HG1.out⟩

set_option maxRecDepth 100000 in
set_option maxHeartbeats 1000000 in
theorem node_8 (t : T) (w : World) (a : Option Addr) (c : Nat) (ht : Told t w a c) (hp : 0 ≤ t.pos) (hn : t.num = 0) (hk : t.kind = 8) : NodeAt t w a c := by
  have HE : Hid (t.right = bodyT 8 t.text t.num t.kids) := by
    unfold Hid
    rw [T.right_eq, decide_eq_true hp, hn, hk]
    rfl
  have HG : Hid (Gr w (w.alloc (.cells #[.int .u8 8, .string t.text, .int .i64 t.num, .int .i64 t.pos, .slice a t.kids.length c] 25))) := box_gr _ _
  have HT := Lib.hid ht
  have hd : decide (t.pos < 0) = false := decide_eq_false (by omega)
  unfold NodeAt
  rw [hk, hn]
  rw [hn] at HG
  clear ht hk hn
  have KN := Lib.hid (HT.out.name (w.alloc (.cells #[.int .u8 8, .string t.text, .int .i64 0, .int .i64 t.pos, .slice a t.kids.length c] 25)))
  cases h1 : nameT t.text with
  | false =>
    rw [h1] at KN
    have HR : Hid (t.right = false) := by
      unfold Hid
      rw [HE.out]
      unfold bodyT
      rw [h1]
      rfl
    go_enter Tryz.func71, Tryz.ntmps71
    go_wp2_with (go_at_call 98; go_must (refine (KN.out).mono ?_; rintro e w1 ⟨rfl, hg⟩; have HG1 := Lib.hid (HG.out.trans hg); have HGb := Lib.hid hg; clear hg; refine Hid.out ?_))
    refine Lib.hid ?_
    go_wp2_with fail
    go_ret
    rw [HR.out]
    exact ⟨rfl, HG1.out⟩
  | true =>
    rw [h1] at KN
    have HR : Hid (t.right = exprsK t.kids) := by
      unfold Hid
      rw [HE.out]
      unfold bodyT
      rw [h1]
      rfl
    go_enter Tryz.func71, Tryz.ntmps71
    go_wp2_with (go_at_call 98; go_must (refine (KN.out).mono ?_; rintro e w1 ⟨rfl, hg⟩; have HG1 := Lib.hid (HG.out.trans hg); have HGb := Lib.hid hg; clear hg; refine Hid.out ?_))
    have KA := Lib.hid (HT.out.exprs w1 HG1.out)
    have hbx := box_cell (cs := #[.int .u8 8, .string t.text, .int .i64 0, .int .i64 t.pos, .slice a t.kids.length c]) (show Gr _ w1 from HGb.out) 4
    refine Lib.hid ?_
    go_wp2_with (go_at_call 100; go_must (refine (KA.out).mono ?_; rintro e w2 ⟨rfl, hg⟩))
    go_ret
    rw [HR.out]
    exact ⟨rfl, HG1.out.trans hg⟩

set_option maxRecDepth 100000 in
set_option maxHeartbeats 1000000 in
theorem node_11 (t : T) (w : World) (a : Option Addr) (c : Nat) (ht : Told t w a c) (hp : 0 ≤ t.pos) (hn : t.num = 0) (hk : t.kind = 11) : NodeAt t w a c := by
  have HE : Hid (t.right = bodyT 11 t.text t.num t.kids) := by
    unfold Hid
    rw [T.right_eq, decide_eq_true hp, hn, hk]
    rfl
  have HG : Hid (Gr w (w.alloc (.cells #[.int .u8 11, .string t.text, .int .i64 t.num, .int .i64 t.pos, .slice a t.kids.length c] 25))) := box_gr _ _
  have HT := Lib.hid ht
  have hd : decide (t.pos < 0) = false := decide_eq_false (by omega)
  unfold NodeAt
  rw [hk, hn]
  rw [hn] at HG
  clear ht hk hn
  by_cases hs : 0 < t.text.size
  · obtain ⟨hem, -⟩ := size_pos hs
    have HR : Hid (t.right = false) := by
      unfold Hid
      rw [HE.out]
      unfold bodyT
      rw [hem]
      rfl
    clear hs
    go_enter Tryz.func71, Tryz.ntmps71
    go_wp2_with fail
    go_ret
    rw [HR.out]
    exact ⟨rfl, HG.out⟩
  · obtain ⟨hem, -⟩ := size_zero hs
    have hem' : t.text.toList.isEmpty = true := by rw [hem]; rfl
    by_cases h0 : t.kids.length = 0
    · have hz : ((t.kids.length : Int) == 0) = true := by rw [h0]; rfl
      have hz' : (t.kids.length == 0) = true := by rw [h0]; rfl
      have HR : Hid (t.right = true) := by
        unfold Hid
        rw [HE.out]
        unfold bodyT
        rw [hem', hz']
        rfl
      clear h0 hz' hem' hs
      go_enter Tryz.func71, Tryz.ntmps71
      go_wp2_with fail
      go_ret
      rw [HR.out]
      exact ⟨rfl, HG.out⟩
    · have hz : ((t.kids.length : Int) == 0) = false := beq_eq_false_iff_ne.2 (by omega)
      have hz' : (t.kids.length == 0) = false := beq_eq_false_iff_ne.2 h0
      have HR : Hid (t.right = false) := by
        unfold Hid
        rw [HE.out]
        unfold bodyT
        rw [hem', hz']
        rfl
      clear h0 hz' hem' hs
      go_enter Tryz.func71, Tryz.ntmps71
      go_wp2_with fail
      go_ret
      rw [HR.out]
      exact ⟨rfl, HG.out⟩

set_option maxRecDepth 100000 in
set_option maxHeartbeats 1000000 in
theorem node_12 (t : T) (w : World) (a : Option Addr) (c : Nat) (ht : Told t w a c) (hp : 0 ≤ t.pos) (hn : t.num = 0) (hk : t.kind = 12) : NodeAt t w a c := by
  have HE : Hid (t.right = bodyT 12 t.text t.num t.kids) := by
    unfold Hid
    rw [T.right_eq, decide_eq_true hp, hn, hk]
    rfl
  have HG : Hid (Gr w (w.alloc (.cells #[.int .u8 12, .string t.text, .int .i64 t.num, .int .i64 t.pos, .slice a t.kids.length c] 25))) := box_gr _ _
  have HT := Lib.hid ht
  have hd : decide (t.pos < 0) = false := decide_eq_false (by omega)
  unfold NodeAt
  rw [hk, hn]
  rw [hn] at HG
  clear ht hk hn
  by_cases hs : 0 < t.text.size
  · obtain ⟨hem, -⟩ := size_pos hs
    have HR : Hid (t.right = false) := by
      unfold Hid
      rw [HE.out]
      unfold bodyT
      rw [hem]
      rfl
    clear hs
    go_enter Tryz.func71, Tryz.ntmps71
    go_wp2_with fail
    go_ret
    rw [HR.out]
    exact ⟨rfl, HG.out⟩
  · obtain ⟨hem, -⟩ := size_zero hs
    have hem' : t.text.toList.isEmpty = true := by rw [hem]; rfl
    by_cases h0 : t.kids.length = 0
    · have hz : ((t.kids.length : Int) == 0) = true := by rw [h0]; rfl
      have hz' : (t.kids.length == 0) = true := by rw [h0]; rfl
      have HR : Hid (t.right = true) := by
        unfold Hid
        rw [HE.out]
        unfold bodyT
        rw [hem', hz']
        rfl
      clear h0 hz' hem' hs
      go_enter Tryz.func71, Tryz.ntmps71
      go_wp2_with fail
      go_ret
      rw [HR.out]
      exact ⟨rfl, HG.out⟩
    · have hz : ((t.kids.length : Int) == 0) = false := beq_eq_false_iff_ne.2 (by omega)
      have hz' : (t.kids.length == 0) = false := beq_eq_false_iff_ne.2 h0
      have HR : Hid (t.right = false) := by
        unfold Hid
        rw [HE.out]
        unfold bodyT
        rw [hem', hz']
        rfl
      clear h0 hz' hem' hs
      go_enter Tryz.func71, Tryz.ntmps71
      go_wp2_with fail
      go_ret
      rw [HR.out]
      exact ⟨rfl, HG.out⟩

set_option maxRecDepth 100000 in
set_option maxHeartbeats 1000000 in
theorem node_13 (t : T) (w : World) (a : Option Addr) (c : Nat) (ht : Told t w a c) (hp : 0 ≤ t.pos) (hn : t.num = 0) (hk : t.kind = 13) : NodeAt t w a c := by
  have HE : Hid (t.right = bodyT 13 t.text t.num t.kids) := by
    unfold Hid
    rw [T.right_eq, decide_eq_true hp, hn, hk]
    rfl
  have HG : Hid (Gr w (w.alloc (.cells #[.int .u8 13, .string t.text, .int .i64 t.num, .int .i64 t.pos, .slice a t.kids.length c] 25))) := box_gr _ _
  have HT := Lib.hid ht
  have hd : decide (t.pos < 0) = false := decide_eq_false (by omega)
  unfold NodeAt
  rw [hk, hn]
  rw [hn] at HG
  clear ht hk hn
  have HK := Lib.hid (HT.out.named (w.alloc (.cells #[.int .u8 13, .string t.text, .int .i64 0, .int .i64 t.pos, .slice a t.kids.length c] 25)))
  cases h1 : Nm.namedB t.text.data.toList with
  | false =>
    rw [h1] at HK
    have HR : Hid (t.right = false) := by
      unfold Hid
      rw [HE.out]
      unfold bodyT
      rw [h1]
      rfl
    go_enter Tryz.func71, Tryz.ntmps71
    go_wp2_with (go_at_call 101; go_must (refine (HK.out).mono ?_; rintro e w1 ⟨rfl, rfl⟩))
    go_ret
    rw [HR.out]
    exact ⟨rfl, HG.out⟩
  | true =>
    rw [h1] at HK
    by_cases h0 : t.kids.length = 0
    · have hz : ((t.kids.length : Int) == 0) = true := by rw [h0]; rfl
      have hz' : (t.kids.length == 0) = true := by rw [h0]; rfl
      have HR : Hid (t.right = true) := by
        unfold Hid
        rw [HE.out]
        unfold bodyT
        rw [h1, hz']
        rfl
      clear h0 hz'
      go_enter Tryz.func71, Tryz.ntmps71
      go_wp2_with (go_at_call 101; go_must (refine (HK.out).mono ?_; rintro e w1 ⟨rfl, rfl⟩))
      go_ret
      rw [HR.out]
      exact ⟨rfl, HG.out⟩
    · have hz : ((t.kids.length : Int) == 0) = false := beq_eq_false_iff_ne.2 (by omega)
      have hz' : (t.kids.length == 0) = false := beq_eq_false_iff_ne.2 h0
      have HR : Hid (t.right = false) := by
        unfold Hid
        rw [HE.out]
        unfold bodyT
        rw [h1, hz']
        rfl
      clear h0 hz'
      go_enter Tryz.func71, Tryz.ntmps71
      go_wp2_with (go_at_call 101; go_must (refine (HK.out).mono ?_; rintro e w1 ⟨rfl, rfl⟩))
      go_ret
      rw [HR.out]
      exact ⟨rfl, HG.out⟩

set_option maxRecDepth 100000 in
set_option maxHeartbeats 1000000 in
theorem node_15 (t : T) (w : World) (a : Option Addr) (c : Nat) (ht : Told t w a c) (hp : 0 ≤ t.pos) (hn : t.num = 0) (hk : t.kind = 15) : NodeAt t w a c := by
  have HE : Hid (t.right = bodyT 15 t.text t.num t.kids) := by
    unfold Hid
    rw [T.right_eq, decide_eq_true hp, hn, hk]
    rfl
  have HG : Hid (Gr w (w.alloc (.cells #[.int .u8 15, .string t.text, .int .i64 t.num, .int .i64 t.pos, .slice a t.kids.length c] 25))) := box_gr _ _
  have HT := Lib.hid ht
  have hd : decide (t.pos < 0) = false := decide_eq_false (by omega)
  unfold NodeAt
  rw [hk, hn]
  rw [hn] at HG
  clear ht hk hn
  have HK := Lib.hid (HT.out.named (w.alloc (.cells #[.int .u8 15, .string t.text, .int .i64 0, .int .i64 t.pos, .slice a t.kids.length c] 25)))
  cases h1 : Nm.namedB t.text.data.toList with
  | false =>
    rw [h1] at HK
    have HR : Hid (t.right = false) := by
      unfold Hid
      rw [HE.out]
      unfold bodyT
      rw [h1]
      rfl
    go_enter Tryz.func71, Tryz.ntmps71
    go_wp2_with (go_at_call 101; go_must (refine (HK.out).mono ?_; rintro e w1 ⟨rfl, rfl⟩))
    go_ret
    rw [HR.out]
    exact ⟨rfl, HG.out⟩
  | true =>
    rw [h1] at HK
    by_cases h0 : t.kids.length = 0
    · have hz : ((t.kids.length : Int) == 0) = true := by rw [h0]; rfl
      have hz' : (t.kids.length == 0) = true := by rw [h0]; rfl
      have HR : Hid (t.right = true) := by
        unfold Hid
        rw [HE.out]
        unfold bodyT
        rw [h1, hz']
        rfl
      clear h0 hz'
      go_enter Tryz.func71, Tryz.ntmps71
      go_wp2_with (go_at_call 101; go_must (refine (HK.out).mono ?_; rintro e w1 ⟨rfl, rfl⟩))
      go_ret
      rw [HR.out]
      exact ⟨rfl, HG.out⟩
    · have hz : ((t.kids.length : Int) == 0) = false := beq_eq_false_iff_ne.2 (by omega)
      have hz' : (t.kids.length == 0) = false := beq_eq_false_iff_ne.2 h0
      have HR : Hid (t.right = false) := by
        unfold Hid
        rw [HE.out]
        unfold bodyT
        rw [h1, hz']
        rfl
      clear h0 hz'
      go_enter Tryz.func71, Tryz.ntmps71
      go_wp2_with (go_at_call 101; go_must (refine (HK.out).mono ?_; rintro e w1 ⟨rfl, rfl⟩))
      go_ret
      rw [HR.out]
      exact ⟨rfl, HG.out⟩

set_option maxRecDepth 100000 in
set_option maxHeartbeats 1000000 in
theorem node_14 (t : T) (w : World) (a : Option Addr) (c : Nat) (ht : Told t w a c) (hp : 0 ≤ t.pos) (hn : t.num = 0) (hk : t.kind = 14) : NodeAt t w a c := by
  have HE : Hid (t.right = bodyT 14 t.text t.num t.kids) := by
    unfold Hid
    rw [T.right_eq, decide_eq_true hp, hn, hk]
    rfl
  have HG : Hid (Gr w (w.alloc (.cells #[.int .u8 14, .string t.text, .int .i64 t.num, .int .i64 t.pos, .slice a t.kids.length c] 25))) := box_gr _ _
  have HT := Lib.hid ht
  have hd : decide (t.pos < 0) = false := decide_eq_false (by omega)
  unfold NodeAt
  rw [hk, hn]
  rw [hn] at HG
  clear ht hk hn
  have HK := Lib.hid (HT.out.number (w.alloc (.cells #[.int .u8 14, .string t.text, .int .i64 0, .int .i64 t.pos, .slice a t.kids.length c] 25)))
  cases h1 : numsT t.text with
  | false =>
    rw [h1] at HK
    have HR : Hid (t.right = false) := by
      unfold Hid
      rw [HE.out]
      unfold bodyT
      rw [h1]
      rfl
    go_enter Tryz.func71, Tryz.ntmps71
    go_wp2_with (go_at_call 102; go_must (refine (HK.out).mono ?_; rintro e w1 ⟨rfl, rfl⟩))
    go_ret
    rw [HR.out]
    exact ⟨rfl, HG.out⟩
  | true =>
    rw [h1] at HK
    by_cases h0 : t.kids.length = 0
    · have hz : ((t.kids.length : Int) == 0) = true := by rw [h0]; rfl
      have hz' : (t.kids.length == 0) = true := by rw [h0]; rfl
      have HR : Hid (t.right = true) := by
        unfold Hid
        rw [HE.out]
        unfold bodyT
        rw [h1, hz']
        rfl
      clear h0 hz'
      go_enter Tryz.func71, Tryz.ntmps71
      go_wp2_with (go_at_call 102; go_must (refine (HK.out).mono ?_; rintro e w1 ⟨rfl, rfl⟩))
      go_ret
      rw [HR.out]
      exact ⟨rfl, HG.out⟩
    · have hz : ((t.kids.length : Int) == 0) = false := beq_eq_false_iff_ne.2 (by omega)
      have hz' : (t.kids.length == 0) = false := beq_eq_false_iff_ne.2 h0
      have HR : Hid (t.right = false) := by
        unfold Hid
        rw [HE.out]
        unfold bodyT
        rw [h1, hz']
        rfl
      clear h0 hz'
      go_enter Tryz.func71, Tryz.ntmps71
      go_wp2_with (go_at_call 102; go_must (refine (HK.out).mono ?_; rintro e w1 ⟨rfl, rfl⟩))
      go_ret
      rw [HR.out]
      exact ⟨rfl, HG.out⟩

set_option maxRecDepth 100000 in
set_option maxHeartbeats 1000000 in
theorem node_7 (t : T) (w : World) (a : Option Addr) (c : Nat) (ht : Told t w a c) (hp : 0 ≤ t.pos) (hn : t.num = 0) (hk : t.kind = 7) : NodeAt t w a c := by
  have HE : Hid (t.right = bodyT 7 t.text t.num t.kids) := by
    unfold Hid
    rw [T.right_eq, decide_eq_true hp, hn, hk]
    rfl
  have HG : Hid (Gr w (w.alloc (.cells #[.int .u8 7, .string t.text, .int .i64 t.num, .int .i64 t.pos, .slice a t.kids.length c] 25))) := box_gr _ _
  have HT := Lib.hid ht
  have hd : decide (t.pos < 0) = false := decide_eq_false (by omega)
  unfold NodeAt
  rw [hk, hn]
  rw [hn] at HG
  clear ht hk hn
  by_cases hs : 0 < t.text.size
  · obtain ⟨hem, -⟩ := size_pos hs
    have HR : Hid (t.right = false) := by
      unfold Hid
      rw [HE.out]
      unfold bodyT
      rw [hem]
      rfl
    clear hs
    go_enter Tryz.func71, Tryz.ntmps71
    go_wp2_with fail
    go_ret
    rw [HR.out]
    exact ⟨rfl, HG.out⟩
  · obtain ⟨hem, -⟩ := size_zero hs
    have hem' : t.text.toList.isEmpty = true := by rw [hem]; rfl
    by_cases h0 : t.kids.length = 1
    · have hz : ((t.kids.length : Int) == 1) = true := by rw [h0]; rfl
      have hz' : (t.kids.length == 1) = true := by rw [h0]; rfl
      have HR : Hid (t.right = exprsK t.kids) := by
        unfold Hid
        rw [HE.out]
        unfold bodyT
        rw [hem', hz']
        rfl
      have KA := Lib.hid (HT.out.exprs (w.alloc (.cells #[.int .u8 7, .string t.text, .int .i64 0, .int .i64 t.pos, .slice a t.kids.length c] 25)) HG.out)
      clear h0 hz' hem' hs
      go_enter Tryz.func71, Tryz.ntmps71
      go_wp2_with (go_at_call 100; go_must (refine (KA.out).mono ?_; rintro e w2 ⟨rfl, hg⟩))
      go_ret
      rw [HR.out]
      exact ⟨rfl, HG.out.trans hg⟩
    · have hz : ((t.kids.length : Int) == 1) = false := beq_eq_false_iff_ne.2 (by omega)
      have hz' : (t.kids.length == 1) = false := beq_eq_false_iff_ne.2 h0
      have HR : Hid (t.right = false) := by
        unfold Hid
        rw [HE.out]
        unfold bodyT
        rw [hem', hz']
        rfl
      clear h0 hz' hem' hs
      go_enter Tryz.func71, Tryz.ntmps71
      go_wp2_with fail
      go_ret
      rw [HR.out]
      exact ⟨rfl, HG.out⟩

set_option maxRecDepth 100000 in
set_option maxHeartbeats 1000000 in
theorem node_10 (t : T) (w : World) (a : Option Addr) (c : Nat) (ht : Told t w a c) (hp : 0 ≤ t.pos) (hn : t.num = 0) (hk : t.kind = 10) : NodeAt t w a c := by
  have HE : Hid (t.right = bodyT 10 t.text t.num t.kids) := by
    unfold Hid
    rw [T.right_eq, decide_eq_true hp, hn, hk]
    rfl
  have HG : Hid (Gr w (w.alloc (.cells #[.int .u8 10, .string t.text, .int .i64 t.num, .int .i64 t.pos, .slice a t.kids.length c] 25))) := box_gr _ _
  have HT := Lib.hid ht
  have hd : decide (t.pos < 0) = false := decide_eq_false (by omega)
  unfold NodeAt
  rw [hk, hn]
  rw [hn] at HG
  clear ht hk hn
  by_cases hs : 0 < t.text.size
  · obtain ⟨hem, -⟩ := size_pos hs
    have HR : Hid (t.right = false) := by
      unfold Hid
      rw [HE.out]
      unfold bodyT
      rw [hem]
      rfl
    clear hs
    go_enter Tryz.func71, Tryz.ntmps71
    go_wp2_with fail
    go_ret
    rw [HR.out]
    exact ⟨rfl, HG.out⟩
  · obtain ⟨hem, -⟩ := size_zero hs
    have hem' : t.text.toList.isEmpty = true := by rw [hem]; rfl
    by_cases h0 : 1 ≤ t.kids.length
    · have hz : (1 : Int) ≤ (t.kids.length : Int) := by omega
      have hz' : decide (1 ≤ t.kids.length) = true := decide_eq_true h0
      have HR : Hid (t.right = exprsK t.kids) := by
        unfold Hid
        rw [HE.out]
        unfold bodyT
        rw [hem', hz']
        rfl
      have KA := Lib.hid (HT.out.exprs (w.alloc (.cells #[.int .u8 10, .string t.text, .int .i64 0, .int .i64 t.pos, .slice a t.kids.length c] 25)) HG.out)
      clear h0 hz' hem' hs
      go_enter Tryz.func71, Tryz.ntmps71
      go_wp2_with (go_at_call 100; go_must (refine (KA.out).mono ?_; rintro e w2 ⟨rfl, hg⟩))
      go_ret
      rw [HR.out]
      exact ⟨rfl, HG.out.trans hg⟩
    · have hz : ¬ (1 : Int) ≤ (t.kids.length : Int) := by omega
      have hz' : decide (1 ≤ t.kids.length) = false := decide_eq_false h0
      have HR : Hid (t.right = false) := by
        unfold Hid
        rw [HE.out]
        unfold bodyT
        rw [hem', hz']
        rfl
      clear h0 hz' hem' hs
      go_enter Tryz.func71, Tryz.ntmps71
      go_wp2_with fail
      go_ret
      rw [HR.out]
      exact ⟨rfl, HG.out⟩

set_option maxRecDepth 100000 in
set_option maxHeartbeats 1000000 in
theorem node_16 (t : T) (w : World) (a : Option Addr) (c : Nat) (ht : Told t w a c) (hp : 0 ≤ t.pos) (hn : t.num = 0) (hk : t.kind = 16) : NodeAt t w a c := by
  have HE : Hid (t.right = bodyT 16 t.text t.num t.kids) := by
    unfold Hid
    rw [T.right_eq, decide_eq_true hp, hn, hk]
    rfl
  have HG : Hid (Gr w (w.alloc (.cells #[.int .u8 16, .string t.text, .int .i64 t.num, .int .i64 t.pos, .slice a t.kids.length c] 25))) := box_gr _ _
  have HT := Lib.hid ht
  have hd : decide (t.pos < 0) = false := decide_eq_false (by omega)
  unfold NodeAt
  rw [hk, hn]
  rw [hn] at HG
  clear ht hk hn
  by_cases h0 : t.kids.length = 1
  · have hz : ((t.kids.length : Int) == 1) = true := by rw [h0]; rfl
    have hz' : (t.kids.length == 1) = true := by rw [h0]; rfl
    have hz2 : ((t.kids.length : Int) == 2) = false := by rw [h0]; rfl
    have hz2' : (t.kids.length == 2) = false := by rw [h0]; rfl
    cases hA : (t.text.toList == [45]) with
    | true =>
      have HR : Hid (t.right = exprsK t.kids) := by
        unfold Hid
        rw [HE.out]
        unfold bodyT
        rw [hz', hA]
        rfl
      have KA := Lib.hid (HT.out.exprs (w.alloc (.cells #[.int .u8 16, .string t.text, .int .i64 0, .int .i64 t.pos, .slice a t.kids.length c] 25)) HG.out)
      clear h0
      go_enter Tryz.func71, Tryz.ntmps71
      go_wp2_with (go_at_call 100; go_must (refine (KA.out).mono ?_; rintro e w2 ⟨rfl, hg⟩))
      go_ret
      rw [HR.out]
      exact ⟨rfl, HG.out.trans hg⟩
    | false =>
      cases hB : (t.text.toList == [110, 111, 116]) with
      | true =>
        have HR : Hid (t.right = exprsK t.kids) := by
          unfold Hid
          rw [HE.out]
          unfold bodyT
          rw [hz', hA, hB]
          rfl
        have KA := Lib.hid (HT.out.exprs (w.alloc (.cells #[.int .u8 16, .string t.text, .int .i64 0, .int .i64 t.pos, .slice a t.kids.length c] 25)) HG.out)
        clear h0
        go_enter Tryz.func71, Tryz.ntmps71
        go_wp2_with (go_at_call 100; go_must (refine (KA.out).mono ?_; rintro e w2 ⟨rfl, hg⟩))
        go_ret
        rw [HR.out]
        exact ⟨rfl, HG.out.trans hg⟩
      | false =>
        have HR : Hid (t.right = false) := by
          unfold Hid
          rw [HE.out]
          unfold bodyT
          rw [hz', hA, hB, hz2']
          rfl
        clear h0
        go_enter Tryz.func71, Tryz.ntmps71
        go_wp2_with fail
        go_ret
        rw [HR.out]
        exact ⟨rfl, HG.out⟩
  · have hz : ((t.kids.length : Int) == 1) = false := beq_eq_false_iff_ne.2 (by omega)
    have hz' : (t.kids.length == 1) = false := beq_eq_false_iff_ne.2 h0
    by_cases h2 : t.kids.length = 2
    · have hz2 : ((t.kids.length : Int) == 2) = true := by rw [h2]; rfl
      have hz2' : (t.kids.length == 2) = true := by rw [h2]; rfl
      clear h2
      have KT := Lib.hid (HT.out.two (w.alloc (.cells #[.int .u8 16, .string t.text, .int .i64 0, .int .i64 t.pos, .slice a t.kids.length c] 25)))
      cases h1 : twoT t.text with
      | false =>
        rw [h1] at KT
        have HR : Hid (t.right = false) := by
          unfold Hid
          rw [HE.out]
          unfold bodyT
          rw [hz', hz2', h1]
          rfl
        clear h0
        go_enter Tryz.func71, Tryz.ntmps71
        go_wp2_with (go_at_call 103; go_must (refine (KT.out).mono ?_; rintro e w1 ⟨rfl, hg⟩; have HG1 := Lib.hid (HG.out.trans hg); have HGb := Lib.hid hg; clear hg; refine Hid.out ?_))
        refine Lib.hid ?_
        go_wp2_with fail
        go_ret
        rw [HR.out]
        exact ⟨rfl, HG1.out⟩
      | true =>
        rw [h1] at KT
        have HR : Hid (t.right = exprsK t.kids) := by
          unfold Hid
          rw [HE.out]
          unfold bodyT
          rw [hz', hz2', h1]
          rfl
        clear h0
        go_enter Tryz.func71, Tryz.ntmps71
        go_wp2_with (go_at_call 103; go_must (refine (KT.out).mono ?_; rintro e w1 ⟨rfl, hg⟩; have HG1 := Lib.hid (HG.out.trans hg); have HGb := Lib.hid hg; clear hg; refine Hid.out ?_))
        have KA := Lib.hid (HT.out.exprs w1 HG1.out)
        have hbx := box_cell (cs := #[.int .u8 16, .string t.text, .int .i64 0, .int .i64 t.pos, .slice a t.kids.length c]) (show Gr _ w1 from HGb.out) 4
        refine Lib.hid ?_
        go_wp2_with (go_at_call 100; go_must (refine (KA.out).mono ?_; rintro e w2 ⟨rfl, hg⟩))
        go_ret
        rw [HR.out]
        exact ⟨rfl, HG1.out.trans hg⟩
    · have hz2 : ((t.kids.length : Int) == 2) = false := beq_eq_false_iff_ne.2 (by omega)
      have hz2' : (t.kids.length == 2) = false := beq_eq_false_iff_ne.2 h2
      clear h2
      have HR : Hid (t.right = false) := by
        unfold Hid
        rw [HE.out]
        unfold bodyT
        rw [hz', hz2']
        rfl
      clear h0
      go_enter Tryz.func71, Tryz.ntmps71
      go_wp2_with fail
      go_ret
      rw [HR.out]
      exact ⟨rfl, HG.out⟩

set_option maxRecDepth 100000 in
set_option maxHeartbeats 1000000 in
theorem node_9 (t : T) (w : World) (a : Option Addr) (c : Nat) (ht : Told t w a c) (hp : 0 ≤ t.pos) (hk : t.kind = 9) : NodeAt t w a c := by
  have HE : Hid (t.right = bodyT 9 t.text t.num t.kids) := by
    unfold Hid
    rw [T.right_eq, decide_eq_true hp, hk]
    cases (t.num == 0) <;> rfl
  have HG : Hid (Gr w (w.alloc (.cells #[.int .u8 9, .string t.text, .int .i64 t.num, .int .i64 t.pos, .slice a t.kids.length c] 25))) := box_gr _ _
  have HT := Lib.hid ht
  have hd : decide (t.pos < 0) = false := decide_eq_false (by omega)
  unfold NodeAt
  rw [hk]
  clear ht hk
  cases hnn : (t.num != 0) with
  | true =>
    by_cases hs : 0 < t.text.size
    · obtain ⟨hem, -⟩ := size_pos hs
      have HR : Hid (t.right = false) := by
        unfold Hid
        rw [HE.out]
        unfold bodyT
        rw [hem]
        rfl
      clear hs
      go_enter Tryz.func71, Tryz.ntmps71
      go_wp2_with fail
      go_ret
      rw [HR.out]
      exact ⟨rfl, HG.out⟩
    · obtain ⟨hem, -⟩ := size_zero hs
      have hem' : t.text.toList.isEmpty = true := by rw [hem]; rfl
      by_cases hlo : 0 ≤ t.num
      · have dlo : decide (0 ≤ t.num) = true := decide_eq_true hlo
        by_cases hhi : t.num ≤ 2147483647
        · have dhi : decide (t.num ≤ 2147483647) = true := decide_eq_true hhi
          by_cases h0 : t.kids.length = 0
          · have hz : ((t.kids.length : Int) == 0) = true := by rw [h0]; rfl
            have hz' : (t.kids.length == 0) = true := by rw [h0]; rfl
            have HR : Hid (t.right = true) := by
              unfold Hid
              rw [HE.out]
              unfold bodyT
              rw [hem', dlo, dhi, hz']
              rfl
            clear h0 hz' hem' hs
            go_enter Tryz.func71, Tryz.ntmps71
            go_wp2_with fail
            go_ret
            rw [HR.out]
            exact ⟨rfl, HG.out⟩
          · have hz : ((t.kids.length : Int) == 0) = false := beq_eq_false_iff_ne.2 (by omega)
            have hz' : (t.kids.length == 0) = false := beq_eq_false_iff_ne.2 h0
            have HR : Hid (t.right = false) := by
              unfold Hid
              rw [HE.out]
              unfold bodyT
              rw [hem', dlo, dhi, hz']
              rfl
            clear h0 hz' hem' hs
            go_enter Tryz.func71, Tryz.ntmps71
            go_wp2_with fail
            go_ret
            rw [HR.out]
            exact ⟨rfl, HG.out⟩
        · have dhi : decide (t.num ≤ 2147483647) = false := decide_eq_false hhi
          have HR : Hid (t.right = false) := by
            unfold Hid
            rw [HE.out]
            unfold bodyT
            rw [hem', dlo, dhi]
            rfl
          clear hem' hs
          go_enter Tryz.func71, Tryz.ntmps71
          go_wp2_with fail
          go_ret
          rw [HR.out]
          exact ⟨rfl, HG.out⟩
      · have dlo : decide (0 ≤ t.num) = false := decide_eq_false hlo
        have HR : Hid (t.right = false) := by
          unfold Hid
          rw [HE.out]
          unfold bodyT
          rw [hem', dlo]
          rfl
        clear hem' hs
        go_enter Tryz.func71, Tryz.ntmps71
        go_wp2_with fail
        go_ret
        rw [HR.out]
        exact ⟨rfl, HG.out⟩
  | false =>
    by_cases hs : 0 < t.text.size
    · obtain ⟨hem, -⟩ := size_pos hs
      have HR : Hid (t.right = false) := by
        unfold Hid
        rw [HE.out]
        unfold bodyT
        rw [hem]
        rfl
      clear hs
      go_enter Tryz.func71, Tryz.ntmps71
      go_wp2_with fail
      go_ret
      rw [HR.out]
      exact ⟨rfl, HG.out⟩
    · obtain ⟨hem, -⟩ := size_zero hs
      have hem' : t.text.toList.isEmpty = true := by rw [hem]; rfl
      by_cases hlo : 0 ≤ t.num
      · have dlo : decide (0 ≤ t.num) = true := decide_eq_true hlo
        by_cases hhi : t.num ≤ 2147483647
        · have dhi : decide (t.num ≤ 2147483647) = true := decide_eq_true hhi
          by_cases h0 : t.kids.length = 0
          · have hz : ((t.kids.length : Int) == 0) = true := by rw [h0]; rfl
            have hz' : (t.kids.length == 0) = true := by rw [h0]; rfl
            have HR : Hid (t.right = true) := by
              unfold Hid
              rw [HE.out]
              unfold bodyT
              rw [hem', dlo, dhi, hz']
              rfl
            clear h0 hz' hem' hs
            go_enter Tryz.func71, Tryz.ntmps71
            go_wp2_with fail
            go_ret
            rw [HR.out]
            exact ⟨rfl, HG.out⟩
          · have hz : ((t.kids.length : Int) == 0) = false := beq_eq_false_iff_ne.2 (by omega)
            have hz' : (t.kids.length == 0) = false := beq_eq_false_iff_ne.2 h0
            have HR : Hid (t.right = false) := by
              unfold Hid
              rw [HE.out]
              unfold bodyT
              rw [hem', dlo, dhi, hz']
              rfl
            clear h0 hz' hem' hs
            go_enter Tryz.func71, Tryz.ntmps71
            go_wp2_with fail
            go_ret
            rw [HR.out]
            exact ⟨rfl, HG.out⟩
        · have dhi : decide (t.num ≤ 2147483647) = false := decide_eq_false hhi
          have HR : Hid (t.right = false) := by
            unfold Hid
            rw [HE.out]
            unfold bodyT
            rw [hem', dlo, dhi]
            rfl
          clear hem' hs
          go_enter Tryz.func71, Tryz.ntmps71
          go_wp2_with fail
          go_ret
          rw [HR.out]
          exact ⟨rfl, HG.out⟩
      · have dlo : decide (0 ≤ t.num) = false := decide_eq_false hlo
        have HR : Hid (t.right = false) := by
          unfold Hid
          rw [HE.out]
          unfold bodyT
          rw [hem', dlo]
          rfl
        clear hem' hs
        go_enter Tryz.func71, Tryz.ntmps71
        go_wp2_with fail
        go_ret
        rw [HR.out]
        exact ⟨rfl, HG.out⟩

set_option maxRecDepth 100000 in
set_option maxHeartbeats 1000000 in
theorem node_4 (t : T) (w : World) (a : Option Addr) (c : Nat) (ht : Told t w a c) (hp : 0 ≤ t.pos) (hk : t.kind = 4) : NodeAt t w a c := by
  have HE : Hid (t.right = bodyT 4 t.text t.num t.kids) := by
    unfold Hid
    rw [T.right_eq, decide_eq_true hp, hk]
    cases (t.num == 0) <;> rfl
  have HG : Hid (Gr w (w.alloc (.cells #[.int .u8 4, .string t.text, .int .i64 t.num, .int .i64 t.pos, .slice a t.kids.length c] 25))) := box_gr _ _
  have HT := Lib.hid ht
  have hd : decide (t.pos < 0) = false := decide_eq_false (by omega)
  unfold NodeAt
  rw [hk]
  clear ht hk
  have KN := Lib.hid (HT.out.name (w.alloc (.cells #[.int .u8 4, .string t.text, .int .i64 t.num, .int .i64 t.pos, .slice a t.kids.length c] 25)))
  cases h1 : nameT t.text with
  | false =>
    cases hnn : (t.num != 0) with
    | true =>
        rw [h1] at KN
        have HR : Hid (t.right = false) := by
          unfold Hid
          rw [HE.out]
          unfold bodyT
          rw [h1]
          rfl
        go_enter Tryz.func71, Tryz.ntmps71
        go_wp2_with (go_at_call 98; go_must (refine (KN.out).mono ?_; rintro e w1 ⟨rfl, hg⟩; have HG1 := Lib.hid (HG.out.trans hg); have HGb := Lib.hid hg; clear hg; refine Hid.out ?_))
        refine Lib.hid ?_
        go_wp2_with fail
        go_ret
        rw [HR.out]
        exact ⟨rfl, HG1.out⟩
    | false =>
        rw [h1] at KN
        have HR : Hid (t.right = false) := by
          unfold Hid
          rw [HE.out]
          unfold bodyT
          rw [h1]
          rfl
        go_enter Tryz.func71, Tryz.ntmps71
        go_wp2_with (go_at_call 98; go_must (refine (KN.out).mono ?_; rintro e w1 ⟨rfl, hg⟩; have HG1 := Lib.hid (HG.out.trans hg); have HGb := Lib.hid hg; clear hg; refine Hid.out ?_))
        refine Lib.hid ?_
        go_wp2_with fail
        go_ret
        rw [HR.out]
        exact ⟨rfl, HG1.out⟩
  | true =>
    rw [h1] at KN
    cases hnn : (t.num != 0) with
    | true =>
      by_cases hlo : -2147483647 ≤ t.num
      · have dlo : decide (-2147483647 ≤ t.num) = true := decide_eq_true hlo
        by_cases hhi : t.num ≤ 2147483647
        · have dhi : decide (t.num ≤ 2147483647) = true := decide_eq_true hhi
          have HR : Hid (t.right = ruleK t.kids) := by
            unfold Hid
            rw [HE.out]
            unfold bodyT
            rw [h1, dlo, dhi]
            rfl
          go_enter Tryz.func71, Tryz.ntmps71
          go_wp2_with (go_at_call 98; go_must (refine (KN.out).mono ?_; rintro e w1 ⟨rfl, hg⟩; have HG1 := Lib.hid (HG.out.trans hg); have HGb := Lib.hid hg; clear hg; refine Hid.out ?_))
          have hbx2 := box_cell (cs := #[.int .u8 4, .string t.text, .int .i64 t.num, .int .i64 t.pos, .slice a t.kids.length c]) (show Gr _ w1 from HGb.out) 2
          have KA := Lib.hid (HT.out.rule w1 HG1.out)
          have hbx := box_cell (cs := #[.int .u8 4, .string t.text, .int .i64 t.num, .int .i64 t.pos, .slice a t.kids.length c]) (show Gr _ w1 from HGb.out) 4
          refine Lib.hid ?_
          go_wp2_with (go_at_call 99; go_must (refine (KA.out).mono ?_; rintro e w2 ⟨rfl, hg⟩))
          go_ret
          rw [HR.out]
          exact ⟨rfl, HG1.out.trans hg⟩
        · have dhi : decide (t.num ≤ 2147483647) = false := decide_eq_false hhi
          have HR : Hid (t.right = false) := by
            unfold Hid
            rw [HE.out]
            unfold bodyT
            rw [h1, dlo, dhi]
            rfl
          go_enter Tryz.func71, Tryz.ntmps71
          go_wp2_with (go_at_call 98; go_must (refine (KN.out).mono ?_; rintro e w1 ⟨rfl, hg⟩; have HG1 := Lib.hid (HG.out.trans hg); have HGb := Lib.hid hg; clear hg; refine Hid.out ?_))
          have hbx2 := box_cell (cs := #[.int .u8 4, .string t.text, .int .i64 t.num, .int .i64 t.pos, .slice a t.kids.length c]) (show Gr _ w1 from HGb.out) 2
          refine Lib.hid ?_
          go_wp2_with fail
          go_ret
          rw [HR.out]
          exact ⟨rfl, HG1.out⟩
      · have dlo : decide (-2147483647 ≤ t.num) = false := decide_eq_false hlo
        have HR : Hid (t.right = false) := by
          unfold Hid
          rw [HE.out]
          unfold bodyT
          rw [h1, dlo]
          rfl
        go_enter Tryz.func71, Tryz.ntmps71
        go_wp2_with (go_at_call 98; go_must (refine (KN.out).mono ?_; rintro e w1 ⟨rfl, hg⟩; have HG1 := Lib.hid (HG.out.trans hg); have HGb := Lib.hid hg; clear hg; refine Hid.out ?_))
        have hbx2 := box_cell (cs := #[.int .u8 4, .string t.text, .int .i64 t.num, .int .i64 t.pos, .slice a t.kids.length c]) (show Gr _ w1 from HGb.out) 2
        refine Lib.hid ?_
        go_wp2_with fail
        go_ret
        rw [HR.out]
        exact ⟨rfl, HG1.out⟩
    | false =>
      by_cases hlo : -2147483647 ≤ t.num
      · have dlo : decide (-2147483647 ≤ t.num) = true := decide_eq_true hlo
        by_cases hhi : t.num ≤ 2147483647
        · have dhi : decide (t.num ≤ 2147483647) = true := decide_eq_true hhi
          have HR : Hid (t.right = ruleK t.kids) := by
            unfold Hid
            rw [HE.out]
            unfold bodyT
            rw [h1, dlo, dhi]
            rfl
          go_enter Tryz.func71, Tryz.ntmps71
          go_wp2_with (go_at_call 98; go_must (refine (KN.out).mono ?_; rintro e w1 ⟨rfl, hg⟩; have HG1 := Lib.hid (HG.out.trans hg); have HGb := Lib.hid hg; clear hg; refine Hid.out ?_))
          have hbx2 := box_cell (cs := #[.int .u8 4, .string t.text, .int .i64 t.num, .int .i64 t.pos, .slice a t.kids.length c]) (show Gr _ w1 from HGb.out) 2
          have KA := Lib.hid (HT.out.rule w1 HG1.out)
          have hbx := box_cell (cs := #[.int .u8 4, .string t.text, .int .i64 t.num, .int .i64 t.pos, .slice a t.kids.length c]) (show Gr _ w1 from HGb.out) 4
          refine Lib.hid ?_
          go_wp2_with (go_at_call 99; go_must (refine (KA.out).mono ?_; rintro e w2 ⟨rfl, hg⟩))
          go_ret
          rw [HR.out]
          exact ⟨rfl, HG1.out.trans hg⟩
        · have dhi : decide (t.num ≤ 2147483647) = false := decide_eq_false hhi
          have HR : Hid (t.right = false) := by
            unfold Hid
            rw [HE.out]
            unfold bodyT
            rw [h1, dlo, dhi]
            rfl
          go_enter Tryz.func71, Tryz.ntmps71
          go_wp2_with (go_at_call 98; go_must (refine (KN.out).mono ?_; rintro e w1 ⟨rfl, hg⟩; have HG1 := Lib.hid (HG.out.trans hg); have HGb := Lib.hid hg; clear hg; refine Hid.out ?_))
          have hbx2 := box_cell (cs := #[.int .u8 4, .string t.text, .int .i64 t.num, .int .i64 t.pos, .slice a t.kids.length c]) (show Gr _ w1 from HGb.out) 2
          refine Lib.hid ?_
          go_wp2_with fail
          go_ret
          rw [HR.out]
          exact ⟨rfl, HG1.out⟩
      · have dlo : decide (-2147483647 ≤ t.num) = false := decide_eq_false hlo
        have HR : Hid (t.right = false) := by
          unfold Hid
          rw [HE.out]
          unfold bodyT
          rw [h1, dlo]
          rfl
        go_enter Tryz.func71, Tryz.ntmps71
        go_wp2_with (go_at_call 98; go_must (refine (KN.out).mono ?_; rintro e w1 ⟨rfl, hg⟩; have HG1 := Lib.hid (HG.out.trans hg); have HGb := Lib.hid hg; clear hg; refine Hid.out ?_))
        have hbx2 := box_cell (cs := #[.int .u8 4, .string t.text, .int .i64 t.num, .int .i64 t.pos, .slice a t.kids.length c]) (show Gr _ w1 from HGb.out) 2
        refine Lib.hid ?_
        go_wp2_with fail
        go_ret
        rw [HR.out]
        exact ⟨rfl, HG1.out⟩
end Go.Proofs.YtfmjhbaenpbfoaaGreatDoor
