/- The program's agenda in memory; made, Next. -/
import Derived.Test.YtlkmabnjmklkpaaDoorTell14
import Derived.Test.YtlkmabnjmklkpaaDoorOrder14
namespace Go.Proofs.YtlkmabnjmklkpaaDoor
open Go.RowKit

/-- Blocks of bs that hold numbers. -/
def SI (bs : Nat → Prop) (w : World) (b : Nat) : Prop := bs b ∧ ∃ cur fz, w.heap[b]? = some (.cells cur 3 fz)
/-- A row of matches at a place of a block of S. -/
def WRow (w : World) (S : Nat → Prop) (wo : Option Addr) (wc : Nat) (ws : List MV) : Prop := ws.length ≤ wc ∧ (wo = none → wc = 0) ∧ (ws ≠ [] → ∃ g o cur, wo = some ⟨g, o, none⟩ ∧ S g ∧ w.heap[g]? = some (.cells cur 59 (0, 0)) ∧ ∀ (j : Nat) (u : Value), (mcells ws)[j]? = some u → cur[o + j]? = some u)
theorem WRow.touch {S T : Nat → Prop} {w w' : World} {wo : Option Addr} {wc : Nat} {ws : List MV} (h : WRow w S wo wc ws) (t : Touch T w w') (hd : ∀ b, S b → ¬ T b) : WRow w' S wo wc ws := by
  obtain ⟨h1, h2, h3⟩ := h
  refine ⟨h1, h2, fun hn => ?_⟩
  obtain ⟨g, o, cur, e, hs, hg, hc⟩ := h3 hn
  exact ⟨g, o, cur, e, hs, (t.block g (lt_of_heap hg) (hd g hs)).trans hg, hc⟩
/-- The program's agenda: at db the Agenda, at lb its list. -/
structure PAt (w : World) (db lb : Nat) (s : List Int) (so : Option Addr) (sc : Nat) (wo : Option Addr) (wc mb : Nat) (ws F : List MV) (l : List TK) (sp : List Bool) (bs : Nat → Prop) : Prop where
  hdb : w.heap[db]? = some (.cells #[.pointer (some ⟨lb, 0, none⟩)] 29 (0, 0))
  hlb : w.heap[lb]? = some (.cells #[.slice so s.length sc, .slice wo ws.length wc, .map (some mb)] 57 (0, 0))
  bdb : bs db
  blb : bs lb
  bmb : bs mb
  sal : SlS (SI bs w) w so (icells s)
  row : WRow w bs wo wc ws
  map : PMap w mb F
  wok : ∀ p, p ∈ ws → MvS (SI bs w) w p ∧ Fit14 p.1
  fok : ∀ p, p ∈ F → MvS (SI bs w) w p ∧ Fit14 p.1
  srt : Row14 s (ws.map Prod.fst)
  opn : (ws.map Prod.fst).Perm (unspent l sp)
  don : (F.map Prod.fst).Perm (firedOf l sp)
  nod : l.Nodup
  len : sp.length = l.length
  lts : ∀ b, bs b → b < w.heap.size
theorem SI.touch {bs T : Nat → Prop} {w w' : World} (t : Touch T w w') (hd : ∀ b, bs b → ¬ T b) : ∀ b, SI bs w b → SI bs w' b := fun b h => by
  obtain ⟨h1, cur, fz, h2⟩ := h
  exact ⟨h1, cur, fz, (t.block b (lt_of_heap h2) (hd b h1)).trans h2⟩
theorem PAt.touch {w w' : World} {db lb : Nat} {s : List Int} {so : Option Addr} {sc : Nat} {wo : Option Addr} {wc mb : Nat} {ws F : List MV} {l : List TK} {sp : List Bool} {bs T : Nat → Prop} (h : PAt w db lb s so sc wo wc mb ws F l sp bs) (t : Touch T w w') (hd : ∀ b, bs b → ¬ T b) : PAt w' db lb s so sc wo wc mb ws F l sp bs where
  hdb := (t.block _ (lt_of_heap h.hdb) (hd _ h.bdb)).trans h.hdb
  hlb := (t.block _ (lt_of_heap h.hlb) (hd _ h.blb)).trans h.hlb
  bdb := h.bdb
  blb := h.blb
  bmb := h.bmb
  sal := (h.sal.touch t (fun b hb => hd b hb.1)).mono (SI.touch t hd)
  row := h.row.touch t hd
  map := h.map.keep (t.block _ h.map.lt (hd _ h.bmb))
  wok := fun p hp => ⟨((h.wok p hp).1.touch t (fun b hb => hd b hb.1)).mono (SI.touch t hd), (h.wok p hp).2⟩
  fok := fun p hp => ⟨((h.fok p hp).1.touch t (fun b hb => hd b hb.1)).mono (SI.touch t hd), (h.fok p hp).2⟩
  srt := h.srt
  opn := h.opn
  don := h.don
  nod := h.nod
  len := h.len
  lts := fun b hb => Nat.lt_of_lt_of_le (h.lts b hb) t.size
def PAg (w : World) (db : Nat) (s : List Int) (l : List TK) (sp : List Bool) (bs : Nat → Prop) : Prop := ∃ lb so sc wo wc mb ws F, PAt w db lb s so sc wo wc mb ws F l sp bs

set_option maxRecDepth 100000 in
theorem made_any (db lb : Nat) (w : World) (h : w.cell? ⟨db, 0, none⟩ = some (.pointer (some ⟨lb, 0, none⟩))) :
    Calls Tryd.prog 18 #[.pointer (some ⟨db, 0, none⟩)] w fun e w' => e = .returned (.bool true) ∧ w' = w := by
  go_enter Tryd.func18, Tryd.ntmps18
  go_wp2
  go_ret
  exact ⟨rfl, rfl⟩
set_option maxRecDepth 100000 in
theorem made_none (w : World) :
    Calls Tryd.prog 18 #[.pointer none] w fun e w' => e = .returned (.bool false) ∧ w' = w := by
  go_enter Tryd.func18, Tryd.ntmps18
  go_wp2
  go_ret
  exact ⟨rfl, rfl⟩
set_option maxRecDepth 100000 in
theorem made_zero (db : Nat) (w : World) (h : w.cell? ⟨db, 0, none⟩ = some (.pointer none)) :
    Calls Tryd.prog 18 #[.pointer (some ⟨db, 0, none⟩)] w fun e w' => e = .returned (.bool false) ∧ w' = w := by
  go_enter Tryd.func18, Tryd.ntmps18
  go_wp2
  go_ret
  exact ⟨rfl, rfl⟩
end Go.Proofs.YtlkmabnjmklkpaaDoor
