/- A match that was lent is kept; a match's mark. -/
import Derived.Test.YtlkmabnjmklkpaaGreatDoorToks14
namespace Go.Proofs.YtlkmabnjmklkpaaGreatDoor
open Go.RowKit

theorem keptTok_any (k : Int) (d : List Int) (g : Nat) (ao : Option Addr) (n1 m1 n2 c : Nat) (hn1 : n1 = d.length) (hm1 : m1 = d.length + 12) (hn2 : n2 = d.length) (hl : d.length ≤ 100000) (w : World) (h1 : LentAt w g d) (h2 : SlG w.heap.size w ao (icells d)) :
    Calls Tryz.prog 12 #[.agg #[.int .i64 k, .slice (some ⟨g, 0, none⟩) n1 m1], .agg #[.int .i64 k, .slice ao n2 c]] w (YesG w) := by
  subst hn1
  subst hm1
  subst hn2
  have HB := Lib.hid (gr_two w (.cells #[.int .i64 k, .slice (some ⟨g, 0, none⟩) d.length (d.length + 12)] 24) (.cells #[.int .i64 k, .slice ao d.length c] 24))
  have HK := Lib.hid (fun W (hW : Gr w W) => keptI_any g ao c d W hl (h1.below hW.below) (h2.up hW.below hW.below.size))
  have HS := Lib.hid (fun W (hW : Gr w W) => sameTokG k d (some ⟨g, 0, none⟩) ao d.length d.length (d.length + 12) c rfl rfl (by omega) W (h1.slG.up hW.below hW.below.size) (h2.up hW.below hW.below.size))
  clear h1 h2 hl
  go_enter Tryz.func12, Tryz.ntmps12
  go_wp2_with (first
    | (go_at_call 19; go_must (refine (HS.out _ HB.out).mono ?_; rintro e w1 ⟨rfl, hb⟩; have HB1 := Lib.hid (HB.out.trans hb); obtain ⟨b1, b2⟩ := two_boxes hb.below; clear hb))
    | (go_at_call 34; go_must (refine (HK.out _ HB1.out).mono ?_; rintro e w2 ⟨rfl, hb⟩)))
  go_ret
  exact ⟨rfl, HB1.out.trans hb⟩

end Go.Proofs.YtlkmabnjmklkpaaGreatDoor
