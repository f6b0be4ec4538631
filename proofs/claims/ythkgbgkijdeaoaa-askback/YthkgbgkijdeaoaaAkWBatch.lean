/- What this text proves: the walk of ask's writer's batch over this program. -/
import Derived.Test.YthkgbgkijdeaoaaFlWrite
import Derived.Test.YthkgbgkijdeaoaaCWrite
import Derived.Test.YthkgbgkijdeaoaaStepCall
import Derived.Deep.RegionLaw
namespace Go.Proofs.Ythkgbgkijdeaoaa
open Go.RowKit

set_option maxRecDepth 100000 in
set_option maxHeartbeats 2000000 in
theorem wbatch_any (g base : Nat) (a : Addr) (v : Value) (bs : List (List UInt8 × List UInt8)) (l : List UInt8) (w : World) (h : WRT 49 w g base l) (hg : base ≤ g) (ha : w.cell? a = some v) (hv : BA w v bs) (hb : bulkB bs ≤ 1048576) (hn : bs.length ≤ 40) (hl : l.length ≤ 1000000) :
    Calls Try.prog 82 #[.pointer (some ⟨g, 0, none⟩), .pointer (some a)] w fun e w' => e = .returned (.tuple #[]) ∧ Wrote 49 g base (l ++ wrL bs) w w' := by
  have hbase := h.choose_spec.choose_spec.2.2
  have hU := cwrite_any (.slice none 0 0) v [] bs w.drew (HB.nil _) hv (by simp) hb hn
  rw [List.nil_append] at hU
  have hR : (wrL bs).length ≤ 2000000 := by
    have h1 := binL_len bs hb
    have h2 := cnt_le8 bs.length (by omega)
    unfold wrL
    rw [List.length_append, numL_length]
    omega
  generalize wrL bs = R at hU hR ⊢
  obtain ⟨q, d, rfl⟩ := hv.shape
  go_enter Try.func82, Try.ntmps82
  go_wp2
  go_region_law (first
    | (refine step_calls2 rfl 85 _ _ _ _ rfl (.slice none 0 0) (.slice q bs.length d) rfl rfl rfl (fun r w' => w'.ownsRow w.heap.size 5 1 r R.length (bcs R) ∧ Below w.heap.size w w') (hU.mono fun e w' ⟨r, h1, h2, h3⟩ => ⟨r, h1, h2, (Below.drew (Below.refl w.heap.size w)).trans h3⟩) ?_; intro r w1 ⟨hown, hb1⟩)
    | (refine step_calls2 rfl 38 _ _ _ _ rfl (.pointer (some ⟨g, 0, none⟩)) r rfl rfl rfl (fun _ w' => Wrote 49 g base (l ++ R) w w') ((put_any 49 (by decide) g base r l R w1 (h.later hb1) hg (HB.of_owns hown) (by omega)).mono fun e w' ⟨h1, h2⟩ => ⟨_, h1, h2.after hb1 hbase⟩) ?_; intro _ w2 hW))
  go_wp2
  go_end0
  exact ⟨rfl, hW⟩

end Go.Proofs.Ythkgbgkijdeaoaa
