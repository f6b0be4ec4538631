/- What this text proves: the walk of annalslaw08.awake over this program: it answers true. What this text proves: the walk of annalslaw08.SeglogNobody over this program: it answers true. -/
import Derived.Test.YtcgpgnajmfemhaaGreatDoorJW1
import Derived.Test.YtcgpgnajmfemhaaGreatDoorJN1
import Derived.Lib.SlBytesConst
namespace Go.Proofs.YtcgpgnajmfemhaaGreatDoor
open Go.RowKit

theorem new_alive (n : Nat) : Alive (DevS.new n) n 0 := ⟨rfl, rfl, by simp [DevS.new, DevS.made], Nat.le_refl _⟩
theorem new_zero (n : Nat) : ∀ r ∈ (DevS.new n).now, r = nulls := fun _ h => (List.mem_replicate.1 h).2

end Go.Proofs.YtcgpgnajmfemhaaGreatDoor

namespace Go.Proofs.YtcgpgnajmfemhaaGreatDoor
open Go.RowKit

set_option maxRecDepth 100000 in
set_option maxHeartbeats 400000 in
theorem read_none (v : Value) (i : Int) (w : World) (hm : Calls Tryz.prog 151 #[v] w fun e w' => e = .returned (.bool true) ∧ w' = w) : Calls Tryz.prog 110 #[v, .int .i64 i] w fun e w' => e = .returned (.tuple #[.slice none 0 0, .int .i64 2]) ∧ w' = w := by
  go_enter Tryz.func110, Tryz.ntmps110
  go_wp2_with (go_at_call 151; refine hm.mono ?_; rintro e w1 ⟨rfl, rfl⟩)
  go_ret2
  exact ⟨rfl, rfl⟩

attribute [local go_sem] Oper.semAt_some

set_option maxRecDepth 100000 in
set_option maxHeartbeats 800000 in
theorem open_none (v : Value) (w : World) (hm : Calls Tryz.prog 151 #[v] w fun e w' => e = .returned (.bool true) ∧ w' = w) : Calls Tryz.prog 68 #[v] w fun e w' => e = .returned (.tuple #[.pointer none, .int .i64 2]) ∧ w' = w := by
  have hR := read_none v 0 w hm
  refine (callsIn_wide (n := 6)).1 ?_
  refine callsIn_of_wp_marks Tryz.func68 rfl trivial ?_ rfl
  simp only [Tryz.ntmps68, List.size_toArray, List.length_cons, List.length_nil, Nat.reduceAdd, Nat.reduceSub, Array.replicate_succ, Array.replicate_zero, List.push_toArray, List.append_toArray, List.nil_append, List.cons_append]
  gi_wp2_with (refine ⟨trivial, ?_⟩; gi_at_call 110; refine (callsIn_wide.2 hR).mono ?_; rintro e w1 ⟨rfl, rfl⟩)
  exact ⟨_, results_tmp2 rfl _ _ _, rfl, rfl⟩

end Go.Proofs.YtcgpgnajmfemhaaGreatDoor
