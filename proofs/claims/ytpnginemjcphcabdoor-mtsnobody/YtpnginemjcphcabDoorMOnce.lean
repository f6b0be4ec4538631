/- What this text proves: the parts of sync.Once's slow road over this program, each a contract of its own; one goroutine: the lock that is free, the two calls that are deferred, Do when it was done already. -/
import Derived.Test.YtpnginemjcphcabDoorFacts
import Derived.Tactics
import Derived.Tactics2
import Derived.Defers
import Derived.Laws.Pointers
import Derived.Laws.LoneSync
import Derived.RegionTactic
import Derived.RegionCalls
namespace Go.Proofs.YtpnginemjcphcabDoor
open Go.RowKit

theorem disable (w : World) : (callFunc 104 #[]).run Tryd.prog w = .ok (.value (.tuple #[])) w := run_call_mark0 Tryd.func104 (by kernel_rfl) (by kernel_rfl) (by kernel_rfl) .disable (by kernel_rfl) w
theorem enable (w : World) : (callFunc 106 #[]).run Tryd.prog w = .ok (.value (.tuple #[])) w := run_call_mark0 Tryd.func106 (by kernel_rfl) (by kernel_rfl) (by kernel_rfl) .enable (by kernel_rfl) w
theorem acquire (a : Addr) (w : World) : (callFunc 107 #[.pointer (some a)]).run Tryd.prog w = .ok (.value (.tuple #[])) w := run_call_marked Tryd.func107 (by kernel_rfl) (by kernel_rfl) (by kernel_rfl) .acquire (by kernel_rfl) a w
theorem releaseMerge (a : Addr) (w : World) : (callFunc 109 #[.pointer (some a)]).run Tryd.prog w = .ok (.value (.tuple #[])) w := run_call_marked Tryd.func109 (by kernel_rfl) (by kernel_rfl) (by kernel_rfl) .releaseMerge (by kernel_rfl) a w

set_option maxRecDepth 100000 in
set_option maxHeartbeats 1600000 in
/-- '(*sync/atomic.Bool).Store(true)', entered as a deferred call: the cell holds 1. -/
theorem store_deferred (a : Addr) (x : Value) (u : FrameMode) (w : World) (hc : w.cell? a = some x) (hz : w.frozen? a = false) :
    CallsD Tryd.prog 86 #[.pointer (some a), .bool true] u w fun e u' w' => u' = u ∧ (e = .returned (.tuple #[]) ∧ w' = w.drew.setCell a (.int .u32 1)) := by
  have hc' : w.drew.cell? a = some x := by go_simp
  have hz' : w.drew.frozen? a = false := by go_simp
  have hst := run_call_store (P := Tryd.prog) Tryd.func94 (by kernel_rfl) (by kernel_rfl) (by kernel_rfl) (by kernel_rfl) (k := .u32) (y := 1) hc' hz'
  go_enter_d Tryd.func86, Tryd.ntmps86
  go_wp2
  go_region_calls
  all_goals (go_end0; exact ⟨rfl, rfl⟩)

set_option maxRecDepth 100000 in
set_option maxHeartbeats 1600000 in
/-- '(*sync.Mutex).Unlock', entered as a deferred call, the lock held and nobody waiting. -/
theorem unlock_deferred (a : Addr) (u : FrameMode) (w : World) (hc : w.cell? a = some (.int .i32 1)) (hz : w.frozen? a = false) :
    CallsD Tryd.prog 85 #[.pointer (some a)] u w fun e u' w' => u' = u ∧ (e = .returned (.tuple #[]) ∧ w' = w.setCell a (.int .i32 0)) := by
  have hd := disable
  have he := enable
  have hr := releaseMerge
  have hadd := run_call_add (P := Tryd.prog) Tryd.func110 (by kernel_rfl) (by kernel_rfl) (by kernel_rfl) .i32 (by kernel_rfl) (y := -1) (s := 0) hc hz (by simp [go_sem]; rfl)
  have hcv := run_convert_to_unsafe (P := Tryd.prog) (src := 135) (dst := 139) Tryd.underlying135 Tryd.underlying139 (by kernel_rfl) hc
  go_enter_d Tryd.func85, Tryd.ntmps85
  go_wp2
  go_end0
  go_wp2
  go_end0
  exact ⟨rfl, rfl⟩

set_option maxRecDepth 100000 in
set_option maxHeartbeats 1600000 in
/-- '(*sync.Mutex).Lock', the lock free. -/
theorem lock_free (a : Addr) (w : World) (hc : w.cell? a = some (.int .i32 0)) (hz : w.frozen? a = false) :
    Calls Tryd.prog 84 #[.pointer (some a)] w fun e w' => e = .returned (.tuple #[]) ∧ w' = w.setCell a (.int .i32 1) := by
  have hd := disable
  have he := enable
  have ha := acquire
  have hcas := run_call_cas_hit (P := Tryd.prog) Tryd.func105 (by kernel_rfl) (by kernel_rfl) (by kernel_rfl) .i32 (by kernel_rfl) (y := 1) hc hz
  have hc' : (w.setCell a (.int .i32 1)).cell? a = some (.int .i32 1) := World.cell?_setCell_same w a _ hc
  have hcv := run_convert_to_unsafe (P := Tryd.prog) (src := 135) (dst := 139) Tryd.underlying135 Tryd.underlying139 (by kernel_rfl) hc'
  go_enter Tryd.func84, Tryd.ntmps84
  go_wp2
  first | go_end0 | (simp only [Exit.inBlock, Exit.then]; refine bodyPost_ret (results_none rfl _ _ _) rfl ?_) | refine bodyPost_ret (results_none rfl _ _ _) rfl ?_
  go_wp2
  go_end0
  exact ⟨rfl, rfl⟩

set_option maxRecDepth 100000 in
set_option maxHeartbeats 1600000 in
/-- '(*sync.Once).Do', done already: the function is not called. -/
theorem do_done (a : Addr) (d : Int) (hd : ¬ d = 0) (fv : Value) (w : World) (h0 : w.cell? a = some (.int .u32 d)) :
    Calls Tryd.prog 54 #[.pointer (some a), fv] w fun e w' => e = .returned (.tuple #[]) ∧ w' = w := by
  have hl := run_call_load (P := Tryd.prog) Tryd.func83 (by kernel_rfl) (by kernel_rfl) (by kernel_rfl) .u32 (by kernel_rfl) h0
  have hnot : ∀ (x : Bool) (w : World), (Op.unary .not (.bool x)).run Tryd.prog w = .ok (.bool (!x)) w := fun _ _ => rfl
  have hd' : (d != 0) = true := by simp [hd]
  go_enter Tryd.func54, Tryd.ntmps54
  go_wp2
  go_end0
  exact ⟨rfl, rfl⟩

/-- The object of keys: its seven cells. -/
def KO (w : World) (g : Nat) (n h : Int) (sv : Value) (d s : Int) (lv : Value) : Prop :=
  w.heap[g]? = some (.cells #[.int .i64 n, .int .i64 h, sv, .int .u32 d, .int .i32 s, .int .u32 0, lv] 64 (0, 0))

theorem KO.lt {w : World} {g : Nat} {n h d s : Int} {sv lv : Value} (k : KO w g n h sv d s lv) : g < w.heap.size := (Array.getElem?_eq_some_iff.1 k).1
theorem KO.c0 {w : World} {g : Nat} {n h d s : Int} {sv lv : Value} (k : KO w g n h sv d s lv) : w.cell? ⟨g, 0, none⟩ = some (.int .i64 n) := by rw [cell_of_row w g _ _ _ _ k]; rfl
theorem KO.c1 {w : World} {g : Nat} {n h d s : Int} {sv lv : Value} (k : KO w g n h sv d s lv) : w.cell? ⟨g, 1, none⟩ = some (.int .i64 h) := by rw [cell_of_row w g _ _ _ _ k]; rfl
theorem KO.c2 {w : World} {g : Nat} {n h d s : Int} {sv lv : Value} (k : KO w g n h sv d s lv) : w.cell? ⟨g, 2, none⟩ = some sv := by rw [cell_of_row w g _ _ _ _ k]; rfl
theorem KO.c3 {w : World} {g : Nat} {n h d s : Int} {sv lv : Value} (k : KO w g n h sv d s lv) : w.cell? ⟨g, 3, none⟩ = some (.int .u32 d) := by rw [cell_of_row w g _ _ _ _ k]; rfl
theorem KO.c4 {w : World} {g : Nat} {n h d s : Int} {sv lv : Value} (k : KO w g n h sv d s lv) : w.cell? ⟨g, 4, none⟩ = some (.int .i32 s) := by rw [cell_of_row w g _ _ _ _ k]; rfl
theorem KO.c6 {w : World} {g : Nat} {n h d s : Int} {sv lv : Value} (k : KO w g n h sv d s lv) : w.cell? ⟨g, 6, none⟩ = some lv := by rw [cell_of_row w g _ _ _ _ k]; rfl
theorem KO.free {w : World} {g : Nat} {n h d s : Int} {sv lv : Value} (k : KO w g n h sv d s lv) (i : Nat) : w.frozen? ⟨g, i, none⟩ = false := by
  unfold KO at k
  simp [World.frozen?, k]
theorem KO.put3 {w : World} {g : Nat} {n h d s : Int} {sv lv : Value} (k : KO w g n h sv d s lv) (x : Int) : KO (w.setCell ⟨g, 3, none⟩ (.int .u32 x)) g n h sv x s lv := by
  unfold KO
  rw [heap_setCell_same w g 3 _ _ _ k]
  rfl
theorem KO.put4 {w : World} {g : Nat} {n h d s : Int} {sv lv : Value} (k : KO w g n h sv d s lv) (x : Int) : KO (w.setCell ⟨g, 4, none⟩ (.int .i32 x)) g n h sv d x lv := by
  unfold KO
  rw [heap_setCell_same w g 4 _ _ _ k]
  rfl
theorem KO.put6 {w : World} {g : Nat} {n h d s : Int} {sv lv : Value} (k : KO w g n h sv d s lv) (x : Value) : KO (w.setCell ⟨g, 6, none⟩ x) g n h sv d s x := by
  unfold KO
  rw [heap_setCell_same w g 6 _ _ _ k]
  rfl
theorem KO.later {w w' : World} {g : Nat} {n h d s : Int} {sv lv : Value} (k : KO w g n h sv d s lv) (hb : Below w.heap.size w w') : KO w' g n h sv d s lv := by
  unfold KO
  rw [hb.block g k.lt]
  exact k
theorem KO.drew {w : World} {g : Nat} {n h d s : Int} {sv lv : Value} (k : KO w g n h sv d s lv) : KO w.drew g n h sv d s lv := k

set_option maxRecDepth 100000 in
set_option maxHeartbeats 3200000 in
/-- '(*sync.Once).doSlow', not yet done and the lock free, the function of the keys' tree. -/
theorem slow_any (g : Nat) (n h : Int) (sv lv : Value) (pl : Addr) (Q : Value → World → Prop) (w : World) (k : KO w g n h sv 0 0 lv)
    (hf : Calls Tryd.prog 55 #[.pointer (some pl)] (w.setCell ⟨g, 4, none⟩ (.int .i32 1)) fun e w2 => e = .returned (.tuple #[]) ∧ ∃ lv', KO w2 g n h sv 0 1 lv' ∧ Q lv' w2) :
    Calls Tryd.prog 76 #[.pointer (some ⟨g, 3, none⟩), .func (.func 55) #[] #[.pointer (some pl)]] w fun e w' => e = .returned (.tuple #[]) ∧
      ∃ lv' w2, KO w2 g n h sv 0 1 lv' ∧ Q lv' w2 ∧ w' = (w2.drew.setCell ⟨g, 3, none⟩ (.int .u32 1)).setCell ⟨g, 4, none⟩ (.int .i32 0) := by
  have k1 := k.put4 1
  have hl := run_call_load (P := Tryd.prog) Tryd.func83 (by kernel_rfl) (by kernel_rfl) (by kernel_rfl) .u32 (by kernel_rfl) (w := w.setCell ⟨g, 4, none⟩ (.int .i32 1)) (a := ⟨g, 3, none⟩) (x := 0) k1.c3
  have hnot : ∀ (x : Bool) (w : World), (Op.unary .not (.bool x)).run Tryd.prog w = .ok (.bool (!x)) w := fun _ _ => rfl
  have c4 := k.c4
  have f4 := k.free 4
  go_enter_defers Tryd.func76, Tryd.ntmps76
  go_wp2_with (first | (go_at_call 84; refine (lock_free ⟨g, 4, none⟩ _ c4 f4).mono ?_; rintro e w' ⟨rfl, rfl⟩) | (go_at_call 75; go_in) | (go_at_call 55; refine hf.mono ?_; rintro e w2 ⟨rfl, lv', k2, hQ⟩))
  have k2d := k2.drew
  have k3 := k2d.put3 1
  refine leaves_cons (f := 86) (args := #[.pointer (some ⟨g, 3, none⟩), .bool true]) (by simp) (by simp [go_sem]) ?_
  refine (store_deferred ⟨g, 3, none⟩ (.int .u32 0) .returning _ k2.c3 (k2.free 3)).mono ?_
  rintro e u' w'' ⟨rfl, rfl, rfl⟩
  refine leaves_cons (f := 85) (args := #[.pointer (some ⟨g, 4, none⟩)]) (by simp [settle]) (by simp [go_sem]) ?_
  refine (unlock_deferred ⟨g, 4, none⟩ _ _ k3.c4 (k3.free 4)).mono ?_
  rintro e u' w'' ⟨rfl, rfl, rfl⟩
  simp only [Leaves, settle, results, Tryd.results76]
  exact ⟨.tuple #[], by first | rfl | simp, rfl, lv', w2, k2, hQ, rfl⟩

set_option maxRecDepth 100000 in
set_option maxHeartbeats 1600000 in
/-- '(*sync.Once).Do', not yet done, the lock free. -/
theorem do_first (g : Nat) (n h : Int) (sv lv : Value) (pl : Addr) (Q : Value → World → Prop) (w : World) (k : KO w g n h sv 0 0 lv)
    (hf : Calls Tryd.prog 55 #[.pointer (some pl)] (w.setCell ⟨g, 4, none⟩ (.int .i32 1)) fun e w2 => e = .returned (.tuple #[]) ∧ ∃ lv', KO w2 g n h sv 0 1 lv' ∧ Q lv' w2) :
    Calls Tryd.prog 54 #[.pointer (some ⟨g, 3, none⟩), .func (.func 55) #[] #[.pointer (some pl)]] w fun e w' => e = .returned (.tuple #[]) ∧
      ∃ lv' w2, KO w2 g n h sv 0 1 lv' ∧ Q lv' w2 ∧ w' = (w2.drew.setCell ⟨g, 3, none⟩ (.int .u32 1)).setCell ⟨g, 4, none⟩ (.int .i32 0) := by
  have h0 := k.c3
  have hl := run_call_load (P := Tryd.prog) Tryd.func83 (by kernel_rfl) (by kernel_rfl) (by kernel_rfl) .u32 (by kernel_rfl) h0
  have hnot : ∀ (x : Bool) (w : World), (Op.unary .not (.bool x)).run Tryd.prog w = .ok (.bool (!x)) w := fun _ _ => rfl
  have hS := slow_any g n h sv lv pl Q w k hf
  go_enter Tryd.func54, Tryd.ntmps54
  go_wp2_with (first | (go_at_call 76; refine hS.mono ?_; rintro e w' ⟨rfl, hx⟩) | (go_at_call 75; go_in))
  go_end0
  exact ⟨rfl, hx⟩

end Go.Proofs.YtpnginemjcphcabDoor
