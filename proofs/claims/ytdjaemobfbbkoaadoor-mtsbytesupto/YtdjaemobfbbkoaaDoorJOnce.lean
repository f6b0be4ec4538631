/- What this text proves: the parts of sync.Once's slow road over this program, each a contract of its own; one goroutine: the lock that is free, the two calls that are deferred, Do when it was done already. What this text holds: plain facts: worlds that part in one block alone (no program). What this text holds: the levels of a tree in memory (plain facts): they stay where another block is changed, and where the list of levels grows. -/
import Derived.Test.YtdjaemobfbbkoaaDoorJOwn
import Derived.Tactics
import Derived.Tactics2
import Derived.Defers
import Derived.Laws.Pointers
import Derived.Laws.LoneSync
import Derived.RegionTactic
import Derived.RegionCalls
import Derived.Test.YtdjaemobfbbkoaaDoorJMLevels
namespace Go.Proofs.YtdjaemobfbbkoaaDoor
open Go.RowKit

theorem disable (w : World) : (callFunc 99 #[]).run Tryd.prog w = .ok (.value (.tuple #[])) w := run_call_mark0 Tryd.func99 (by kernel_rfl) (by kernel_rfl) (by kernel_rfl) .disable (by kernel_rfl) w
theorem enable (w : World) : (callFunc 101 #[]).run Tryd.prog w = .ok (.value (.tuple #[])) w := run_call_mark0 Tryd.func101 (by kernel_rfl) (by kernel_rfl) (by kernel_rfl) .enable (by kernel_rfl) w
theorem acquire (a : Addr) (w : World) : (callFunc 102 #[.pointer (some a)]).run Tryd.prog w = .ok (.value (.tuple #[])) w := run_call_marked Tryd.func102 (by kernel_rfl) (by kernel_rfl) (by kernel_rfl) .acquire (by kernel_rfl) a w
theorem releaseMerge (a : Addr) (w : World) : (callFunc 104 #[.pointer (some a)]).run Tryd.prog w = .ok (.value (.tuple #[])) w := run_call_marked Tryd.func104 (by kernel_rfl) (by kernel_rfl) (by kernel_rfl) .releaseMerge (by kernel_rfl) a w

set_option maxRecDepth 100000 in
set_option maxHeartbeats 1600000 in
/-- '(*sync/atomic.Bool).Store(true)', entered as a deferred call: the cell holds 1. -/
theorem store_deferred (a : Addr) (x : Value) (u : FrameMode) (w : World) (hc : w.cell? a = some x) (hz : w.frozen? a = false) :
    CallsD Tryd.prog 81 #[.pointer (some a), .bool true] u w fun e u' w' => u' = u ∧ (e = .returned (.tuple #[]) ∧ w' = w.drew.setCell a (.int .u32 1)) := by
  have hc' : w.drew.cell? a = some x := by go_simp
  have hz' : w.drew.frozen? a = false := by go_simp
  have hst := run_call_store (P := Tryd.prog) Tryd.func89 (by kernel_rfl) (by kernel_rfl) (by kernel_rfl) (by kernel_rfl) (k := .u32) (y := 1) hc' hz'
  go_enter_d Tryd.func81, Tryd.ntmps81
  go_wp2
  go_region_calls
  all_goals (go_end0; exact ⟨rfl, rfl⟩)

set_option maxRecDepth 100000 in
set_option maxHeartbeats 1600000 in
/-- '(*sync.Mutex).Unlock', entered as a deferred call, the lock held and nobody waiting. -/
theorem unlock_deferred (a : Addr) (u : FrameMode) (w : World) (hc : w.cell? a = some (.int .i32 1)) (hz : w.frozen? a = false) :
    CallsD Tryd.prog 80 #[.pointer (some a)] u w fun e u' w' => u' = u ∧ (e = .returned (.tuple #[]) ∧ w' = w.setCell a (.int .i32 0)) := by
  have hd := disable
  have he := enable
  have hr := releaseMerge
  have hadd := run_call_add (P := Tryd.prog) Tryd.func105 (by kernel_rfl) (by kernel_rfl) (by kernel_rfl) .i32 (by kernel_rfl) (y := -1) (s := 0) hc hz (by simp [go_sem]; rfl)
  have hcv := run_convert_to_unsafe (P := Tryd.prog) (src := 133) (dst := 137) Tryd.underlying133 Tryd.underlying137 (by kernel_rfl) hc
  go_enter_d Tryd.func80, Tryd.ntmps80
  go_wp2
  go_end0
  go_wp2
  go_end0
  exact ⟨rfl, rfl⟩

set_option maxRecDepth 100000 in
set_option maxHeartbeats 1600000 in
/-- '(*sync.Mutex).Lock', the lock free. -/
theorem lock_free (a : Addr) (w : World) (hc : w.cell? a = some (.int .i32 0)) (hz : w.frozen? a = false) :
    Calls Tryd.prog 79 #[.pointer (some a)] w fun e w' => e = .returned (.tuple #[]) ∧ w' = w.setCell a (.int .i32 1) := by
  have hd := disable
  have he := enable
  have ha := acquire
  have hcas := run_call_cas_hit (P := Tryd.prog) Tryd.func100 (by kernel_rfl) (by kernel_rfl) (by kernel_rfl) .i32 (by kernel_rfl) (y := 1) hc hz
  have hc' : (w.setCell a (.int .i32 1)).cell? a = some (.int .i32 1) := World.cell?_setCell_same w a _ hc
  have hcv := run_convert_to_unsafe (P := Tryd.prog) (src := 133) (dst := 137) Tryd.underlying133 Tryd.underlying137 (by kernel_rfl) hc'
  go_enter Tryd.func79, Tryd.ntmps79
  go_wp2
  first | go_end0 | (simp only [Exit.inBlock, Exit.then]; refine bodyPost_ret (results_none rfl _ _ _) rfl ?_) | refine bodyPost_ret (results_none rfl _ _ _) rfl ?_
  go_wp2
  go_end0
  exact ⟨rfl, rfl⟩

set_option maxRecDepth 100000 in
set_option maxHeartbeats 1600000 in
/-- '(*sync.Once).Do', done already: the function is not called. -/
theorem do_done (a : Addr) (d : Int) (hd : ¬ d = 0) (fv : Value) (w : World) (h0 : w.cell? a = some (.int .u32 d)) :
    Calls Tryd.prog 49 #[.pointer (some a), fv] w fun e w' => e = .returned (.tuple #[]) ∧ w' = w := by
  have hl := run_call_load (P := Tryd.prog) Tryd.func78 (by kernel_rfl) (by kernel_rfl) (by kernel_rfl) .u32 (by kernel_rfl) h0
  have hnot : ∀ (x : Bool) (w : World), (Op.unary .not (.bool x)).run Tryd.prog w = .ok (.bool (!x)) w := fun _ _ => rfl
  have hd' : (d != 0) = true := by simp [hd]
  go_enter Tryd.func49, Tryd.ntmps49
  go_wp2
  go_end0
  exact ⟨rfl, rfl⟩

/-- The object of keys: its seven cells. -/
def KO (w : World) (g : Nat) (n h : Int) (sv : Value) (d s : Int) (lv : Value) : Prop :=
  w.heap[g]? = some (.cells #[.int .i64 n, .int .i64 h, sv, .int .u32 d, .int .i32 s, .int .u32 0, lv] 64 (0, 0))

theorem KO.lt {w : World} {g : Nat} {n h d s : Int} {sv lv : Value} (k : KO w g n h sv d s lv) : g < w.heap.size := (Array.getElem?_eq_some_iff.1 k).1
theorem KO.c0 {w : World} {g : Nat} {n h d s : Int} {sv lv : Value} (k : KO w g n h sv d s lv) : w.cell? ⟨g, 0, none⟩ = some (.int .i64 n) := by rw [cell_of_row w g _ _ _ _ k]; rfl
theorem KO.c1 {w : World} {g : Nat} {n h d s : Int} {sv lv : Value} (k : KO w g n h sv d s lv) : w.cell? ⟨g, 1, none⟩ = some (.int .i64 h) := by rw [cell_of_row w g _ _ _ _ k]; rfl
theorem KO.c2 {w : World} {g : Nat} {n h d s : Int} {sv lv : Value} (k : KO w g n h sv d s lv) : w.cell? ⟨g, 2, none⟩ = some sv := by rw [cell_of_row w g _ _ _ _ k]; rfl
theorem KO.c3 {w : World} {g : Nat} {n h d s : Int} {sv lv : Value} (k : KO w g n h sv d s lv) : w.cell? ⟨g, 3, none⟩ = some (.int .u32 d) := by rw [cell_of_row w g _ _ _ _ k]; rfl
theorem KO.c4 {w : World} {g : Nat} {n h d s : Int} {sv lv : Value} (k : KO w g n h sv d s lv) : w.cell? ⟨g, 4, none⟩ = some (.int .i32 s) := by rw [cell_of_row w g _ _ _ _ k]; rfl
theorem KO.c6 {w : World} {g : Nat} {n h d s : Int} {sv lv : Value} (k : KO w g n h sv d s lv) : w.cell? ⟨g, 6, none⟩ = some lv := by rw [cell_of_row w g _ _ _ _ k]; rfl
theorem KO.free {w : World} {g : Nat} {n h d s : Int} {sv lv : Value} (k : KO w g n h sv d s lv) (i : Nat) : w.frozen? ⟨g, i, none⟩ = false := by
  unfold KO at k
  simp [World.frozen?, k]
theorem KO.put3 {w : World} {g : Nat} {n h d s : Int} {sv lv : Value} (k : KO w g n h sv d s lv) (x : Int) : KO (w.setCell ⟨g, 3, none⟩ (.int .u32 x)) g n h sv x s lv := by
  unfold KO
  rw [heap_setCell_same w g 3 _ _ _ k]
  rfl
theorem KO.put4 {w : World} {g : Nat} {n h d s : Int} {sv lv : Value} (k : KO w g n h sv d s lv) (x : Int) : KO (w.setCell ⟨g, 4, none⟩ (.int .i32 x)) g n h sv d x lv := by
  unfold KO
  rw [heap_setCell_same w g 4 _ _ _ k]
  rfl
theorem KO.put6 {w : World} {g : Nat} {n h d s : Int} {sv lv : Value} (k : KO w g n h sv d s lv) (x : Value) : KO (w.setCell ⟨g, 6, none⟩ x) g n h sv d s x := by
  unfold KO
  rw [heap_setCell_same w g 6 _ _ _ k]
  rfl
theorem KO.later {w w' : World} {g : Nat} {n h d s : Int} {sv lv : Value} (k : KO w g n h sv d s lv) (hb : Below w.heap.size w w') : KO w' g n h sv d s lv := by
  unfold KO
  rw [hb.block g k.lt]
  exact k
theorem KO.drew {w : World} {g : Nat} {n h d s : Int} {sv lv : Value} (k : KO w g n h sv d s lv) : KO w.drew g n h sv d s lv := k

set_option maxRecDepth 100000 in
set_option maxHeartbeats 3200000 in
/-- '(*sync.Once).doSlow', not yet done and the lock free, the function of the keys' tree. -/
theorem slow_any (g : Nat) (n h : Int) (sv lv : Value) (pl : Addr) (Q : Value → World → Prop) (w : World) (k : KO w g n h sv 0 0 lv)
    (hf : Calls Tryd.prog 50 #[.pointer (some pl)] (w.setCell ⟨g, 4, none⟩ (.int .i32 1)) fun e w2 => e = .returned (.tuple #[]) ∧ ∃ lv', KO w2 g n h sv 0 1 lv' ∧ Q lv' w2) :
    Calls Tryd.prog 71 #[.pointer (some ⟨g, 3, none⟩), .func (.func 50) #[] #[.pointer (some pl)]] w fun e w' => e = .returned (.tuple #[]) ∧
      ∃ lv' w2, KO w2 g n h sv 0 1 lv' ∧ Q lv' w2 ∧ w' = (w2.drew.setCell ⟨g, 3, none⟩ (.int .u32 1)).setCell ⟨g, 4, none⟩ (.int .i32 0) := by
  have k1 := k.put4 1
  have hl := run_call_load (P := Tryd.prog) Tryd.func78 (by kernel_rfl) (by kernel_rfl) (by kernel_rfl) .u32 (by kernel_rfl) (w := w.setCell ⟨g, 4, none⟩ (.int .i32 1)) (a := ⟨g, 3, none⟩) (x := 0) k1.c3
  have hnot : ∀ (x : Bool) (w : World), (Op.unary .not (.bool x)).run Tryd.prog w = .ok (.bool (!x)) w := fun _ _ => rfl
  have c4 := k.c4
  have f4 := k.free 4
  go_enter_defers Tryd.func71, Tryd.ntmps71
  go_wp2_with (first | (go_at_call 79; refine (lock_free ⟨g, 4, none⟩ _ c4 f4).mono ?_; rintro e w' ⟨rfl, rfl⟩) | (go_at_call 70; go_in) | (go_at_call 50; refine hf.mono ?_; rintro e w2 ⟨rfl, lv', k2, hQ⟩))
  have k2d := k2.drew
  have k3 := k2d.put3 1
  refine leaves_cons (f := 81) (args := #[.pointer (some ⟨g, 3, none⟩), .bool true]) (by simp) (by simp [go_sem]) ?_
  refine (store_deferred ⟨g, 3, none⟩ (.int .u32 0) .returning _ k2.c3 (k2.free 3)).mono ?_
  rintro e u' w'' ⟨rfl, rfl, rfl⟩
  refine leaves_cons (f := 80) (args := #[.pointer (some ⟨g, 4, none⟩)]) (by simp [settle]) (by simp [go_sem]) ?_
  refine (unlock_deferred ⟨g, 4, none⟩ _ _ k3.c4 (k3.free 4)).mono ?_
  rintro e u' w'' ⟨rfl, rfl, rfl⟩
  simp only [Leaves, settle, results, Tryd.results71]
  exact ⟨.tuple #[], by first | rfl | simp, rfl, lv', w2, k2, hQ, rfl⟩

set_option maxRecDepth 100000 in
set_option maxHeartbeats 1600000 in
/-- '(*sync.Once).Do', not yet done, the lock free. -/
theorem do_first (g : Nat) (n h : Int) (sv lv : Value) (pl : Addr) (Q : Value → World → Prop) (w : World) (k : KO w g n h sv 0 0 lv)
    (hf : Calls Tryd.prog 50 #[.pointer (some pl)] (w.setCell ⟨g, 4, none⟩ (.int .i32 1)) fun e w2 => e = .returned (.tuple #[]) ∧ ∃ lv', KO w2 g n h sv 0 1 lv' ∧ Q lv' w2) :
    Calls Tryd.prog 49 #[.pointer (some ⟨g, 3, none⟩), .func (.func 50) #[] #[.pointer (some pl)]] w fun e w' => e = .returned (.tuple #[]) ∧
      ∃ lv' w2, KO w2 g n h sv 0 1 lv' ∧ Q lv' w2 ∧ w' = (w2.drew.setCell ⟨g, 3, none⟩ (.int .u32 1)).setCell ⟨g, 4, none⟩ (.int .i32 0) := by
  have h0 := k.c3
  have hl := run_call_load (P := Tryd.prog) Tryd.func78 (by kernel_rfl) (by kernel_rfl) (by kernel_rfl) .u32 (by kernel_rfl) h0
  have hnot : ∀ (x : Bool) (w : World), (Op.unary .not (.bool x)).run Tryd.prog w = .ok (.bool (!x)) w := fun _ _ => rfl
  have hS := slow_any g n h sv lv pl Q w k hf
  go_enter Tryd.func49, Tryd.ntmps49
  go_wp2_with (first | (go_at_call 71; refine hS.mono ?_; rintro e w' ⟨rfl, hx⟩) | (go_at_call 70; go_in))
  go_end0
  exact ⟨rfl, hx⟩

end Go.Proofs.YtdjaemobfbbkoaaDoor

namespace Go.Proofs.YtdjaemobfbbkoaaDoor
open Go.RowKit

/-- The second world grew out of the first one, and nothing that was there is changed but block g. -/
def Only (g : Nat) (w w' : World) : Prop := Below g w w' ∧ ∀ k, g < k → k < w.heap.size → w'.heap[k]? = w.heap[k]?

theorem Only.refl (g : Nat) (w : World) : Only g w w := ⟨Below.refl _ _, fun _ _ _ => rfl⟩
theorem Only.trans {g : Nat} {a b c : World} (h1 : Only g a b) (h2 : Only g b c) : Only g a c :=
  ⟨h1.1.trans h2.1, fun k hk hs => (h2.2 k hk (Nat.lt_of_lt_of_le hs h1.1.size)).trans (h1.2 k hk hs)⟩
theorem Only.of_below {g : Nat} {w w' : World} (h : Below w.heap.size w w') (hg : g ≤ w.heap.size) : Only g w w' := ⟨h.mono hg, fun k _ hs => h.block k hs⟩
theorem Only.setCell {g : Nat} {w w' : World} (h : Only g w w') (i : Nat) (u : Value) : Only g w (w'.setCell ⟨g, i, none⟩ u) :=
  ⟨h.1.setCell (Nat.le_refl _) _, fun k hk hs => by rw [heap_setCell_other w' ⟨g, i, none⟩ k u (by simp; omega)]; exact h.2 k hk hs⟩
theorem Only.drewN {g : Nat} {w w' : World} (h : Only g w w') (n : Nat) : Only g w (w'.drewN n) := ⟨below_drewN h.1 n, fun k hk hs => h.2 k hk hs⟩
theorem Only.below {g B : Nat} {w w' : World} (h : Only g w w') (hB : B ≤ g) : Below B w w' := h.1.mono hB
theorem Only.size {g : Nat} {w w' : World} (h : Only g w w') : w.heap.size ≤ w'.heap.size := h.1.size
theorem Only.block {g : Nat} {w w' : World} (h : Only g w w') (k : Nat) (hk : k ≠ g) (hs : k < w.heap.size) : w'.heap[k]? = w.heap[k]? := by
  rcases Nat.lt_or_gt_of_ne hk with h1 | h1
  · exact h.1.block k h1
  · exact h.2 k h1 hs

theorem cell_lt {w : World} {b o : Nat} {v : Value} (h : w.cell? ⟨b, o, none⟩ = some v) : b < w.heap.size := by
  rcases Nat.lt_or_ge b w.heap.size with h1 | h1
  · exact h1
  · exfalso
    have e : w.heap[b]? = none := Array.getElem?_eq_none h1
    simp [World.cell?, e] at h

theorem HB.only {w w' : World} {g : Nat} {v : Value} {l : List UInt8} (h : HB w v l) (hn : ∀ a n c, v = .slice (some a) n c → a.block ≠ g) (ho : Only g w w') : HB w' v l := by
  obtain ⟨p, cap, e, h1, h2, h3, h4⟩ := h
  refine ⟨p, cap, e, h1, h2, h3, fun hne => ?_⟩
  obtain ⟨b, o, e1, e2⟩ := h4 hne
  refine ⟨b, o, e1, fun i x hx => ?_⟩
  have hc := e2 i x hx
  have hb : b ≠ g := hn ⟨b, o, none⟩ l.length cap (by rw [e, e1])
  have hlt : b < w.heap.size := cell_lt hc
  rw [World.cell?_of_block (w := w) (ho.block b hb hlt)]
  exact hc

end Go.Proofs.YtdjaemobfbbkoaaDoor

namespace Go.Proofs.YtdjaemobfbbkoaaDoor
open Go.RowKit

theorem owns_only {w w' : World} {g base e s n : Nat} {v : Value} {xs : List Value} (h : w.ownsRow base e s v n xs) (ho : Only g w w') (hg : g < base) : w'.ownsRow base e s v n xs := by
  refine ⟨h.1, ?_⟩
  rcases h.2 with hn | ⟨k, cap, cur, rfl, hb, hk, rest⟩
  · exact .inl hn
  · refine .inr ⟨k, cap, cur, rfl, hb, ?_, rest⟩
    rw [ho.block k (by omega) (Array.getElem?_eq_some_iff.1 hk).1]
    exact hk

theorem hb_only {w w' : World} {g : Nat} {n h d s : Int} {sv lv u : Value} {l : List UInt8} (k : KO w g n h sv d s lv) (ho : Only g w w') (hu : HB w u l) (t : TB w u) : HB w' u l ∧ TB w' u := by
  have hne : ∀ b o n c, u = .slice (some ⟨b, o, none⟩) n c → b ≠ g := by
    intro b o n' c e hbg
    obtain ⟨cur, fr, hb⟩ := t b o n' c e
    subst hbg
    unfold KO at k
    rw [hb] at k
    simp only [Option.some.injEq, Obj.cells.injEq] at k
    exact absurd k.2.1 (by decide)
  constructor
  · obtain ⟨p, c, rfl⟩ := hu.shape
    by_cases hn : l = []
    · subst hn
      have := hu.len
      exact HB.empty _ p c this.2.2.1 this.2.2.2
    · obtain ⟨b, o, rfl, hc⟩ := hu.addr (List.length_pos_iff.2 hn)
      have hl := hu.len
      refine ⟨_, c, rfl, hl.2.1, hl.2.2.1, hl.2.2.2, fun _ => ⟨b, o, rfl, fun i x hx => ?_⟩⟩
      rw [World.cell?_of_block (ho.block b (hne b o _ _ rfl) (cell_lt (hc i x hx)))]
      exact hc i x hx
  · intro b o n' c e
    obtain ⟨cur, fr, hb⟩ := t b o n' c e
    exact ⟨cur, fr, by rw [ho.block b (hne b o n' c e) (Array.getElem?_eq_some_iff.1 hb).1]; exact hb⟩

theorem RS.only {w w' : World} {g base N : Nat} {n h d s : Int} {sv lv v : Value} {sig : Nat → List UInt8} (r : RS w base v N sig) (k : KO w g n h sv d s lv) (ho : Only g w w') (hg : g < base) : RS w' base v N sig := by
  obtain ⟨vs, h1, h2⟩ := r
  exact ⟨vs, owns_only h1 ho hg, fun j u hu => hb_only k ho (h2 j u hu).1 (h2 j u hu).2⟩

/-- Bytes in a block of bytes stay where a row of lists grew. -/
theorem hb_grownR {w w' : World} {base n : Nat} {v u : Value} {vs : List Value} {l : List UInt8} (ho : w.ownsRow base 28 1 v n vs) (hg : w.grownBy w' v.ownBlock) (h : HB w u l) (t : TB w u) : HB w' u l ∧ TB w' u := by
  have hne : ∀ b o n c, u = .slice (some ⟨b, o, none⟩) n c → some b ≠ v.ownBlock := by
    intro b o n' c e he
    obtain ⟨cur, fr, hb⟩ := t b o n' c e
    rcases ho.2 with ⟨rfl, _⟩ | ⟨g, cap, cur', rfl, _, hg', _⟩
    · simp [Value.ownBlock] at he
    · simp only [Value.ownBlock, Option.some.injEq] at he
      subst he
      rw [hb] at hg'
      simp only [Option.some.injEq, Obj.cells.injEq] at hg'
      exact absurd hg'.2.1 (by decide)
  constructor
  · obtain ⟨p, c, rfl⟩ := h.shape
    by_cases hn : l = []
    · subst hn
      have := h.len
      exact HB.empty _ p c this.2.2.1 this.2.2.2
    · obtain ⟨b, o, rfl, hc⟩ := h.addr (List.length_pos_iff.2 hn)
      have hl := h.len
      refine ⟨_, c, rfl, hl.2.1, hl.2.2.1, hl.2.2.2, fun _ => ⟨b, o, rfl, fun i x hx => hg.cell (hc i x hx) (hne b o _ _ rfl)⟩⟩
  · intro b o n' c e
    obtain ⟨cur, fr, hb⟩ := t b o n' c e
    exact ⟨cur, fr, by rw [hg.block b (Array.getElem?_eq_some_iff.1 hb).1 (hne b o n' c e)]; exact hb⟩

theorem RS.grown {w w' : World} {base0 base n N : Nat} {v u : Value} {vs : List Value} {sig : Nat → List UInt8} (ho : w.ownsRow base0 28 1 v n vs) (hg : w.grownBy w' v.ownBlock) (r : RS w base u N sig) : RS w' base u N sig := by
  obtain ⟨us, h1, h2⟩ := r
  exact ⟨us, h1.kept hg (owns_apart h1 ho (by decide)), fun j x hx => hb_grownR ho hg (h2 j x hx).1 (h2 j x hx).2⟩

theorem RS.mono {w : World} {base base' N : Nat} {v : Value} {sig : Nat → List UInt8} (r : RS w base v N sig) (hb : base' ≤ base) : RS w base' v N sig := by
  obtain ⟨vs, h1, h2⟩ := r
  exact ⟨vs, owns_mono h1 hb, h2⟩

/-- The first m levels of the tree. -/
def TL (w : World) (base n h : Nat) (seed : List UInt8) (v : Value) (m : Nat) : Prop :=
  ∃ vs : List Value, w.ownsRow base 28 1 v m vs ∧ ∀ (j : Nat) u, vs[j]? = some u → RS w base u (2 ^ (h - j)) (treeS n seed j)

theorem TL.later {w w' : World} {base n h m : Nat} {seed : List UInt8} {v : Value} (t : TL w base n h seed v m) (hb : Below w.heap.size w w') : TL w' base n h seed v m := by
  obtain ⟨vs, h1, h2⟩ := t
  exact ⟨vs, owns_later h1 hb, fun j u hu => (h2 j u hu).later hb⟩
theorem TL.only {w w' : World} {g base n h m : Nat} {n' h' d s : Int} {sv lv : Value} {seed : List UInt8} {v : Value} (t : TL w base n h seed v m) (k : KO w g n' h' sv d s lv) (ho : Only g w w') (hg : g < base) : TL w' base n h seed v m := by
  obtain ⟨vs, h1, h2⟩ := t
  exact ⟨vs, owns_only h1 ho hg, fun j u hu => (h2 j u hu).only k ho hg⟩
theorem TL.snoc {w w' : World} {base n h m : Nat} {seed : List UInt8} {v v' x : Value} {vs : List Value} (h1 : w.ownsRow base 28 1 v m vs) (h2 : ∀ (j : Nat) u, vs[j]? = some u → RS w base u (2 ^ (h - j)) (treeS n seed j)) (hx : RS w base x (2 ^ (h - m)) (treeS n seed m))
    (hg : w.grownBy w' v.ownBlock) (ho : w'.ownsRow base 28 1 v' (m + 1) (vs ++ [x])) : TL w' base n h seed v' (m + 1) := by
  refine ⟨vs ++ [x], ho, fun j u hu => ?_⟩
  have hl := h1.1
  rw [Nat.mul_one] at hl
  by_cases hj : j < m
  · rw [List.getElem?_append_left (by omega)] at hu
    exact (h2 j u hu).grown h1 hg
  · rw [List.getElem?_append_right (by omega), hl] at hu
    cases hjk : j - m with
    | zero =>
      rw [hjk] at hu
      simp at hu
      subst hu
      obtain rfl : j = m := by omega
      exact hx.grown h1 hg
    | succ q => rw [hjk] at hu; simp at hu

end Go.Proofs.YtdjaemobfbbkoaaDoor
