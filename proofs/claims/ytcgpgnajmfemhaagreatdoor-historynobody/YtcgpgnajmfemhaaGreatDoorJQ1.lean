/- What this text proves: the walks of admit's holds and mayBe, and of the document's within and may, over this program: which parameters may be, but for their arena. What this text proves: the walk of admit's mayBe over this program. What this text proves: laws for a walk, over any program: the beginning of a region that draws its order, its operations counted; an operation that yields, and one whose guard is not met, taken first. What this text proves: the walks of admit's numbers over this program. (By program: mkadnum.py.) -/
import Derived.Test.YtcgpgnajmfemhaaGreatDoorJOw
import Derived.Deep.WholeRow
import Derived.Laws.Tables
import Derived.Test.YtcgpgnajmfemhaaGreatDoorJSha
import Derived.Deep.RegionHeld3
namespace Go.Proofs.YtcgpgnajmfemhaaGreatDoor
open Go.RowKit

/-- Whether parameters may be, but for their arena. -/
abbrev mayP (s h mi mk ch ca pg : Int) : Prop := (1 ≤ s ∧ s ≤ 32) ∧ (0 ≤ h ∧ h ≤ 8) ∧ (0 ≤ mi ∧ mi ≤ 24) ∧ (0 ≤ mk ∧ mk ≤ 48) ∧ (0 ≤ ch ∧ ch ≤ 4096) ∧ (0 ≤ ca ∧ ca ≤ 8) ∧ (1 ≤ pg ∧ pg ≤ 32)

set_option maxRecDepth 100000 in
set_option maxHeartbeats 400000 in
theorem holds_any (n lo hi : Int) (w : World) : Calls Tryz.prog 108 #[.agg #[.int .i64 n, .int .i64 lo, .int .i64 hi]] w fun x w' => x = .returned (.bool (decide (lo ≤ n ∧ n ≤ hi))) ∧ Below w.heap.size w w' := by
  have b0 := (Below.refl w.heap.size w).alloc (Nat.le_refl _) (.cells #[.int .i64 n, .int .i64 lo, .int .i64 hi] 178)
  by_cases h1 : lo ≤ n
  · by_cases h2 : n ≤ hi
    · go_enter Tryz.func108, Tryz.ntmps108
      go_wp2
      go_ret
      exact ⟨by simp; omega, b0⟩
    · go_enter Tryz.func108, Tryz.ntmps108
      go_wp2
      go_ret
      exact ⟨by simp; omega, b0⟩
  · go_enter Tryz.func108, Tryz.ntmps108
    go_wp2
    go_ret
    exact ⟨by simp; omega, b0⟩

end Go.Proofs.YtcgpgnajmfemhaaGreatDoor

namespace Go.Proofs.YtcgpgnajmfemhaaGreatDoor
open Go.RowKit

theorem wpList_builds {P : Program} {w : World} {ops : Array Oper} {rest : List Oper} {o : Oper} {a : Act} {Q : Exit → Act → World → Prop} (hgd : o.guard = none) (t : TypeId) (parts : Array (Nat × Operand)) (ho : o.op = .build t parts)
    (C : Array Value) (hb : P.built t (parts.map fun (i, x) => (i, a.eval x)).toList = some C)
    (h : wpList P ops Q rest (a.put o.dst (.agg C)) w) : wpList P ops Q (o :: rest) a w := by
  unfold wpList
  rw [if_pos (by simp [Region.wanted, hgd])]
  refine .inl ?_
  refine wp_build t parts ho (by rw [hb]; rfl) ?_
  rw [hb]
  exact h

/-- A load whose run is known. -/
theorem wpList_loads {P : Program} {w : World} {ops : Array Oper} {rest : List Oper} {o : Oper} {a : Act} {Q : Exit → Act → World → Prop} (hgd : o.guard = none) (t : TypeId) (x : Operand) (ho : o.op = .load t x)
    (v : Value) (hl : (Instr.loadAt t (a.eval x)).run P w = .ok v w) (h : wpList P ops Q rest (a.put o.dst v) w) : wpList P ops Q (o :: rest) a w := by
  unfold wpList
  rw [if_pos (by simp [Region.wanted, hgd])]
  refine .inl ?_
  unfold Oper.wp execOp
  simp only [ho, Sem.run_bind, hl, Result.andThen_ok]
  exact h

/-- An index into an array by value whose run is known. -/
theorem wpList_indexes {P : Program} {w : World} {ops : Array Oper} {rest : List Oper} {o : Oper} {a : Act} {Q : Exit → Act → World → Prop} (hgd : o.guard = none) (t : TypeId) (x i : Operand) (ho : o.op = .index t x i)
    (v : Value) (hl : (Instr.index t (a.eval x) (a.eval i)).run P w = .ok v w) (h : wpList P ops Q rest (a.put o.dst v) w) : wpList P ops Q (o :: rest) a w := by
  unfold wpList
  rw [if_pos (by simp [Region.wanted, hgd])]
  refine .inl ?_
  unfold Oper.wp execOp
  simp only [ho, Sem.run_bind, hl, Result.andThen_ok]
  exact h

theorem idx7 (C : Array Value) (k : Nat) (hk : k < 7) (w : World) : (Instr.index 211 (.agg C) (.int .i64 (k : Int))).run Tryz.prog w = .ok (.agg (C.extract (k * 3) (k * 3 + 3))) w := by
  simp [Instr.index, run_underlying Tryz.underlying211, asIntOf, go_sem]
  intro
  omega

theorem i_bounds : (Tryz.prog.info? 211).map (·.size) = some 21 := by kernel_rfl

set_option maxRecDepth 100000 in
set_option maxHeartbeats 4000000 in
theorem mayBe_any (s h mi mk ch ar ca pg : Int) (w : World) : Calls Tryz.prog 107 #[.agg #[.int .i64 s, .int .i64 h, .int .i64 mi, .int .i64 mk, .int .i64 ch, .int .i64 ar, .int .i64 ca, .int .i64 pg]] w fun x w' => x = .returned (.bool (decide (mayP s h mi mk ch ca pg))) ∧ Below w.heap.size w w' := by
  obtain ⟨R, HR⟩ : ∃ R : Bool, Hid (decide (mayP s h mi mk ch ca pg) = R) := ⟨_, rfl⟩
  rw [HR.out]
  have b0 := (Below.refl w.heap.size w).alloc (Nat.le_refl _) (.cells #[.int .i64 s, .int .i64 h, .int .i64 mi, .int .i64 mk, .int .i64 ch, .int .i64 ar, .int .i64 ca, .int .i64 pg] 25)
  have sz : (w.alloc (.cells #[.int .i64 s, .int .i64 h, .int .i64 mi, .int .i64 mk, .int .i64 ch, .int .i64 ar, .int .i64 ca, .int .i64 pg] 25)).heap.size = w.heap.size + 1 := by simp
  obtain ⟨C, hC⟩ : ∃ C : Array Value, #[.int .i64 s, .int .i64 1, .int .i64 32, .int .i64 h, .int .i64 0, .int .i64 8, .int .i64 mi, .int .i64 0, .int .i64 24, .int .i64 mk, .int .i64 0, .int .i64 48, .int .i64 ch, .int .i64 0, .int .i64 4096, .int .i64 ca, .int .i64 0, .int .i64 8, .int .i64 pg, .int .i64 1, .int .i64 32] = C := ⟨_, rfl⟩
  have hCs : C.size = 21 := by rw [← hC]; rfl
  have hC1 : C.all (·.oneCell') = true := by rw [← hC]; simp [Value.oneCell']
  have hst := run_storeCells_new (P := Tryz.prog) (w.alloc (.cells #[.int .i64 s, .int .i64 h, .int .i64 mi, .int .i64 mk, .int .i64 ch, .int .i64 ar, .int .i64 ca, .int .i64 pg] 25)) 211 #[.int .i64 0, .int .i64 0, .int .i64 0, .int .i64 0, .int .i64 0, .int .i64 0, .int .i64 0, .int .i64 0, .int .i64 0, .int .i64 0, .int .i64 0, .int .i64 0, .int .i64 0, .int .i64 0, .int .i64 0, .int .i64 0, .int .i64 0, .int .i64 0, .int .i64 0, .int .i64 0, .int .i64 0] C (by rw [hCs]; exact i_bounds) (by rw [hCs]; rfl) hC1
  have hld := run_loadAt_new (P := Tryz.prog) (w.alloc (.cells #[.int .i64 s, .int .i64 h, .int .i64 mi, .int .i64 mk, .int .i64 ch, .int .i64 ar, .int .i64 ca, .int .i64 pg] 25)) 211 C 7 178 Tryz.underlying211 (by rw [hCs]; exact i_bounds)
  rw [sz] at hst hld
  have b1 := b0.alloc (by rw [sz]; omega) (.cells C 211)
  clear hC1 sz
  go_enter Tryz.func107, Tryz.ntmps107
  go_wp2_with (first | refine wpList_builds rfl 211 _ rfl C (by rw [← hC]; kernel_rfl) ?_ | refine wpList_loads rfl 211 _ rfl (.agg C) hld ?_)
  go_loopw [29] (fun i wr => ∃ k : Nat, k ≤ 7 ∧ i = .int .i64 (k : Int) ∧ Hid ((0 < k → 1 ≤ s ∧ s ≤ 32) ∧ (1 < k → 0 ≤ h ∧ h ≤ 8) ∧ (2 < k → 0 ≤ mi ∧ mi ≤ 24) ∧ (3 < k → 0 ≤ mk ∧ mk ≤ 48) ∧ (4 < k → 0 ≤ ch ∧ ch ≤ 4096) ∧ (5 < k → 0 ≤ ca ∧ ca ≤ 8) ∧ (6 < k → 1 ≤ pg ∧ pg ≤ 32)) ∧ Below w.heap.size w wr) (fun i _ => 7 - (intOf i).toNat)
  case atStart => exact ⟨0, by omega, rfl, by refine ⟨?_, ?_, ?_, ?_, ?_, ?_, ?_⟩ <;> omega, b1⟩
  case round =>
    obtain ⟨k, hk, rfl, hH, hb⟩ := hrel
    by_cases hlt : k < 7
    · have hlt2 : (k : Int) < 7 := by omega
      have hix := idx7 C k hlt wr
      have hE : ∃ n lo hi : Int, C.extract (k * 3) (k * 3 + 3) = #[.int .i64 n, .int .i64 lo, .int .i64 hi] ∧ ((lo ≤ n ∧ n ≤ hi) → ((0 < k + 1 → 1 ≤ s ∧ s ≤ 32) ∧ (1 < k + 1 → 0 ≤ h ∧ h ≤ 8) ∧ (2 < k + 1 → 0 ≤ mi ∧ mi ≤ 24) ∧ (3 < k + 1 → 0 ≤ mk ∧ mk ≤ 48) ∧ (4 < k + 1 → 0 ≤ ch ∧ ch ≤ 4096) ∧ (5 < k + 1 → 0 ≤ ca ∧ ca ≤ 8) ∧ (6 < k + 1 → 1 ≤ pg ∧ pg ≤ 32))) ∧ (¬ (lo ≤ n ∧ n ≤ hi) → ¬ mayP s h mi mk ch ca pg) := by
        have hq := hH.out
        clear hst hld b0 b1 hix
        have hk7 : k = 0 ∨ k = 1 ∨ k = 2 ∨ k = 3 ∨ k = 4 ∨ k = 5 ∨ k = 6 := by omega
        rcases hk7 with rfl | rfl | rfl | rfl | rfl | rfl | rfl
        · exact ⟨s, 1, 32, by rw [← hC]; simp, fun q => ⟨fun _ => by omega, fun _ => by omega, fun _ => by omega, fun _ => by omega, fun _ => by omega, fun _ => by omega, fun _ => by omega⟩, fun q m => q (by unfold mayP at m; omega)⟩
        · exact ⟨h, 0, 8, by rw [← hC]; simp, fun q => ⟨fun _ => by omega, fun _ => by omega, fun _ => by omega, fun _ => by omega, fun _ => by omega, fun _ => by omega, fun _ => by omega⟩, fun q m => q (by unfold mayP at m; omega)⟩
        · exact ⟨mi, 0, 24, by rw [← hC]; simp, fun q => ⟨fun _ => by omega, fun _ => by omega, fun _ => by omega, fun _ => by omega, fun _ => by omega, fun _ => by omega, fun _ => by omega⟩, fun q m => q (by unfold mayP at m; omega)⟩
        · exact ⟨mk, 0, 48, by rw [← hC]; simp, fun q => ⟨fun _ => by omega, fun _ => by omega, fun _ => by omega, fun _ => by omega, fun _ => by omega, fun _ => by omega, fun _ => by omega⟩, fun q m => q (by unfold mayP at m; omega)⟩
        · exact ⟨ch, 0, 4096, by rw [← hC]; simp, fun q => ⟨fun _ => by omega, fun _ => by omega, fun _ => by omega, fun _ => by omega, fun _ => by omega, fun _ => by omega, fun _ => by omega⟩, fun q m => q (by unfold mayP at m; omega)⟩
        · exact ⟨ca, 0, 8, by rw [← hC]; simp, fun q => ⟨fun _ => by omega, fun _ => by omega, fun _ => by omega, fun _ => by omega, fun _ => by omega, fun _ => by omega, fun _ => by omega⟩, fun q m => q (by unfold mayP at m; omega)⟩
        · exact ⟨pg, 1, 32, by rw [← hC]; simp, fun q => ⟨fun _ => by omega, fun _ => by omega, fun _ => by omega, fun _ => by omega, fun _ => by omega, fun _ => by omega, fun _ => by omega⟩, fun q m => q (by unfold mayP at m; omega)⟩
      obtain ⟨n, lo, hi, hE, hy, hn⟩ := hE
      rw [hE] at hix
      have hA := heap_alloc_new wr (.cells #[.int .i64 n, .int .i64 lo, .int .i64 hi] 178)
      have bA := hb.alloc hb.size (.cells #[.int .i64 n, .int .i64 lo, .int .i64 hi] 178)
      have hc := fun W => holds_any n lo hi W
      have Hy := (show Hid _ from hy)
      have Hn := (show Hid _ from hn)
      clear hy hn hE hC hst hld b0 b1
      by_cases hh : lo ≤ n ∧ n ≤ hi
      · rw [decide_eq_true hh] at hc
        have Hh := (show Hid _ from hh)
        clear hh
        go_wp2_with (first | refine wpList_indexes rfl 211 _ _ rfl _ hix ?_ | (go_at_call 108; refine (hc _).mono ?_; rintro e w' ⟨rfl, hw'⟩))
        go_roundw
        case rel => exact ⟨k + 1, by omega, by simp, Hy.out Hh.out, bA.trans (hw'.mono bA.size)⟩
        case measure => simp [intOf]; omega
      · rw [decide_eq_false hh] at hc
        have Hh := (show Hid _ from hh)
        clear hh
        go_wp2_with (first | refine wpList_indexes rfl 211 _ _ rfl _ hix ?_ | (go_at_call 108; refine (hc _).mono ?_; rintro e w' ⟨rfl, hw'⟩))
        go_ret
        exact ⟨by rw [← HR.out, decide_eq_false (Hn.out Hh.out)]; rfl, bA.trans (hw'.mono bA.size)⟩
    · have hlt2 : ¬ (k : Int) < 7 := by omega
      have H : Hid (mayP s h mi mk ch ca pg) := by
        have := hH.out
        show mayP s h mi mk ch ca pg
        unfold mayP
        omega
      clear hst hld b0 b1 hC hH
      go_wp2
      go_ret
      exact ⟨by rw [← HR.out, decide_eq_true H.out]; rfl, hb⟩

end Go.Proofs.YtcgpgnajmfemhaaGreatDoor

namespace Go.Proofs.YtcgpgnajmfemhaaGreatDoor
open Go.RowKit

theorem wp_region_heldN {P : Program} {id : Nat} {ops : Array Oper} {Q : Exit → Act → World → Prop} {a : Act} {w : World} (hm : P.follows .mixedOrders = true) (S : World → Prop) (n : Nat) (hn : ops.size = n)
    (h : wpAnyH P .any ops Q S n (Array.replicate n false) a w.drew) : (Code.region id ops true).wp P Q a w := by
  subst hn
  exact wp_region_held hm h

theorem tkN {P : Program} {md : Region.Mode} {ops : Array Oper} {Q : Exit → Act → World → Prop} {S : World → Prop} {fuel : Nat} {listed : Array Bool} {a : Act} {w : World} (i : Nat) (oi : Oper) (hS : S w)
    (h : wpAnyH P md ops Q S fuel (listed.setIfInBounds i true) (a.put oi.dst undef) w) (hi : ops[i]? = some oi := by rfl) (hs : Region.noSelect ops = true := by kernel_rfl)
    (hf : Region.free md ops listed i = true := by kernel_rfl) (hr : (Region.ready md ops listed).contains i = true := by kernel_rfl)
    (hQ : ∀ c a w, Q (.panic c) (a.put oi.dst undef) w → Q (.panic c) a w := by exact fun _ _ _ h => h)
    (hw : Region.wanted oi (yielded ops a.tmps) = false := by rfl) : wpAnyH P md ops Q S (fuel + 1) listed a w :=
  wpAnyH_take hi hs hf hr hQ (Or.inr ⟨hw, rfl⟩) hS h

theorem tkY {P : Program} {md : Region.Mode} {ops : Array Oper} {Q : Exit → Act → World → Prop} {S : World → Prop} {fuel : Nat} {listed : Array Bool} {a : Act} {w : World} (i : Nat) (oi : Oper) (v : Value) (hS : S w)
    (hy : ∀ w, S w → (execOp a.eval oi).run P w = .ok (.value v) w)
    (h : wpAnyH P md ops Q S fuel (listed.setIfInBounds i true) (a.put oi.dst v) w) (hi : ops[i]? = some oi := by rfl) (hs : Region.noSelect ops = true := by kernel_rfl)
    (hf : Region.free md ops listed i = true := by kernel_rfl) (hr : (Region.ready md ops listed).contains i = true := by kernel_rfl)
    (hQ : ∀ c a w, Q (.panic c) (a.put oi.dst v) w → Q (.panic c) a w := by exact fun _ _ _ h => h)
    (hw : Region.wanted oi (yielded ops a.tmps) = true := by rfl) : wpAnyH P md ops Q S (fuel + 1) listed a w :=
  wpAnyH_take hi hs hf hr hQ (Or.inl ⟨hw, hy⟩) hS h

end Go.Proofs.YtcgpgnajmfemhaaGreatDoor

namespace Go.Proofs.YtcgpgnajmfemhaaGreatDoor
open Go.RowKit

theorem par_cells {w : World} {b : Nat} {s h mi mk ch ar ca pg : Int} (g : w.heap[b]? = some (.cells #[.int .i64 s, .int .i64 h, .int .i64 mi, .int .i64 mk, .int .i64 ch, .int .i64 ar, .int .i64 ca, .int .i64 pg] 25 (0, 0))) :
    w.cell? ⟨b, 0, none⟩ = some (.int .i64 s) ∧ w.cell? ⟨b, 1, none⟩ = some (.int .i64 h) ∧ w.cell? ⟨b, 2, none⟩ = some (.int .i64 mi) ∧ w.cell? ⟨b, 3, none⟩ = some (.int .i64 mk) ∧ w.cell? ⟨b, 4, none⟩ = some (.int .i64 ch) ∧ w.cell? ⟨b, 5, none⟩ = some (.int .i64 ar) ∧ w.cell? ⟨b, 6, none⟩ = some (.int .i64 ca) ∧ w.cell? ⟨b, 7, none⟩ = some (.int .i64 pg) := by
  refine ⟨?_, ?_, ?_, ?_, ?_, ?_, ?_, ?_⟩ <;> (rw [cell_of_row _ _ _ _ _ _ g]; rfl)

/-- What follows from parameters. -/
def deepV (s h mi mk ch ca pg : Int) : Int := if mayP s h mi mk ch ca pg then 8 * (mi + 1) else 0
def eachV (s h mi mk ch ca pg : Int) : Int := if mayP s h mi mk ch ca pg then 8 * (mi + 1) + 2 else 0
def needV (s h mi mk ch ca pg : Int) : Int := if mayP s h mi mk ch ca pg then (2 + ca) * ch * (8 * (mi + 1) + 2) + 1 else 0
def epochsV (s h mi mk ch ca pg : Int) : Int := if mayP s h mi mk ch ca pg then 2 ^ h.toNat else 0
def sectV (s h mi mk ch ca pg : Int) : Int := if mayP s h mi mk ch ca pg then 5 + ch * (1 + (91 + mi + mk) / 64) else 0
def chkV (s h mi mk ch ar ca pg : Int) : Int := if mayP s h mi mk ch ca pg ∧ 1 ≤ ar ∧ ar ≤ 4194304 then (if ar < needV s h mi mk ch ca pg then 4 else 0) else 1

theorem two_of {f : Nat} {args : Array Value} {p : Prop} [Decidable p] {w : World} (H : Calls Tryz.prog f args w fun x w' => x = .returned (.bool (decide p)) ∧ Below w.heap.size w w') :
    Calls Tryz.prog f args w fun x w' => ∃ b : Bool, x = .returned (.bool b) ∧ ((b = true ∧ Hid p) ∨ (b = false ∧ Hid (¬ p))) ∧ Below w.heap.size w w' := by
  refine H.mono ?_
  rintro e w' ⟨rfl, hb⟩
  by_cases h : p
  · exact ⟨true, by rw [decide_eq_true h], .inl ⟨rfl, h⟩, hb⟩
  · exact ⟨false, by rw [decide_eq_false h], .inr ⟨rfl, h⟩, hb⟩

theorem mul_small (ch ca mi : Int) (h0 : 0 ≤ ch) (h1 : ch ≤ 4096) (h2 : 0 ≤ ca) (h3 : ca ≤ 8) (h4 : 0 ≤ mi) (h5 : mi ≤ 24) : 0 ≤ (2 + ca) * ch ∧ (2 + ca) * ch ≤ 40960 ∧ 0 ≤ (2 + ca) * ch * (8 * (mi + 1) + 2) ∧ (2 + ca) * ch * (8 * (mi + 1) + 2) ≤ 8273920 := by
  have a1 : 0 ≤ (2 + ca) * ch := Int.mul_nonneg (by omega) h0
  have a2 : (2 + ca) * ch ≤ 10 * 4096 := Int.mul_le_mul (by omega) h1 h0 (by omega)
  have a3 : 0 ≤ (2 + ca) * ch * (8 * (mi + 1) + 2) := Int.mul_nonneg a1 (by omega)
  have a4 : (2 + ca) * ch * (8 * (mi + 1) + 2) ≤ 40960 * 202 := Int.mul_le_mul (by omega) (by omega) (by omega) (by omega)
  exact ⟨a1, by omega, a3, by omega⟩

theorem wrapZ (n : Int) (h0 : -9000000000000000000 ≤ n) (h1 : n ≤ 9000000000000000000) : IntKind.i64.wrap n = n := by rw [IntKind.wrap_i64]; omega

theorem w64 (n : Int) (h0 : -9000000000000000000 ≤ n) (h1 : n ≤ 9000000000000000000) : wrap64 n = n := by unfold wrap64; omega

theorem pow_small (h : Int) (h0 : 0 ≤ h) (h8 : h ≤ 8) : wrap64 (2 ^ min h.toNat 64) = 2 ^ h.toNat := by
  have : h = 0 ∨ h = 1 ∨ h = 2 ∨ h = 3 ∨ h = 4 ∨ h = 5 ∨ h = 6 ∨ h = 7 ∨ h = 8 := by omega
  rcases this with rfl | rfl | rfl | rfl | rfl | rfl | rfl | rfl | rfl <;> (simp [wrap64])

theorem sect_small (ch mi mk : Int) (h0 : 0 ≤ ch) (h1 : ch ≤ 4096) (h4 : 0 ≤ mi) (h5 : mi ≤ 24) (h6 : 0 ≤ mk) (h7 : mk ≤ 48) : 0 ≤ (91 + mi + mk) / 64 ∧ (91 + mi + mk) / 64 ≤ 2 ∧ 0 ≤ ch * (1 + (91 + mi + mk) / 64) ∧ ch * (1 + (91 + mi + mk) / 64) ≤ 12288 := by
  have a1 : 0 ≤ (91 + mi + mk) / 64 := by omega
  have a2 : (91 + mi + mk) / 64 ≤ 2 := by omega
  have a3 : 0 ≤ ch * (1 + (91 + mi + mk) / 64) := Int.mul_nonneg h0 (by omega)
  have a4 : ch * (1 + (91 + mi + mk) / 64) ≤ 4096 * 3 := Int.mul_le_mul h1 (by omega) (by omega) (by omega)
  exact ⟨a1, a2, a3, by omega⟩

set_option maxRecDepth 100000 in
set_option maxHeartbeats 4000000 in
theorem deep_any (s h mi mk ch ar ca pg : Int) (w : World) : Calls Tryz.prog 189 #[.agg #[.int .i64 s, .int .i64 h, .int .i64 mi, .int .i64 mk, .int .i64 ch, .int .i64 ar, .int .i64 ca, .int .i64 pg]] w fun x w' => x = .returned (.int .i64 (deepV s h mi mk ch ca pg)) ∧ Below w.heap.size w w' := by
  have b0 := (Below.refl w.heap.size w).alloc (Nat.le_refl _) (.cells #[.int .i64 s, .int .i64 h, .int .i64 mi, .int .i64 mk, .int .i64 ch, .int .i64 ar, .int .i64 ca, .int .i64 pg] 25)
  have g0 := heap_alloc_new w (.cells #[.int .i64 s, .int .i64 h, .int .i64 mi, .int .i64 mk, .int .i64 ch, .int .i64 ar, .int .i64 ca, .int .i64 pg] 25)
  obtain ⟨V, hV⟩ : ∃ V, w.alloc (.cells #[.int .i64 s, .int .i64 h, .int .i64 mi, .int .i64 mk, .int .i64 ch, .int .i64 ar, .int .i64 ca, .int .i64 pg] 25) = V := ⟨_, rfl⟩
  rw [hV] at b0 g0
  have hlt : w.heap.size < V.heap.size := (Array.getElem?_eq_some_iff.1 g0).1
  obtain ⟨q0, q1, q2, q3, q4, q5, q6, q7⟩ := par_cells g0
  go_enter Tryz.func189, Tryz.ntmps189
  go_wp2_with (go_at_call 107; refine (two_of (mayBe_any s h mi mk ch ar ca pg _)).mono ?_; rintro e w1 ⟨b, rfl, hd, hb1⟩; have gW := (hb1.block _ hlt).trans g0; obtain ⟨p0, p1, p2, p3, p4, p5, p6, p7⟩ := par_cells gW; have hb := b0.trans (hb1.mono b0.size); have hs1 := hb1.size; rcases hd with ⟨rfl, hm⟩ | ⟨rfl, hm⟩)
  · go_ret
    refine ⟨?_, hb⟩
    have hm := hm.out
    rw [show deepV s h mi mk ch ca pg = 8 * (mi + 1) from if_pos hm]
    unfold mayP at hm
    show Ending.returned (.int .i64 _) = _
    congr 2
    simp only [wrap64]
    omega
  · go_ret
    exact ⟨by rw [show deepV s h mi mk ch ca pg = 0 from if_neg hm.out]; rfl, hb⟩

set_option maxRecDepth 100000 in
set_option maxHeartbeats 4000000 in
theorem each_any (s h mi mk ch ar ca pg : Int) (w : World) : Calls Tryz.prog 150 #[.agg #[.int .i64 s, .int .i64 h, .int .i64 mi, .int .i64 mk, .int .i64 ch, .int .i64 ar, .int .i64 ca, .int .i64 pg]] w fun x w' => x = .returned (.int .i64 (eachV s h mi mk ch ca pg)) ∧ Below w.heap.size w w' := by
  have b0 := (Below.refl w.heap.size w).alloc (Nat.le_refl _) (.cells #[.int .i64 s, .int .i64 h, .int .i64 mi, .int .i64 mk, .int .i64 ch, .int .i64 ar, .int .i64 ca, .int .i64 pg] 25)
  have g0 := heap_alloc_new w (.cells #[.int .i64 s, .int .i64 h, .int .i64 mi, .int .i64 mk, .int .i64 ch, .int .i64 ar, .int .i64 ca, .int .i64 pg] 25)
  obtain ⟨V, hV⟩ : ∃ V, w.alloc (.cells #[.int .i64 s, .int .i64 h, .int .i64 mi, .int .i64 mk, .int .i64 ch, .int .i64 ar, .int .i64 ca, .int .i64 pg] 25) = V := ⟨_, rfl⟩
  rw [hV] at b0 g0
  have hlt : w.heap.size < V.heap.size := (Array.getElem?_eq_some_iff.1 g0).1
  obtain ⟨q0, q1, q2, q3, q4, q5, q6, q7⟩ := par_cells g0
  go_enter Tryz.func150, Tryz.ntmps150
  go_wp2_with (first | (go_at_call 107; refine (two_of (mayBe_any s h mi mk ch ar ca pg _)).mono ?_; rintro e w1 ⟨b, rfl, hd, hb1⟩; have gW := (hb1.block _ hlt).trans g0; obtain ⟨p0, p1, p2, p3, p4, p5, p6, p7⟩ := par_cells gW; have hb := b0.trans (hb1.mono b0.size); have hs1 := hb1.size; rcases hd with ⟨rfl, hm⟩ | ⟨rfl, hm⟩) | (go_at_call 189; refine (deep_any s h mi mk ch ar ca pg _).mono ?_; rintro e w2 ⟨rfl, hb2⟩; have hb3 := hb.trans (hb2.mono hb.size)))
  · go_ret
    refine ⟨?_, hb3⟩
    have hm := hm.out
    rw [show eachV s h mi mk ch ca pg = 8 * (mi + 1) + 2 from if_pos hm, show deepV s h mi mk ch ca pg = 8 * (mi + 1) from if_pos hm]
    unfold mayP at hm
    show Ending.returned (.int .i64 _) = _
    congr 2
    simp only [wrap64]
    omega
  · go_ret
    exact ⟨by rw [show eachV s h mi mk ch ca pg = 0 from if_neg hm.out]; rfl, hb⟩

set_option maxRecDepth 100000 in
set_option maxHeartbeats 4000000 in
theorem need_any (s h mi mk ch ar ca pg : Int) (w : World) : Calls Tryz.prog 109 #[.agg #[.int .i64 s, .int .i64 h, .int .i64 mi, .int .i64 mk, .int .i64 ch, .int .i64 ar, .int .i64 ca, .int .i64 pg]] w fun x w' => x = .returned (.int .i64 (needV s h mi mk ch ca pg)) ∧ Below w.heap.size w w' := by
  have b0 := (Below.refl w.heap.size w).alloc (Nat.le_refl _) (.cells #[.int .i64 s, .int .i64 h, .int .i64 mi, .int .i64 mk, .int .i64 ch, .int .i64 ar, .int .i64 ca, .int .i64 pg] 25)
  have g0 := heap_alloc_new w (.cells #[.int .i64 s, .int .i64 h, .int .i64 mi, .int .i64 mk, .int .i64 ch, .int .i64 ar, .int .i64 ca, .int .i64 pg] 25)
  obtain ⟨V, hV⟩ : ∃ V, w.alloc (.cells #[.int .i64 s, .int .i64 h, .int .i64 mi, .int .i64 mk, .int .i64 ch, .int .i64 ar, .int .i64 ca, .int .i64 pg] 25) = V := ⟨_, rfl⟩
  rw [hV] at b0 g0
  have hlt : w.heap.size < V.heap.size := (Array.getElem?_eq_some_iff.1 g0).1
  obtain ⟨q0, q1, q2, q3, q4, q5, q6, q7⟩ := par_cells g0
  go_enter Tryz.func109, Tryz.ntmps109
  go_wp2_with (go_at_call 107; refine (two_of (mayBe_any s h mi mk ch ar ca pg _)).mono ?_; rintro e w1 ⟨b, rfl, hd, hb1⟩; have gW := (hb1.block _ hlt).trans g0; obtain ⟨p0, p1, p2, p3, p4, p5, p6, p7⟩ := par_cells gW; have hb := b0.trans (hb1.mono b0.size); have hs1 := hb1.size; rcases hd with ⟨rfl, hm⟩ | ⟨rfl, hm⟩)
  · have hd1 : Below w1.heap.size w1 w1.drew := (Below.refl _ _).drew
    have g1 := (hd1.block _ (by omega)).trans gW
    clear q0 q1 q2 q3 q4 q5 q6 q7 hV gW g0
    go_region_held3 (fun w' => w'.cell? ⟨w.heap.size, 0, none⟩ = some (.int .i64 s) ∧ w'.cell? ⟨w.heap.size, 1, none⟩ = some (.int .i64 h) ∧ w'.cell? ⟨w.heap.size, 2, none⟩ = some (.int .i64 mi) ∧ w'.cell? ⟨w.heap.size, 3, none⟩ = some (.int .i64 mk) ∧ w'.cell? ⟨w.heap.size, 4, none⟩ = some (.int .i64 ch) ∧ w'.cell? ⟨w.heap.size, 5, none⟩ = some (.int .i64 ar) ∧ w'.cell? ⟨w.heap.size, 6, none⟩ = some (.int .i64 ca) ∧ w'.cell? ⟨w.heap.size, 7, none⟩ = some (.int .i64 pg)) (first | exact ⟨p0, p1, p2, p3, p4, p5, p6, p7⟩ | exact hS2 | exact ⟨by simpa using p0, by simpa using p1, by simpa using p2, by simpa using p3, by simpa using p4, by simpa using p5, by simpa using p6, by simpa using p7⟩) (first
      | (go_at_call 150; refine (each_any s h mi mk ch ar ca pg _).mono ?_; rintro e w2 ⟨rfl, hb2⟩; have hb3 := hb.trans ((hd1.trans (hb2.mono (by simp))).mono hb.size); have hS2 := par_cells ((hb2.block _ (by simp; omega)).trans g1)))
    go_wp2
    go_ret
    refine ⟨?_, hb3⟩
    have hm := hm.out
    rw [show needV s h mi mk ch ca pg = (2 + ca) * ch * (8 * (mi + 1) + 2) + 1 from if_pos hm, show eachV s h mi mk ch ca pg = 8 * (mi + 1) + 2 from if_pos hm]
    unfold mayP at hm
    obtain ⟨a1, a2, a3, a4⟩ := mul_small ch ca mi (by omega) (by omega) (by omega) (by omega) (by omega) (by omega)
    show Ending.returned (.int .i64 (IntKind.i64.wrap (IntKind.i64.wrap (IntKind.i64.wrap (IntKind.i64.wrap (2 + ca) * ch) * (8 * (mi + 1) + 2)) + 1))) = _
    rw [wrapZ (2 + ca) (by omega) (by omega), wrapZ ((2 + ca) * ch) (by omega) (by omega), wrapZ ((2 + ca) * ch * (8 * (mi + 1) + 2)) (by omega) (by omega), wrapZ _ (by omega) (by omega)]
  · go_ret
    exact ⟨by rw [show needV s h mi mk ch ca pg = 0 from if_neg hm.out]; rfl, hb⟩

set_option maxRecDepth 100000 in
set_option maxHeartbeats 4000000 in
theorem epochs_any (s h mi mk ch ar ca pg : Int) (w : World) : Calls Tryz.prog 80 #[.agg #[.int .i64 s, .int .i64 h, .int .i64 mi, .int .i64 mk, .int .i64 ch, .int .i64 ar, .int .i64 ca, .int .i64 pg]] w fun x w' => x = .returned (.int .i64 (epochsV s h mi mk ch ca pg)) ∧ Below w.heap.size w w' := by
  have b0 := (Below.refl w.heap.size w).alloc (Nat.le_refl _) (.cells #[.int .i64 s, .int .i64 h, .int .i64 mi, .int .i64 mk, .int .i64 ch, .int .i64 ar, .int .i64 ca, .int .i64 pg] 25)
  have g0 := heap_alloc_new w (.cells #[.int .i64 s, .int .i64 h, .int .i64 mi, .int .i64 mk, .int .i64 ch, .int .i64 ar, .int .i64 ca, .int .i64 pg] 25)
  obtain ⟨V, hV⟩ : ∃ V, w.alloc (.cells #[.int .i64 s, .int .i64 h, .int .i64 mi, .int .i64 mk, .int .i64 ch, .int .i64 ar, .int .i64 ca, .int .i64 pg] 25) = V := ⟨_, rfl⟩
  rw [hV] at b0 g0
  have hlt : w.heap.size < V.heap.size := (Array.getElem?_eq_some_iff.1 g0).1
  obtain ⟨q0, q1, q2, q3, q4, q5, q6, q7⟩ := par_cells g0
  go_enter Tryz.func80, Tryz.ntmps80
  go_wp2_with ((go_at_call 107; refine (two_of (mayBe_any s h mi mk ch ar ca pg _)).mono ?_; rintro e w1 ⟨b, rfl, hd, hb1⟩; have gW := (hb1.block _ hlt).trans g0; obtain ⟨p0, p1, p2, p3, p4, p5, p6, p7⟩ := par_cells gW; have hb := b0.trans (hb1.mono b0.size); have hs1 := hb1.size; rcases hd with ⟨rfl, hm⟩ | ⟨rfl, hm⟩); have hh0 := hm.out.2.1.1)
  · go_ret
    refine ⟨?_, hb⟩
    have hm := hm.out
    rw [show epochsV s h mi mk ch ca pg = 2 ^ h.toNat from if_pos hm]
    show Ending.returned (.int .i64 (wrap64 (2 ^ min h.toNat 64))) = _
    rw [pow_small h hm.2.1.1 hm.2.1.2]
  · go_ret
    exact ⟨by rw [show epochsV s h mi mk ch ca pg = 0 from if_neg hm.out]; rfl, hb⟩

set_option maxRecDepth 100000 in
set_option maxHeartbeats 4000000 in
theorem chk_any (s h mi mk ch ar ca pg : Int) (w : World) : Calls Tryz.prog 67 #[.agg #[.int .i64 s, .int .i64 h, .int .i64 mi, .int .i64 mk, .int .i64 ch, .int .i64 ar, .int .i64 ca, .int .i64 pg]] w fun x w' => x = .returned (.int .i64 (chkV s h mi mk ch ar ca pg)) ∧ Below w.heap.size w w' := by
  have b0 := (Below.refl w.heap.size w).alloc (Nat.le_refl _) (.cells #[.int .i64 s, .int .i64 h, .int .i64 mi, .int .i64 mk, .int .i64 ch, .int .i64 ar, .int .i64 ca, .int .i64 pg] 25)
  have g0 := heap_alloc_new w (.cells #[.int .i64 s, .int .i64 h, .int .i64 mi, .int .i64 mk, .int .i64 ch, .int .i64 ar, .int .i64 ca, .int .i64 pg] 25)
  obtain ⟨V, hV⟩ : ∃ V, w.alloc (.cells #[.int .i64 s, .int .i64 h, .int .i64 mi, .int .i64 mk, .int .i64 ch, .int .i64 ar, .int .i64 ca, .int .i64 pg] 25) = V := ⟨_, rfl⟩
  rw [hV] at b0 g0
  have hlt : w.heap.size < V.heap.size := (Array.getElem?_eq_some_iff.1 g0).1
  obtain ⟨q0, q1, q2, q3, q4, q5, q6, q7⟩ := par_cells g0
  have hN := fun W => need_any s h mi mk ch ar ca pg W
  obtain ⟨N, hNN⟩ : ∃ N, N = needV s h mi mk ch ca pg := ⟨_, rfl⟩
  rw [← hNN] at hN
  have HN := (show Hid _ from hNN)
  clear hNN
  have hfin : ar < N ∨ ¬ ar < N := Decidable.em _
  rcases hfin with hn | hn
  · go_enter Tryz.func67, Tryz.ntmps67
    go_wp2_with (first | (go_at_call 107; refine (two_of (mayBe_any s h mi mk ch ar ca pg _)).mono ?_; rintro e w1 ⟨b, rfl, hd, hb1⟩; have gW := (hb1.block _ hlt).trans g0; obtain ⟨p0, p1, p2, p3, p4, p5, p6, p7⟩ := par_cells gW; have hb := b0.trans (hb1.mono b0.size); have hs1 := hb1.size; rcases hd with ⟨rfl, hm⟩ | ⟨rfl, hm⟩) | (go_at_call 108; refine (two_of (holds_any ar 1 4194304 _)).mono ?_; rintro e w2 ⟨b, rfl, hd, hb2⟩; have gW2 := (hb2.block _ (by omega)).trans gW; obtain ⟨p0, p1, p2, p3, p4, p5, p6, p7⟩ := par_cells gW2; have hb3 := hb.trans (hb2.mono hb.size); have hs2 := hb2.size; rcases hd with ⟨rfl, ha⟩ | ⟨rfl, ha⟩))
    · have hd1 : Below w2.heap.size w2 w2.drew := (Below.refl _ _).drew
      have g1 := (hd1.block _ (by omega)).trans gW2
      clear q0 q1 q2 q3 q4 q5 q6 q7 hV gW g0
      go_region_held3 (fun w' => w'.cell? ⟨w.heap.size, 0, none⟩ = some (.int .i64 s) ∧ w'.cell? ⟨w.heap.size, 1, none⟩ = some (.int .i64 h) ∧ w'.cell? ⟨w.heap.size, 2, none⟩ = some (.int .i64 mi) ∧ w'.cell? ⟨w.heap.size, 3, none⟩ = some (.int .i64 mk) ∧ w'.cell? ⟨w.heap.size, 4, none⟩ = some (.int .i64 ch) ∧ w'.cell? ⟨w.heap.size, 5, none⟩ = some (.int .i64 ar) ∧ w'.cell? ⟨w.heap.size, 6, none⟩ = some (.int .i64 ca) ∧ w'.cell? ⟨w.heap.size, 7, none⟩ = some (.int .i64 pg)) (first | exact ⟨p0, p1, p2, p3, p4, p5, p6, p7⟩ | exact hS2 | exact ⟨by simpa using p0, by simpa using p1, by simpa using p2, by simpa using p3, by simpa using p4, by simpa using p5, by simpa using p6, by simpa using p7⟩) (first
        | (go_at_call 109; refine (hN _).mono ?_; rintro e w3 ⟨rfl, hb4⟩; have hb5 := hb3.trans ((hd1.trans (hb4.mono (by simp))).mono hb3.size); have hS2 := par_cells ((hb4.block _ (by simp; omega)).trans g1)))
      go_wp2
      go_ret
      refine ⟨?_, hb5⟩
      rw [show chkV s h mi mk ch ar ca pg = 4 by unfold chkV; rw [if_pos ⟨hm.out, ha.out⟩, ← HN.out]; exact if_pos (by omega)]
      rfl
    · go_ret
      refine ⟨?_, hb3⟩
      rw [show chkV s h mi mk ch ar ca pg = 1 from if_neg fun q => ha.out q.2]
      rfl
    · go_ret
      refine ⟨?_, hb⟩
      rw [show chkV s h mi mk ch ar ca pg = 1 from if_neg fun q => hm.out q.1]
      rfl
  · go_enter Tryz.func67, Tryz.ntmps67
    go_wp2_with (first | (go_at_call 107; refine (two_of (mayBe_any s h mi mk ch ar ca pg _)).mono ?_; rintro e w1 ⟨b, rfl, hd, hb1⟩; have gW := (hb1.block _ hlt).trans g0; obtain ⟨p0, p1, p2, p3, p4, p5, p6, p7⟩ := par_cells gW; have hb := b0.trans (hb1.mono b0.size); have hs1 := hb1.size; rcases hd with ⟨rfl, hm⟩ | ⟨rfl, hm⟩) | (go_at_call 108; refine (two_of (holds_any ar 1 4194304 _)).mono ?_; rintro e w2 ⟨b, rfl, hd, hb2⟩; have gW2 := (hb2.block _ (by omega)).trans gW; obtain ⟨p0, p1, p2, p3, p4, p5, p6, p7⟩ := par_cells gW2; have hb3 := hb.trans (hb2.mono hb.size); have hs2 := hb2.size; rcases hd with ⟨rfl, ha⟩ | ⟨rfl, ha⟩))
    · have hd1 : Below w2.heap.size w2 w2.drew := (Below.refl _ _).drew
      have g1 := (hd1.block _ (by omega)).trans gW2
      clear q0 q1 q2 q3 q4 q5 q6 q7 hV gW g0
      go_region_held3 (fun w' => w'.cell? ⟨w.heap.size, 0, none⟩ = some (.int .i64 s) ∧ w'.cell? ⟨w.heap.size, 1, none⟩ = some (.int .i64 h) ∧ w'.cell? ⟨w.heap.size, 2, none⟩ = some (.int .i64 mi) ∧ w'.cell? ⟨w.heap.size, 3, none⟩ = some (.int .i64 mk) ∧ w'.cell? ⟨w.heap.size, 4, none⟩ = some (.int .i64 ch) ∧ w'.cell? ⟨w.heap.size, 5, none⟩ = some (.int .i64 ar) ∧ w'.cell? ⟨w.heap.size, 6, none⟩ = some (.int .i64 ca) ∧ w'.cell? ⟨w.heap.size, 7, none⟩ = some (.int .i64 pg)) (first | exact ⟨p0, p1, p2, p3, p4, p5, p6, p7⟩ | exact hS2 | exact ⟨by simpa using p0, by simpa using p1, by simpa using p2, by simpa using p3, by simpa using p4, by simpa using p5, by simpa using p6, by simpa using p7⟩) (first
        | (go_at_call 109; refine (hN _).mono ?_; rintro e w3 ⟨rfl, hb4⟩; have hb5 := hb3.trans ((hd1.trans (hb4.mono (by simp))).mono hb3.size); have hS2 := par_cells ((hb4.block _ (by simp; omega)).trans g1)))
      go_wp2
      go_ret
      refine ⟨?_, hb5⟩
      rw [show chkV s h mi mk ch ar ca pg = 0 by unfold chkV; rw [if_pos ⟨hm.out, ha.out⟩, ← HN.out]; exact if_neg (by omega)]
      rfl
    · go_ret
      refine ⟨?_, hb3⟩
      rw [show chkV s h mi mk ch ar ca pg = 1 from if_neg fun q => ha.out q.2]
      rfl
    · go_ret
      refine ⟨?_, hb⟩
      rw [show chkV s h mi mk ch ar ca pg = 1 from if_neg fun q => hm.out q.1]
      rfl

end Go.Proofs.YtcgpgnajmfemhaaGreatDoor
