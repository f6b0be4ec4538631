/- What this text proves: what a look into a device's map of sectors, and a store into it, do, over this program. -/
import Derived.Test.YtnmjggljicanmaaDoorDBase
import Derived.Deep.WholeRow
namespace Go.Proofs.YtnmjggljicanmaaDoor
open Go.RowKit Go.Maps

theorem i_sec : (Tryd.prog.info? 60).map (fun i => (i.zero, i.size)) = some (some (.agg (bcs (List.replicate 64 0)).toArray), 64) := by kernel_rfl
theorem s_sec : (Tryd.prog.info? 60).map (·.size) = some 64 := (Go.zero_of_info i_sec).2
theorem z_sec (w : World) : (zeroValue 60).run Tryd.prog w = .ok (secV (List.replicate 64 0)) w := (Go.zero_of_info i_sec).1 w
theorem intKeyed : Keyed Tryd.prog 3 := int_keyed Tryd.underlying3
theorem keyOf_nat (i : Nat) (h : i ≤ 16384) : keyOf Tryd.prog 3 (.int .i64 (i : Int)) = some (.int .i64 (i : Int)) := keyOf_int_mk Tryd.underlying3 (WalkArith.wf_i64 (by omega))

theorem hR_inv {v : Value} {d : DataW Value} {ps : List MemPlace} (h : hR v = some (d, ps)) : d = .held v := by
  unfold hR at h
  simp only [Option.some.injEq, Prod.mk.injEq] at h
  exact h.1.symm

theorem DM.look_ok {w : World} {g n : Nat} {old : Nat → Option (List UInt8)} (h : DM w g n old) (i : Nat) (hi : i ≤ 16384) :
    (Instr.lookup 56 (.map (some g)) (.int .i64 (i : Int)) true).run Tryd.prog w = .ok (.tuple #[secV ((old i).getD (List.replicate 64 0)), .bool (old i).isSome]) w := by
  obtain ⟨D, h1, h2⟩ := h
  obtain ⟨v, ps, hrun, hv⟩ := h1.look_ok intKeyed Tryd.underlying56 (z_sec w) (zd := .held (secV (List.replicate 64 0))) (zp := []) rfl (keyOf_nat i hi)
  have hv' := hR_inv hv
  rw [hrun, mapIs_has h2 i]
  cases e : old i with
  | none =>
    have hh : Maps.has D (.int .i64 (i : Int)) = false := by rw [mapIs_has h2 i, e]; rfl
    rw [Maps.atKey_of_not_has hh] at hv'
    simp only [DataW.held.injEq] at hv'
    rw [← hv']; rfl
  | some l =>
    rw [h2.2 i l e] at hv'
    simp only [DataW.held.injEq] at hv'
    rw [← hv']; rfl

theorem DM.look {w : World} {g n : Nat} {old : Nat → Option (List UInt8)} (h : DM w g n old) (i : Nat) (hi : i ≤ 16384) (l : List UInt8) (e : old i = some l) :
    (Instr.lookup 56 (.map (some g)) (.int .i64 (i : Int)) false).run Tryd.prog w = .ok (secV l) w := by
  obtain ⟨D, h1, h2⟩ := h
  obtain ⟨v, ps, hrun, hv⟩ := h1.lookup intKeyed Tryd.underlying56 (z_sec w) (zd := .held (secV (List.replicate 64 0))) (zp := []) rfl (keyOf_nat i hi)
  have hv' := hR_inv hv
  rw [hrun]
  rw [h2.2 i l e] at hv'
  simp only [DataW.held.injEq] at hv'
  rw [← hv']

theorem DM.store {w : World} {g n : Nat} {old : Nat → Option (List UInt8)} (h : DM w g n old) (i : Nat) (hi : i ≤ 16384) (hn : n < maxLen) (l : List UInt8) :
    ∃ w', (Instr.mapUpdate 56 (.map (some g)) (.int .i64 (i : Int)) (secV l)).run Tryd.prog w = .ok () w' ∧ DM w' g (n + 1) (fun j => if j = i then some l else old j) ∧ w.grownBy w' (some g) := by
  obtain ⟨D, h1, h2⟩ := h
  obtain ⟨w', hrun, h3, h4⟩ := h1.update intKeyed Tryd.underlying56 hn (keyOf_nat i hi) (val := secV l) (d := .held (secV l)) (ps := []) rfl
  exact ⟨w', hrun, ⟨_, h3, mapIs_put h2 h1.isMap i l⟩, h4⟩

theorem DM.drew {w : World} {g n : Nat} {old : Nat → Option (List UInt8)} (h : DM w g n old) : DM w.drew g n old := h

end Go.Proofs.YtnmjggljicanmaaDoor
