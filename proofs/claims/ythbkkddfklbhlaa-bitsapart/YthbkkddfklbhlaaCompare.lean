/- What this text proves: the walk of bytes.Compare over this program: -1, 0 or 1, as the one row of bytes is ahead of the other one; the world stays. -/
import Derived.Test.YthbkkddfklbhlaaOwn
import Derived.Lib.Bytealg
import Derived.Lib.BytesEntry
namespace Go.Proofs.Ythbkkddfklbhlaa
open Go.RowKit

theorem bytesOf_nums (l : List UInt8) : Lib.bytesOf (nums l) = l := by
  unfold Lib.bytesOf nums
  rw [List.map_map]
  conv => rhs; rw [← List.map_id l]
  apply List.map_congr_left
  intro x _
  simp

theorem HB.read {P : Program} {w : World} {p : Option Addr} {n c : Nat} {l : List UInt8} (h : HB w (.slice p n c) l) : (Extern.Bytes.bytesOf (.slice p n c)).run P w = .ok ⟨l.toArray⟩ w := by
  have hn := h.len.1
  cases p with
  | none =>
    have h0 := h.len.2.2.2 rfl
    have h1 := h.len.2.1
    obtain rfl : l = [] := List.eq_nil_of_length_eq_zero (by omega)
    rfl
  | some a =>
    have hl : (nums l).length = n := by simp [nums]; omega
    have hc : ∀ j x, (nums l)[j]? = some x → w.cell? (a.add j) = some (.int .u8 x) := by
      intro j x hx
      have hj : j < l.length := by
        have := (List.getElem?_eq_some_iff.1 hx).1
        simpa [nums] using this
      obtain ⟨b, o, e, hc⟩ := h.addr (by omega)
      cases e
      rw [add_lit, hc j l[j] (List.getElem?_eq_getElem hj)]
      simp only [nums, List.getElem?_map, List.getElem?_eq_getElem hj, Option.map_some, Option.some.injEq] at hx
      rw [← hx]
      rfl
    have := Lib.run_loadBytesX (P := P) w (nums l) a .empty hc
    rw [hl, bytesOf_nums] at this
    show (Extern.Bytes.loadBytes a n .empty).run P w = _
    rw [this]
    congr 1
    apply ByteArray.ext
    show (#[] : Array UInt8) ++ l.toArray = l.toArray
    simp

theorem run_compareSlices {P : Program} {w : World} {p q : Option Addr} {n c m d : Nat} {a b : List UInt8} (ha : HB w (.slice p n c) a) (hb : HB w (.slice q m d) b) :
    (Extern.BytealgCompare.compare #[.slice p n c, .slice q m d]).run P w = .ok (.int .i64 (Lib.compareBytes a b)) w := by
  change Sem.run P (do pure (goInt (Extern.BytealgCompare.cmp (← Extern.Bytes.bytesOf (.slice p n c)) (← Extern.Bytes.bytesOf (.slice q m d))))) w = _
  simp only [Sem.run_bind, Sem.run_pure, ha.read, hb.read, Result.andThen]
  rw [Lib.cmp_eq]
  rfl

set_option maxHeartbeats 400000 in
set_option maxRecDepth 100000 in
theorem compare_any (x y : Value) (a b : List UInt8) (w : World) (ha : HB w x a) (hb : HB w y b) :
    Calls Try.prog 33 #[x, y] w fun e w' => e = .returned (.int .i64 (Lib.compareBytes a b)) ∧ w' = w := by
  obtain ⟨p, c, rfl⟩ := ha.shape
  obtain ⟨q, d, rfl⟩ := hb.shape
  have hr := run_compareSlices (P := Try.prog) ha hb
  clear ha hb
  go_enter Try.func33, Try.ntmps33
  go_wp2
  rw [run_callFunc_extern Try.func38 (by kernel_rfl) (by kernel_rfl) (by kernel_rfl) (e := Extern.BytealgCompare.compare) (by kernel_rfl), hr]
  simp only [Result.andThen]
  rw [Oper.upon_value]
  go_wp2
  go_ret
  exact ⟨rfl, rfl⟩

end Go.Proofs.Ythbkkddfklbhlaa
