/- What this text proves: the walks of annalsref04's Uint, Bytes and Flag over this program, told alike. -/
import Derived.Test.YtldmbfemoepfkaaRPuts
namespace Go.Proofs.Ytldmbfemoepfkaa
open Go.RowKit

/-- A call that puts s behind l; of what is there then the length alone is told in the open. -/
def PutT (l s : List UInt8) (w : World) (e : Ending) (w' : World) : Prop := ∃ L p c, e = .returned (.slice p L.length c) ∧ HB w' (.slice p L.length c) L ∧ Hid (L = l ++ s) ∧ Below w.heap.size w w'

theorem PutT.of {l s : List UInt8} {w w' : World} {v : Value} (h : HB w' v (l ++ s)) (hb : Below w.heap.size w w') : PutT l s w (.returned v) w' := by
  obtain ⟨p, c, rfl⟩ := h.shape
  exact ⟨_, p, c, rfl, h, rfl, hb⟩

theorem put_uint (v : Value) (l : List UInt8) (n : Int) (w : World) (h : HB w v l) (hbig : l.length ≤ 140737488355300) : Calls Try.prog 24 #[v, .int .i64 n] w (PutT l (numL (clampN n)) w) := by
  refine (ruint_any v l n w h hbig).mono ?_
  rintro e w' ⟨p, c, rfl, ho, hb⟩
  exact PutT.of (HB.of_owns ho) hb
theorem put_bytes (v u : Value) (l s : List UInt8) (w : World) (h : HB w v l) (hs : HB w u s) (hbig : l.length + s.length ≤ 140737488355200) : Calls Try.prog 27 #[v, u] w (PutT l (bytesL s) w) := by
  refine (rbytes_any v u l s w h hs hbig).mono ?_
  rintro e w' ⟨p, c, rfl, ho, hb⟩
  exact PutT.of (HB.of_owns ho) hb
theorem put_flag (v : Value) (l : List UInt8) (b : Bool) (w : World) (h : HB w v l) (hbig : l.length ≤ 140737488355300) : Calls Try.prog 26 #[v, .bool b] w (PutT l (flagL b) w) := by
  refine (rflag_any v l b w h hbig).mono ?_
  rintro e w' ⟨p, c, rfl, ho, hb⟩
  exact PutT.of (HB.of_owns ho) hb
theorem len_app {L l s : List UInt8} {N : Nat} (h : Hid (L = l ++ s)) (hl : l.length + s.length ≤ N) : L.length ≤ N := by
  rw [h.out, List.length_append]; exact hl

end Go.Proofs.Ytldmbfemoepfkaa
