/- What this text proves: the walk of change.twice over this program: whether two bindings have one identity. -/
import Derived.Test.YtbnfaeafkkagcaaBVocab
import Derived.WalkArith
namespace Go.Proofs.Ytbnfaeafkkagcaa
open Go.RowKit

set_option maxRecDepth 100000 in
set_option maxHeartbeats 2000000 in
theorem twice_any (v : Value) (bs : List (List UInt8 × List UInt8)) (w : World) (h : BA w v bs) (hbig : bs.length ≤ 1048576) :
    Calls Try.prog 48 #[v] w fun x w' => ∃ B : Bool, x = .returned (.bool B) ∧ (B = true ↔ two bs bs.length) ∧ Below w.heap.size w w' := by
  obtain ⟨p, c, rfl⟩ := h.shape
  have K := Maps.string_keyed (P := Try.prog) Try.underlying9
  have hmk : (w.alloc (.map #[] 0)).ownsMap (H := Value) Try.prog 9 (plainElem Try.prog 3) w.heap.size 0 (.map []) := World.ownsMap_made w _ _ _
  have hmm := @run_makeMap Try.prog
  go_enter Try.func48, Try.ntmps48
  go_wp2
  go_loopw [11] (fun i wr => ∃ (k : Nat) (D : DataW Value), k ≤ bs.length ∧ i = .int .i64 (k : Int) ∧ wr.ownsMap Try.prog 9 (plainElem Try.prog 3) w.heap.size k D ∧ Hid (hasIds D bs k ∧ ¬ two bs k) ∧ Below w.heap.size w wr) (fun i _ => bs.length - (intOf i).toNat)
  case atStart => exact ⟨0, .map [], Nat.zero_le _, rfl, hmk, ⟨hasIds_none bs, fun ⟨i, j, _, _, h1, h2, _⟩ => by omega⟩, (Below.refl _ _).alloc (Nat.le_refl _) _⟩
  case round =>
    clear hmk
    obtain ⟨k, D, hk, rfl, ho, hH, hb⟩ := hrel
    have hsz := hb.size
    by_cases hlt : k < bs.length
    · obtain ⟨bl, o, rfl⟩ := h.addr (by omega)
      obtain ⟨x, q, kc, r, d, hx, c1, c2, h1, h2⟩ := h.get k hlt
      have hlt2 : (k : Int) < (bs.length : Int) := by omega
      have e1 := cell_later hb c1
      have e2 := cell_later hb c2
      have bA := (Below.refl wr.heap.size wr).alloc (Nat.le_refl _) (.cells #[.slice q x.1.length kc, .slice r x.2.length d] 57)
      have oA := ho.alloc (.cells #[.slice q x.1.length kc, .slice r x.2.length d] 57)
      have hS := ((h1.later hb).later bA).str (P := Try.prog) 22 5 9 Try.underlying22 Try.underlying5 Try.underlying9
      have hxl : x.1.length ≤ maxLen := h1.len_le
      have hkey : keyOf Try.prog 9 (.string ⟨x.1.toArray⟩) = some (kS x.1) := by
        rw [WideMaps.keyOf_string_mk Try.underlying9 (show (ByteArray.mk x.1.toArray).size ≤ maxLen from hxl)]
        rfl
      obtain ⟨va, pa, hrun, _⟩ := oA.look_ok K Try.underlying82 (z := .int .i64 0) (by rfl) (plainElem_int Try.underlying3 (by decide)) hkey
      cases hh : Maps.has D (kS x.1) with
      | true =>
        rw [hh] at hrun
        have HT : Hid (two bs bs.length) := two_hit hH.out.1 hx hlt hh
        have HB1 : Hid (Below w.heap.size w (wr.alloc (.cells #[.slice q x.1.length kc, .slice r x.2.length d] 57))) := hb.alloc hsz _
        clear hH hx h1 h2 bA oA hkey c1 c2 hh ho
        go_wp2
        go_ret
        exact ⟨true, rfl, by simpa using HT.out, HB1.out⟩
      | false =>
        rw [hh] at hrun
        have HN : Hid (¬ two bs (k + 1)) := two_miss hH.out.1 hx hH.out.2 hh
        have HI : Hid (hasIds (D.put (kS x.1) (.lit (.int .i64 (k : Int)))) bs (k + 1)) := hasIds_put ho.isMap hH.out.1 hx
        have hwf : (Lit.int .i64 (k : Int)).wf = true := Go.WalkArith.wf_i64 (by omega)
        have hb1 := hb.alloc hsz (.cells #[.slice q x.1.length kc, .slice r x.2.length d] 57)
        clear hH hx h1 h2 bA c1 c2 hh ho
        go_wp2_with (first | (at_mapUpdate; refine wpList_mapUpdate_own _ rfl _ _ _ 82 rfl 9 3 K Try.underlying82 _ w.heap.size k D rfl oA (by unfold maxLen; omega) _ _ (kS x.1) rfl rfl hkey (.lit (.int .i64 (k : Int))) [] (plainElem_int Try.underlying3 hwf) ?_) | go_in)
        intro w3 o3 g3
        have b3 : Below w.heap.size w w3 := hb1.grown g3 (by simp; omega) (fun j hj => by cases hj; exact Nat.le_refl _)
        clear oA g3 hb1 hrun hS e1 e2
        go_wp2
        go_roundw
        case rel => exact ⟨k + 1, _, by omega, by go_num, o3, ⟨HI.out, HN.out⟩, b3⟩
        case measure => simp [intOf]; omega
    · obtain rfl : k = bs.length := by omega
      have HN : Hid (¬ two bs bs.length) := hH.out.2
      clear hH ho
      go_wp2
      go_ret
      exact ⟨false, rfl, by simpa using HN.out, hb⟩

end Go.Proofs.Ytbnfaeafkkagcaa
