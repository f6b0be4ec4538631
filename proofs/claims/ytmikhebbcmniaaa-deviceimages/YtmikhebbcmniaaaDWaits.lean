/- What this text proves: the walk of a device's Waits over this program: the sectors that wait, rising. -/
import Derived.Test.YtmikhebbcmniaaaDLays
import Derived.Test.YtmikhebbcmniaaaDLook
import Derived.Test.YtmikhebbcmniaaaInts
import Derived.Maps.Range
namespace Go.Proofs.Ytmikhebbcmniaaa
open Go.RowKit Go.Maps Go.Sort Go.Shelf

theorem sortsA (m : Nat) : AnyZI.SortsIn Try.prog Try.sortedA_ren Fence.wide m :=
  ⟨fun blk off cap ss W hH hblk hsz => callsIn_wide.2 (AnyM.slices_Sort_int Try.sortA blk off cap ss W hH hblk hsz),
   fun p cap W => callsIn_wide.2 (AnyM.slices_Sort_int_none Try.sortA p cap W)⟩

theorem keys_call (mb : Option Nat) (W : World) : Calls Try.prog 51 #[.map mb] W fun e w' => e = .returned (.func (.func 58) #[] #[.pointer (some ⟨W.heap.size, 0, none⟩)]) ∧ w' = W.alloc (.cells #[.map mb] 63) :=
  (callsIn_wide (n := 5)).1 (AnyZI.keys_in Try.keysA Fence.wide 5 trivial rfl mb W)

theorem sorted_call {H : Type} {R : Value → Option (DataW H × List MemPlace)} (b nn : Nat) (D0 : DataW H) (w : World) (hown : w.ownsMap Try.prog 3 R b nn D0) (hmax : Maps.size D0 ≤ maxLen) (hbytes : Maps.size D0 * 8 ≤ 140737488355328) :
    Calls Try.prog 50 #[.func (.func 58) #[] #[.pointer (some ⟨w.heap.size, 0, none⟩)]] (w.alloc (.cells #[.map (some b)] 63)) fun e w' => ∃ (v : Value) (ss : List Int), e = .returned v ∧ ss.Perm (intKeys D0) ∧
      w'.ownsRow w.heap.size 3 1 v ss.length ((ss.mergeSort (fun x y => decide (x ≤ y))).map encZ) ∧ (v = .slice none 0 0 ↔ ss = []) ∧ Below w.heap.size w w' := by
  refine (callsIn_wide (n := 5)).1 ?_
  have hbl := hown.lt
  have hseq : SeqGives Fence.wide 2 Try.prog 58 #[.pointer (some ⟨w.heap.size, 0, none⟩)] encZ (fun ss => ss.Perm (intKeys D0)) (Maps.size D0) (w.alloc (.cells #[.map (some b)] 63)) :=
    AnyZI.keys_gives (ρ := Try.keysA_ren) { Try.keysA with } Fence.wide _ trivial rfl (by omega) w.heap.size b nn D0 _ (by simp) (by simp) (by
      obtain ⟨es, clock, hb, Ft, hs, hD⟩ := hown
      exact ⟨es, clock, (Below.heap_alloc _ _ b hbl).trans hb, Ft, hs, hD⟩)
  have cS := AnyZI.sorted_in Try.sortedA Fence.wide 5 trivial trivial trivial trivial rfl (by omega) (sortsA _) (enters_of Try.func57 (by kernel_rfl) rfl) 58 #[.pointer (some ⟨w.heap.size, 0, none⟩)] trivial (enters_of Try.func58 (by kernel_rfl) rfl) _ _ hmax hbytes _ hseq
  refine cS.mono ?_
  rintro e w' ⟨v, ss, he, hS, hrow, hnil, hb⟩
  exact ⟨v, ss, he, hS, ownsRow_base_a hrow (by simp), hnil, ((Below.refl _ w).alloc (Nat.le_refl _) _).trans (hb.mono (by simp))⟩

theorem waits_pair (s : DevS) : (s.waits.map (fun (i : Nat) => (i : Int))).Pairwise (fun a b => a < b) := by
  rw [List.pairwise_map]
  refine List.Pairwise.imp (R := fun (a b : Nat) => a < b) (fun h => by omega) ?_
  exact List.Pairwise.filter _ List.pairwise_lt_range

theorem waits_sorted {w : World} {b n : Nat} {s : DevS} {D : DataW Value} (hok : s.Ok) (hown : w.ownsMap Try.prog 3 hR b n D) (hm : MapIs D s.old) (ss : List Int) (hp : ss.Perm (intKeys D)) : ss.mergeSort leI = s.waits.map (fun (i : Nat) => (i : Int)) := by
  have hnd : (s.waits.map (fun (i : Nat) => (i : Int))).Nodup := (waits_pair s).imp (fun h => by omega)
  have hmem : ∀ x : Int, x ∈ s.waits.map (fun (i : Nat) => (i : Int)) ↔ Maps.has D (.int .i64 x) = true := by
    intro x
    rw [hm.1 x, List.mem_map]
    constructor
    · rintro ⟨i, hi, rfl⟩
      exact ⟨i, rfl, waits_some s i hi⟩
    · rintro ⟨i, rfl, hi⟩
      obtain ⟨l, hl⟩ := Option.isSome_iff_exists.1 hi
      exact ⟨i, List.mem_filter.2 ⟨List.mem_range.2 (hok.olds i l hl).1, hi⟩, rfl⟩
  have hcol : CollectedI D (fun _ => false) (s.waits.map (fun (i : Nat) => (i : Int))) := ⟨hnd, fun x => by rw [hmem x]; simp⟩
  have hperm := hcol.perm hown intKeyed Try.underlying3 (fun _ => rfl)
  rw [mergeSort_of_perm_i (hp.trans hperm.symm)]
  refine List.mergeSort_of_pairwise ?_
  exact (waits_pair s).imp (fun h => by simp [leI]; omega)

set_option maxHeartbeats 400000 in
theorem waits_any {bd bn bm : Nat} {s : DevS} {w : World} (h : Dev w bd bn bm s) : Calls Try.prog 31 #[.pointer (some ⟨bd, 0, none⟩)] w fun e w' => ∃ v, e = .returned v ∧ IA w' v s.waits ∧ (∀ a n c, v = .slice (some a) n c → w.heap.size ≤ a.block) ∧ Below w.heap.size w w' := by
  have h1 := miss_no h
  have c1 := h.db.cells.2.1
  obtain ⟨D, hown, hmi⟩ := h.dm
  have hsz := hown.size_le
  have hch := h.ok.chs
  have h2 := keys_call (some bm) w
  have h3 := sorted_call bm s.ch D w hown (by unfold maxLen; omega) (by omega)
  have hso := waits_sorted h.ok hown hmi
  clear h hown hmi hsz hch
  go_enter Try.func31, Try.ntmps31
  go_wp2_with (first
    | (go_at_call 40; refine h1.mono ?_; rintro e w1 ⟨rfl, rfl⟩)
    | (go_at_call 51; refine h2.mono ?_; rintro e w2 ⟨rfl, rfl⟩)
    | (go_at_call 50; refine h3.mono ?_; rintro e w3 ⟨v, ss, rfl, hp, hrow, hnil, hb⟩))
  go_ret
  have e1 : (ss.mergeSort (fun x y => decide (x ≤ y))).map encZ = ics s.waits := by
    have := hso ss hp
    rw [show (ss.mergeSort (fun x y => decide (x ≤ y))) = ss.mergeSort leI from rfl, this]
    simp [ics, ic, encZ]
  rw [e1] at hrow
  refine ⟨v, rfl, IA.of_owns hrow, ?_, hb⟩
  rintro a n c rfl
  rcases hrow.2 with ⟨h0, _⟩ | ⟨g, cap, cur, he, hbase, _⟩
  · cases h0
  · simp only [Value.slice.injEq, Option.some.injEq] at he
    rw [he.1]
    exact hbase

end Go.Proofs.Ytmikhebbcmniaaa
