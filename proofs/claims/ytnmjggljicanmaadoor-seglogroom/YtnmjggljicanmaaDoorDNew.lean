/- What this text proves: the walks of a device's New, made, bytesOf and Read over this program. -/
import Derived.Test.YtnmjggljicanmaaDoorDLook
namespace Go.Proofs.YtnmjggljicanmaaDoor
open Go.RowKit Go.Maps

theorem i_secb : (Tryd.prog.info? 60).map (fun i => (i.zero, i.size, i.bytes)) = some (some (.agg (bcs (List.replicate 64 0)).toArray), 64, 64) := by kernel_rfl

/-- A sector of noughts. -/
def nulls : List UInt8 := List.replicate 64 0
theorem nulls_len : nulls.length = 64 := by simp only [nulls, List.length_replicate]
theorem nulls_get (j : Nat) (h : j < 64) : nulls[j]? = some 0 := by rw [nulls, List.getElem?_replicate, if_pos h]

def DevS.made (now : List (List UInt8)) : DevS := ⟨now, fun _ => none, -1, false, 0, now.length⟩
def DevS.new (n : Nat) : DevS := DevS.made (List.replicate n nulls)

theorem DevS.Ok.made (now : List (List UInt8)) (h1 : 1 ≤ now.length) (h2 : now.length ≤ 16384) (h3 : ∀ r ∈ now, r.length = 64) : (DevS.made now).Ok := ⟨h1, h2, h3, fun i l e => (by cases e), by simp [DevS.made], by simp [DevS.made], by simp [DevS.made]⟩

set_option maxRecDepth 100000 in
set_option maxHeartbeats 400000 in
theorem made_any (w : World) (bn : Nat) (now : List (List UInt8)) (h1 : 1 ≤ now.length) (h2 : now.length ≤ 16384) (h3 : ∀ r ∈ now, r.length = 64) (hsr : SR w bn now) :
    Calls Tryd.prog 14 #[.slice (some ⟨bn, 0, none⟩) now.length now.length] w fun e w' => e = .returned (.pointer (some ⟨w.heap.size + 1, 0, none⟩)) ∧ Dev w' (w.heap.size + 1) bn w.heap.size (DevS.made now) ∧ Below w.heap.size w w' := by
  have hmm := @run_makeMap Tryd.prog
  have hfin : Dev ((w.alloc (.map #[] 0)).alloc (.cells #[.slice (some ⟨bn, 0, none⟩) now.length now.length, .map (some w.heap.size), .int .i64 (-1), .bool false, .int .i64 0] 58)) (w.heap.size + 1) bn w.heap.size (DevS.made now) := by
    have hl := hsr.lt
    refine ⟨DevS.Ok.made now h1 h2 h3, ?_, ?_, ?_⟩
    · have := heap_alloc_new (w.alloc (.map #[] 0)) (.cells #[.slice (some ⟨bn, 0, none⟩) now.length now.length, .map (some w.heap.size), .int .i64 (-1), .bool false, .int .i64 0] 58)
      simpa [DB, DevS.made] using this
    · exact (hsr.same (Below.heap_alloc w (.map #[] 0) bn hl)).same (Below.heap_alloc _ _ bn (by simp; omega))
    · exact (DM.made w 0).same (Below.heap_alloc _ _ _ (by simp))
  have hbe : Below w.heap.size w ((w.alloc (.map #[] 0)).alloc (.cells #[.slice (some ⟨bn, 0, none⟩) now.length now.length, .map (some w.heap.size), .int .i64 (-1), .bool false, .int .i64 0] 58)) := ((Below.refl _ w).alloc (Nat.le_refl _) _).alloc (by simp) _
  clear hsr h1 h3
  go_enter Tryd.func14, Tryd.ntmps14
  go_wp2
  go_ret
  exact ⟨by simp, hfin, hbe⟩

theorem made_secs {w : World} {base g n : Nat} {Zc : Array Value} (hZ : Zc = (bcs nulls).toArray) (h : w.ownsRow base 60 64 (.slice (some ⟨g, 0, none⟩) n n) n (madeCells Zc (n * 64)).toList) : SR w g (List.replicate n nulls) := by
  obtain ⟨h1, h2⟩ := h
  rcases h2 with ⟨h0, _⟩ | ⟨g', cap, cur, he, hb, hg, hl, hm, hs, ht⟩
  · cases h0
  · simp only [Value.slice.injEq, Option.some.injEq, Addr.mk.injEq, and_true, true_and] at he
    obtain ⟨rfl, rfl⟩ := he
    rw [List.take_of_length_le (by simp [hs])] at ht
    suffices key : cur.toList = bcs (List.replicate n nulls).flatten by
      refine ⟨cur, hg, fun j x hx => ?_⟩
      rw [← Array.getElem?_toList, key, bcs_get, hx]
      rfl
    rw [ht]
    apply List.ext_getElem?
    intro j
    have hr : ∀ r ∈ List.replicate n nulls, r.length = 64 := fun r h => by rw [(List.mem_replicate.1 h).2]; exact nulls_len
    have hm : j % 64 < 64 := by omega
    have hj : j = j / 64 * 64 + j % 64 := by omega
    have hZs : Zc.size = 64 := by rw [hZ, List.size_toArray, bcs_length, nulls_len]
    have hZg : Zc[j % 64]? = some (bc 0) := by rw [hZ, List.getElem?_toArray, bcs_get, nulls_get _ hm]; rfl
    rw [bcs_get]
    conv => rhs; rw [hj]
    rw [flat_get _ hr _ _ hm, List.getElem?_replicate]
    by_cases hjn : j < n * 64
    · have h1 : j / 64 < n := by omega
      rw [if_pos h1]
      simp only [Option.bind_some, nulls_get _ hm, Option.map_some]
      simp only [madeCells, hZs, Array.getElem?_toList, Array.getElem?_map, Array.getElem?_range, hjn, if_true, Option.map_some]
      rw [getElem!_def, hZg]
    · have h1 : ¬ j / 64 < n := by omega
      rw [if_neg h1]
      simp [madeCells, hjn]

set_option maxRecDepth 100000 in
set_option maxHeartbeats 400000 in
theorem can_any (n : Int) (w : World) : Calls Tryd.prog 13 #[.int .i64 n] w fun e w' => e = .returned (.bool (decide (1 ≤ n ∧ n ≤ 16384))) ∧ w' = w := by
  by_cases h : 1 ≤ n
  · go_enter Tryd.func13, Tryd.ntmps13
    go_wp2
    go_ret
    exact ⟨by simp [h], rfl⟩
  · have h' : n < 1 := by omega
    go_enter Tryd.func13, Tryd.ntmps13
    go_wp2
    go_ret
    exact ⟨by simp; omega, rfl⟩

set_option maxRecDepth 100000 in
set_option maxHeartbeats 400000 in
theorem new_bad (n : Int) (w : World) (h : ¬ (1 ≤ n ∧ n ≤ 16384)) : Calls Tryd.prog 4 #[.int .i64 n] w fun e w' => e = .returned (.tuple #[.pointer none, .int .i64 1]) ∧ w' = w := by
  have h1 := can_any n w
  rw [decide_eq_false h] at h1
  clear h
  go_enter Tryd.func4, Tryd.ntmps4
  go_wp2_with (go_at_call 13; refine h1.mono ?_; rintro e w1 ⟨rfl, rfl⟩)
  go_ret2
  exact ⟨rfl, rfl⟩

set_option maxRecDepth 10000 in
set_option maxRecDepth 100000 in
set_option maxHeartbeats 400000 in
theorem new_any (n : Nat) (w : World) (h0 : 1 ≤ n) (hn : n ≤ 16384) : Calls Tryd.prog 4 #[.int .i64 (n : Int)] w fun e w' => ∃ bd bn bm, e = .returned (.tuple #[.pointer (some ⟨bd, 0, none⟩), .int .i64 0]) ∧ Dev w' bd bn bm (DevS.new n) ∧ w.heap.size ≤ bd ∧ w.heap.size ≤ bn ∧ w.heap.size ≤ bm ∧ Below w.heap.size w w' := by
  have h1 := can_any n w
  rw [decide_eq_true (by omega)] at h1
  obtain ⟨i0, hi, hz0, hz1, hz2⟩ := info_parts i_secb
  obtain ⟨Zc, hZc⟩ : ∃ Zc, Zc = (bcs nulls).toArray := ⟨_, rfl⟩
  have hz0' : i0.zero = some (.agg Zc) := by rw [hZc]; exact hz0
  have hmade := fun (w2 : World) (g : Nat) (hs : SR w2 g (List.replicate n nulls)) => made_any w2 g _ (by simpa using h0) (by simpa using hn) (fun r h => by rw [(List.mem_replicate.1 h).2]; exact nulls_len) hs
  simp only [List.length_replicate] at hmade
  have hmk := fun (w2 : World) (base g : Nat) (h : w2.ownsRow base 60 64 (.slice (some ⟨g, 0, none⟩) n n) n (madeCells Zc (n * 64)).toList) => hmade w2 g (made_secs hZc h)
  have hby : i0.bytes * n ≤ 281474976710656 := by rw [hz2]; omega
  clear hz0 hZc hmade
  go_enter Tryd.func4, Tryd.ntmps4
  go_wp2_with (first
    | (go_at_call 13; refine h1.mono ?_; rintro e w1 ⟨rfl, rfl⟩)
    | (at_make; refine wpList_make_full _ rfl _ _ 41 rfl w1.heap.size 60 i0 (.agg Zc) 64 Tryd.underlying41 hi hz0' hz1 .i64 .i64 _ _ n rfl rfl rfl rfl hby (by unfold maxLen; omega) (Nat.le_refl _) ?_; intro w2 how hgr)
    | (go_at_call 14; refine (hmk _ _ _ how).mono ?_; rintro e w3 ⟨rfl, hd3, hb3⟩))
  go_ret2
  have hbe : Below w1.heap.size w1 w2 := (Below.refl _ _).grown hgr (Nat.le_refl _) (fun _ e => by cases e)
  have hsz := hbe.size
  exact ⟨_, _, _, rfl, hd3, by omega, Nat.le_refl _, hsz, hbe.trans (hb3.mono hsz)⟩

end Go.Proofs.YtnmjggljicanmaaDoor
