/- What this text proves: the walks of bytesOf and Read over this program. -/
import Derived.Test.YtnmjggljicanmaaDoorDNew
namespace Go.Proofs.YtnmjggljicanmaaDoor
open Go.RowKit Go.Maps

/-- A new block of bytes. -/
theorem HB.block {w : World} {g : Nat} {t : TypeId} {l : List UInt8} (h : w.heap[g]? = some (.cells (bcs l).toArray t (0, 0))) (hm : l.length ≤ maxLen) : HB w (.slice (some ⟨g, 0, none⟩) l.length l.length) l :=
  ⟨_, l.length, rfl, Nat.le_refl _, hm, (fun h => by cases h), fun _ => ⟨g, 0, rfl, fun i x hx => by
    rw [Nat.zero_add, cell_of_row _ _ i _ _ _ h]
    simp [bcs, hx]⟩⟩

set_option maxRecDepth 10000 in
set_option maxRecDepth 100000 in
set_option maxHeartbeats 400000 in
theorem bytesOf_any (w : World) (l : List UInt8) (hl : l.length = 64) : Calls Tryd.prog 27 #[secV l] w fun e w' => e = .returned (.slice (some ⟨w.heap.size, 0, none⟩) 64 64) ∧ w' = w.alloc (.cells (bcs l).toArray 60) := by
  obtain ⟨Z, hZ⟩ : ∃ Z, Z = (bcs l).toArray := ⟨_, rfl⟩
  have hZs : Z.size = 64 := by rw [hZ, List.size_toArray, bcs_length, hl]
  show Calls Tryd.prog 27 #[.agg (bcs l).toArray] w _
  rw [← hZ]
  clear hZ hl
  go_enter Tryd.func27, Tryd.ntmps27
  go_wp2
  go_ret
  exact ⟨rfl, rfl⟩

theorem load_sec (w : World) (b o : Nat) (cs : List Value) (hc : w.rangeAt b o cs) (hn : cs.length = 64) : (loadCellsFrom ⟨b, o, none⟩ 0 64 #[]).run Tryd.prog w = .ok cs.toArray w := by
  have := run_loadCells_list (P := Tryd.prog) w ⟨b, o, none⟩ cs (fun j v hv => by rw [Addr.add_mid]; exact hc j v hv)
  rw [hn] at this
  simpa [loadCells] using this

set_option maxRecDepth 100000 in
set_option maxHeartbeats 400000 in
theorem read_arg {bd bn bm : Nat} {s : DevS} {w : World} (h : Dev w bd bn bm s) (i : Int) (hbad : ¬ (0 ≤ i ∧ i < (s.now.length : Int))) : Calls Tryd.prog 15 #[.pointer (some ⟨bd, 0, none⟩), .int .i64 i] w fun e w' => e = .returned (.tuple #[.slice none 0 0, .int .i64 1]) ∧ w' = w := by
  have h1 := miss_no h
  have h2 := has_any h i
  rw [decide_eq_false hbad] at h2
  clear h hbad
  go_enter Tryd.func15, Tryd.ntmps15
  go_wp2_with (first
    | (go_at_call 26; refine h1.mono ?_; rintro e w1 ⟨rfl, rfl⟩)
    | (go_at_call 31; refine h2.mono ?_; rintro e w1 ⟨rfl, rfl⟩))
  go_ret2
  exact ⟨rfl, rfl⟩

set_option maxRecDepth 100000 in
set_option maxHeartbeats 400000 in
theorem read_dead {bd bn bm : Nat} {s : DevS} {w : World} (h : Dev w bd bn bm s) (i : Int) (hi : 0 ≤ i ∧ i < (s.now.length : Int)) (hd : s.dead = true) : Calls Tryd.prog 15 #[.pointer (some ⟨bd, 0, none⟩), .int .i64 i] w fun e w' => e = .returned (.tuple #[.slice none 0 0, .int .i64 70]) ∧ w' = w := by
  have h1 := miss_no h
  have h2 := has_any h i
  rw [decide_eq_true hi] at h2
  have c3 := h.db.cells.2.2.2.1
  rw [hd] at c3
  clear h hi hd
  go_enter Tryd.func15, Tryd.ntmps15
  go_wp2_with (first
    | (go_at_call 26; refine h1.mono ?_; rintro e w1 ⟨rfl, rfl⟩)
    | (go_at_call 31; refine h2.mono ?_; rintro e w1 ⟨rfl, rfl⟩))
  go_ret2
  exact ⟨rfl, rfl⟩

set_option maxRecDepth 10000 in
set_option maxRecDepth 100000 in
set_option maxHeartbeats 400000 in
theorem read_any {bd bn bm : Nat} {s : DevS} {w : World} (h : Dev w bd bn bm s) (i : Nat) (l : List UInt8) (hi : s.now[i]? = some l) (hd : s.dead = false) : Calls Tryd.prog 15 #[.pointer (some ⟨bd, 0, none⟩), .int .i64 (i : Int)] w fun e w' => e = .returned (.tuple #[.slice (some ⟨w.heap.size, 0, none⟩) 64 64, .int .i64 0]) ∧ w' = w.alloc (.cells (bcs l).toArray 60) := by
  have hlt : i < s.now.length := (List.getElem?_eq_some_iff.1 hi).1
  have hm := h.ok.most
  have h1 := miss_no h
  have h2 := has_any h (i : Int)
  rw [decide_eq_true (by omega)] at h2
  obtain ⟨c0, c1, c2, c3, c4⟩ := h.db.cells
  rw [hd] at c3
  have hl : l.length = 64 := h.ok.rows l (List.mem_of_getElem? hi)
  have hR := h.sr.range h.ok.rows i l hi
  have hb := bytesOf_any w l hl
  unfold secV at hb
  have hi0 : (0 : Int) ≤ (i : Int) := Int.natCast_nonneg _
  have hi1 : (i : Int) < (s.now.length : Int) := by omega
  have hsz : (Tryd.prog.info? 60).map (·.size) = some (bcs l).length := by rw [bcs_length, hl]; exact s_sec
  have hu := Tryd.underlying60
  generalize bcs l = CS at *
  generalize s.now.length = N at *
  clear h hi hl
  go_enter Tryd.func15, Tryd.ntmps15
  go_wp2_with (first
    | (go_at_call 26; refine h1.mono ?_; rintro e w1 ⟨rfl, rfl⟩)
    | (go_at_call 31; refine h2.mono ?_; rintro e w1 ⟨rfl, rfl⟩)
    | (refine wpList_load_mid rfl 60 _ rfl bn (i * 64) rfl CS _ hR hu rfl hsz ?_)
    | (go_at_call 27; refine hb.mono ?_; rintro e w2 ⟨rfl, rfl⟩))
  go_ret2
  exact ⟨rfl, rfl⟩

end Go.Proofs.YtnmjggljicanmaaDoor
