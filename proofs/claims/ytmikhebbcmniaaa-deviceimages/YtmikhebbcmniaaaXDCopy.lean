/- What this text proves: the walks of slices.Clone of sectors, of maps.Clone of a device's map, and of a device's Copy over this program. -/
import Derived.Test.YtmikhebbcmniaaaDRead
import Derived.Test.YtmikhebbcmniaaaDStays
import Derived.Test.YtmikhebbcmniaaaXDWrite
import Derived.Shelf.SlMaps.Clone
namespace Go.Proofs.Ytmikhebbcmniaaa
open Go.RowKit

set_option maxRecDepth 100000 in
set_option maxHeartbeats 1600000 in
theorem secclone_any {w : World} {bn c : Nat} {now : List (List UInt8)} (h : SR w bn now) (h3 : ∀ r ∈ now, r.length = 64) (h1 : 1 ≤ now.length) (h2 : now.length ≤ 16384) :
    Calls Try.prog 43 #[.slice (some ⟨bn, 0, none⟩) now.length c] w fun e w' => ∃ g c', e = .returned (.slice (some ⟨g, 0, none⟩) now.length c') ∧ SR w' g now ∧ w.heap.size ≤ g ∧ Below w.heap.size w w' := by
  have q22 : ∀ (w : World) (a : Option Addr) (n c n' c' : Nat), (binOp .eql 62 (.slice a n c) (.slice none n' c')).run Try.prog w = .ok (.bool a.isNone) w := fun w a n c n' c' => Lib.run_eql_slice_nil w _ _ a n c n' c' Try.underlying62
  obtain ⟨i0, hi0, hz0, hz1, hz2⟩ := info_parts i_secb
  have hfl := flat_len now h3
  have bA := (Below.refl w.heap.size w).alloc (Nat.le_refl _) (.cells #[] 76)
  have hA := h.same (Below.heap_alloc w (.cells #[] 76) bn h.lt)
  have hnews : ∀ (j : Nat) u, (bcs now.flatten)[j]? = some u → (w.alloc (.cells #[] 76)).cell? ((⟨bn, 0, none⟩ : Addr).add j) = some u := by
    intro j u hu
    rw [bcs_get] at hu
    obtain ⟨x, hx, rfl⟩ := Option.map_eq_some_iff.1 hu
    have e : (⟨bn, 0, none⟩ : Addr).add j = ⟨bn, j, none⟩ := by unfold Addr.add; split <;> simp_all
    rw [e]
    exact hA.cell j x hx
  have hone := bcs_one now.flatten
  have hlen : (bcs now.flatten).length = now.length * 64 := by rw [bcs_length, hfl]
  have how : (w.alloc (.cells #[] 76)).ownsRow w.heap.size 76 64 (.slice (some ⟨w.heap.size, 0, none⟩) 0 0) 0 [] := ⟨rfl, .inr ⟨w.heap.size, 0, #[], rfl, Nat.le_refl _, heap_alloc_new w _, Nat.zero_le _, Nat.zero_le _, rfl, rfl⟩⟩
  have hfin : ∀ v' w', w'.ownsRow w.heap.size 76 64 v' (0 + now.length) ([] ++ bcs now.flatten) → (w.alloc (.cells #[] 76)).grownBy w' (some w.heap.size) → ∃ g c', v' = .slice (some ⟨g, 0, none⟩) now.length c' ∧ SR w' g now ∧ w.heap.size ≤ g ∧ Below w.heap.size w w' := by
    intro v' w' ho hg
    have hbe : Below w.heap.size w w' := bA.grown hg (by simp) (fun k e => by cases e; exact Nat.le_refl _)
    obtain ⟨_, q⟩ := ho
    rcases q with ⟨_, h0⟩ | ⟨g, cap, cur, rfl, hb, hgg, hle, hm, hs, ht⟩
    · omega
    · refine ⟨g, cap, by simp, ⟨cur, hgg, fun j x hx => ?_⟩, hb, hbe⟩
      have hj : j < now.length * 64 := by rw [← hfl]; exact (List.getElem?_eq_some_iff.1 hx).1
      have e1 : (bcs now.flatten)[j]? = some (bc x) := by rw [bcs_get, hx]; rfl
      rw [List.nil_append] at ht
      rw [← ht, List.getElem?_take, if_pos (by omega)] at e1
      simpa using e1
  have hzc : (Value.agg (bcs (List.replicate 64 0)).toArray).cells.size = 64 := by simp [Value.cells, bcs]
  generalize (Value.agg (bcs (List.replicate 64 0)).toArray) = ZV at *
  generalize bcs now.flatten = CS at *
  clear hA bA hfl h h3
  go_enter Try.func43, Try.ntmps43
  go_wp2_with (first
    | (at_builtin; refine wpList_append_own _ rfl _ _ 62 rfl w.heap.size 76 i0 ZV 64 64 Try.underlying62 hi0 hz0 hz1 hz2 hzc (by decide) _ _ _ rfl how ⟨bn, 0, none⟩ now.length c CS rfl hlen hnews hone (by unfold maxLen; omega) (by omega) (by simp) ?_; intro v' w3 ow gr _; obtain ⟨g, c', rfl, r1, r2, r3⟩ := hfin v' w3 ow gr))
  clear hfin ow gr how hnews hone hlen
  go_wp2
  go_ret
  exact ⟨g, c', rfl, r1, r2, r3⟩

set_option maxRecDepth 100000 in
set_option maxHeartbeats 1600000 in
theorem mapclone_any {w : World} {bm : Nat} {es : Array MapEntry} {clock : Nat} (hb : w.heap[bm]? = some (.map es clock)) :
    Calls Try.prog 44 #[.map (some bm)] w fun e w' => e = .returned (.map (some w.heap.size)) ∧ w' = w.alloc (.map es clock) := by
  have hq := fun w => run_eql_map_nil_sl (P := Try.prog) w 63 _ _ (some bm) Try.underlying63
  have hl := (Array.getElem?_eq_some_iff.1 hb).1
  go_enter Try.func44, Try.ntmps44
  go_wp2
  rw [run_callFunc_extern Try.func53 (by kernel_rfl) (by kernel_rfl) (by kernel_rfl) (e := Extern.MapsClone.clone) (by kernel_rfl), run_maps_clone_sl w 63 hb]
  simp only [Result.andThen]
  rw [Oper.upon_value]
  go_wp2
  rw [run_typeAssert_map_sl _ 63 _ _ _ _ Try.underlying63]
  simp only [Result.andThen]
  rw [Oper.upon_value]
  go_wp2
  go_ret
  exact ⟨rfl, rfl⟩

/-- The same device, with another room. -/
def DevS.room (s : DevS) (c : Nat) : DevS := { s with cap := c }
theorem room_ok {s : DevS} (h : s.Ok) (c : Nat) : (s.room c).Ok := ⟨h.pos, h.most, h.rows, h.olds, h.fuse0, h.fuse1, h.chs⟩

set_option maxRecDepth 100000 in
set_option maxHeartbeats 1600000 in
theorem copy_any {bd bn bm : Nat} {s : DevS} {w : World} (h : Dev w bd bn bm s) : Calls Try.prog 19 #[.pointer (some ⟨bd, 0, none⟩)] w fun e w' => ∃ gd gn gm cp, e = .returned (.pointer (some ⟨gd, 0, none⟩)) ∧ Dev w' gd gn gm (s.room cp) ∧ w.heap.size ≤ gd ∧ w.heap.size ≤ gn ∧ w.heap.size ≤ gm ∧ Below w.heap.size w w' := by
  have h1 := miss_no h
  obtain ⟨c0, c1, c2, c3, c4⟩ := h.db.cells
  have bA := (Below.refl w.heap.size w).alloc (Nat.le_refl _) (.cells #[.slice (some ⟨bn, 0, none⟩) s.now.length s.cap, .map (some bm), .int .i64 s.fuse, .bool s.dead, .int .i64 (s.ch : Int)] 65)
  have gA := heap_alloc_new w (.cells #[.slice (some ⟨bn, 0, none⟩) s.now.length s.cap, .map (some bm), .int .i64 s.fuse, .bool s.dead, .int .i64 (s.ch : Int)] 65)
  have hlb := h.db.lt
  have hgc : w.heap.size < (w.alloc (.cells #[.slice (some ⟨bn, 0, none⟩) s.now.length s.cap, .map (some bm), .int .i64 s.fuse, .bool s.dead, .int .i64 (s.ch : Int)] 65)).heap.size := by simp
  generalize hWA : w.alloc (.cells #[.slice (some ⟨bn, 0, none⟩) s.now.length s.cap, .map (some bm), .int .i64 s.fuse, .bool s.dead, .int .i64 (s.ch : Int)] 65) = WA at *
  have bD : Below w.heap.size w WA.drew := bA.drew
  have gD : WA.drew.heap[w.heap.size]? = some (.cells #[.slice (some ⟨bn, 0, none⟩) s.now.length s.cap, .map (some bm), .int .i64 s.fuse, .bool s.dead, .int .i64 (s.ch : Int)] 65 (0, 0)) := gA
  have hD := h.later bD
  have hSC := secclone_any (c := s.cap) hD.sr h.ok.rows h.ok.pos h.ok.most
  obtain ⟨d0, d1, _⟩ := hD.db.cells
  have hst : ∀ w1 g c', SR w1 g s.now → WA.drew.heap.size ≤ g → Below WA.drew.heap.size WA.drew w1 → ∃ es clock, w1.heap[bm]? = some (.map es clock) ∧
      (∀ w2, w2 = w1.alloc (.map es clock) → (w2.cell? ⟨bd, 0, none⟩ = some (.slice (some ⟨bn, 0, none⟩) s.now.length s.cap) ∧ w2.cell? ⟨bd, 1, none⟩ = some (.map (some bm))) ∧ w2.cell? ⟨w.heap.size, 0, none⟩ = some (.slice (some ⟨bn, 0, none⟩) s.now.length s.cap) ∧ w2.frozen? ⟨w.heap.size, 0, none⟩ = false ∧
        ((w2.setCell ⟨w.heap.size, 0, none⟩ (.slice (some ⟨g, 0, none⟩) s.now.length c')).cell? ⟨bd, 0, none⟩ = some (.slice (some ⟨bn, 0, none⟩) s.now.length s.cap) ∧ (w2.setCell ⟨w.heap.size, 0, none⟩ (.slice (some ⟨g, 0, none⟩) s.now.length c')).cell? ⟨bd, 1, none⟩ = some (.map (some bm))) ∧
        (w2.setCell ⟨w.heap.size, 0, none⟩ (.slice (some ⟨g, 0, none⟩) s.now.length c')).cell? ⟨w.heap.size, 1, none⟩ = some (.map (some bm)) ∧ (w2.setCell ⟨w.heap.size, 0, none⟩ (.slice (some ⟨g, 0, none⟩) s.now.length c')).frozen? ⟨w.heap.size, 1, none⟩ = false ∧
        (((w2.setCell ⟨w.heap.size, 0, none⟩ (.slice (some ⟨g, 0, none⟩) s.now.length c')).setCell ⟨w.heap.size, 1, none⟩ (.map (some w1.heap.size))).cell? ⟨bd, 0, none⟩ = some (.slice (some ⟨bn, 0, none⟩) s.now.length s.cap) ∧ ((w2.setCell ⟨w.heap.size, 0, none⟩ (.slice (some ⟨g, 0, none⟩) s.now.length c')).setCell ⟨w.heap.size, 1, none⟩ (.map (some w1.heap.size))).cell? ⟨bd, 1, none⟩ = some (.map (some bm))) ∧
        Dev ((w2.setCell ⟨w.heap.size, 0, none⟩ (.slice (some ⟨g, 0, none⟩) s.now.length c')).setCell ⟨w.heap.size, 1, none⟩ (.map (some w1.heap.size))) w.heap.size g w1.heap.size (s.room c') ∧ w.heap.size ≤ g ∧ w.heap.size ≤ w1.heap.size ∧ Below w.heap.size w ((w2.setCell ⟨w.heap.size, 0, none⟩ (.slice (some ⟨g, 0, none⟩) s.now.length c')).setCell ⟨w.heap.size, 1, none⟩ (.map (some w1.heap.size)))) := by
    intro w1 g c' hsr hg b1
    have h1' := hD.later b1
    obtain ⟨D, ⟨es, clock, hm, hF, hsz, hDD⟩, hmi⟩ := h1'.dm
    have hsA : w.heap.size < WA.drew.heap.size := hgc
    refine ⟨es, clock, hm, ?_⟩
    rintro w2 rfl
    have bM := (Below.refl w1.heap.size w1).alloc (Nat.le_refl _) (.map es clock)
    have h2 := h1'.later bM
    obtain ⟨e0, e1, _⟩ := h2.db.cells
    have gc1 := (b1.block _ hsA).trans gD
    have hs1 : w.heap.size < w1.heap.size := Nat.lt_of_lt_of_le hsA b1.size
    have gc2 := (bM.block _ hs1).trans gc1
    have nb : bd ≠ w.heap.size := by omega
    have gc3 := heap_setCell_same _ _ 0 _ _ (.slice (some ⟨g, 0, none⟩) s.now.length c') gc2
    have gc4 := heap_setCell_same _ _ 1 _ _ (.map (some w1.heap.size)) gc3
    have hsr2 := hsr.same (bM.block _ hsr.lt)
    have f0 := (cell_put_ne (w1.alloc (.map es clock)) w.heap.size bd 0 0 (.slice (some ⟨g, 0, none⟩) s.now.length c') nb).trans e0
    have f1 := (cell_put_ne (w1.alloc (.map es clock)) w.heap.size bd 0 1 (.slice (some ⟨g, 0, none⟩) s.now.length c') nb).trans e1
    have hbAll : Below w.heap.size w (w1.alloc (.map es clock)) := (bD.trans (b1.mono (Nat.le_of_lt hsA))).trans (bM.mono (Nat.le_of_lt hs1))
    have hgw : g ≠ w.heap.size := by omega
    refine ⟨⟨e0, e1⟩, by rw [cell_of_row _ _ 0 _ _ _ gc2]; rfl, by simp [World.frozen?, gc2], ⟨f0, f1⟩, by rw [cell_of_row _ _ 1 _ _ _ gc3]; rfl, by simp [World.frozen?, gc3], ⟨(cell_put_ne _ w.heap.size bd 1 0 (.map (some w1.heap.size)) nb).trans f0, (cell_put_ne _ w.heap.size bd 1 1 (.map (some w1.heap.size)) nb).trans f1⟩, ⟨room_ok h.ok c', gc4, ?_, ?_⟩, by omega, by omega, (hbAll.setCell (Nat.le_refl _) _).setCell (Nat.le_refl _) _⟩
    · exact (hsr2.same (heap_setCell_other _ _ _ _ hgw)).same (heap_setCell_other _ _ _ _ hgw)
    · have hdm : DM (w1.alloc (.map es clock)) w1.heap.size s.ch s.old := ⟨D, ⟨es, clock, heap_alloc_new w1 _, hF, hsz, hDD⟩, hmi⟩
      exact (hdm.same (heap_setCell_other _ _ _ _ (by simp; omega))).same (heap_setCell_other _ _ _ _ (by simp; omega))
  clear gD hD h bA gA
  go_enter Try.func19, Try.ntmps19
  go_wp2_with (first | (go_at_call 40; refine h1.mono ?_; rintro e w1 ⟨rfl, hw⟩; have hw2 := hw.symm; clear hw; subst hw2))
  have hS0 : WA.drew.cell? ⟨bd, 0, none⟩ = some (.slice (some ⟨bn, 0, none⟩) s.now.length s.cap) ∧ WA.drew.cell? ⟨bd, 1, none⟩ = some (.map (some bm)) := ⟨d0, d1⟩
  go_region_held3 (fun W => W.cell? ⟨bd, 0, none⟩ = some (.slice (some ⟨bn, 0, none⟩) s.now.length s.cap) ∧ W.cell? ⟨bd, 1, none⟩ = some (.map (some bm))) (first | with_reducible exact hS0 | with_reducible exact hS1 | with_reducible exact hS2 | with_reducible exact hS3 | with_reducible exact hS4 | fail) (first
    | (go_at_call 43; refine hSC.mono ?_; rintro e w1 ⟨g, c', rfl, r1, r2, r3⟩; obtain ⟨es, clock, hm, hall⟩ := hst w1 g c' r1 r2 r3; have hS1 : w1.cell? ⟨bd, 0, none⟩ = some (.slice (some ⟨bn, 0, none⟩) s.now.length s.cap) ∧ w1.cell? ⟨bd, 1, none⟩ = some (.map (some bm)) := ⟨cell_later r3 d0, cell_later r3 d1⟩; have hMC := mapclone_any hm; clear hst)
    | (go_at_call 44; refine hMC.mono ?_; rintro e w2 ⟨rfl, hw2⟩; obtain ⟨hS2, k0, kf0, hS3, k1, kf1, hS4, hdv, q1, q2, q3⟩ := hall w2 hw2; clear hall hw2))
  clear hSC hMC hS0 hS1 hS2 hS3 hS4
  go_wp2
  go_ret
  exact ⟨_, g, _, c', rfl, hdv, Nat.le_refl _, q1, q2, q3⟩

end Go.Proofs.Ytmikhebbcmniaaa
