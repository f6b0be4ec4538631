/- What this text proves: the walk of merkle.Root over this program: the root over any digests. -/
import Derived.Test.YtichffdkihifpaaDoorKOver
import Derived.Test.YtichffdkihifpaaDoorCloneO
namespace Go.Proofs.YtichffdkihifpaaDoor
open Go.RowKit

/-- What is known of digests: each one. -/
def knR (ls : List (List UInt8)) (s b e : Nat) : Option (List UInt8) × Nat := (if b + 1 < e then none else some (ls.getD b []), s)

/-- The root over digests. -/
def rootF (size : Int) (ls : List (List UInt8)) : List UInt8 := if ls = [] then hashF size 0 [] else (ovF size (knR ls) 47 0 ls.length 0).1

/-- The box of the digests. -/
def RB (w0 : World) (lv : Value) (_ : Nat) (w : World) : Prop := Tabs w ∧ w.heap[w0.heap.size]? = some (.cells #[lv] 22 (0, 0)) ∧ Below w0.heap.size w0 w

theorem RB.later {w0 : World} {lv : Value} {s : Nat} {w w' : World} (h : RB w0 lv s w) (hb : Below w.heap.size w w') : RB w0 lv s w' := by
  have hlt : w0.heap.size < w.heap.size := (Array.getElem?_eq_some_iff.1 h.2.1).1
  refine ⟨h.1.later hb, ?_, h.2.2.trans (hb.mono (by omega))⟩
  rw [hb.block _ hlt]
  exact h.2.1

theorem eg_rootF : ∀ args w, (callFunc 31 args).run Tryd.prog w = .ok (.enter 31 args) w := by intro args w; go_simp

theorem getD_of {ls : List (List UInt8)} {i : Nat} {l : List UInt8} (h : Hid (ls[i]? = some l)) : ls.getD i [] = l := by
  have h' := h.out
  rw [List.getD_eq_getElem?_getD, h', Option.getD_some]

theorem PA.le {w : World} {v : Value} {ls : List (List UInt8)} (h : PA w v ls) : ls.length ≤ maxLen := by
  obtain ⟨p, c, rfl⟩ := h.shape
  have := h.len
  omega

set_option maxRecDepth 100000 in
set_option maxHeartbeats 1000000 in
theorem rootF_walk (w0 : World) (lv : Value) (ls : List (List UInt8)) (s b e : Nat) (w : World) (hp : PA w0 lv ls) (h : RB w0 lv s w) (hbe : b < e) (he : e ≤ ls.length) :
    Calls Tryd.prog 31 (#[.int .i64 (b : Int), .int .i64 (e : Int)] ++ #[.pointer (some ⟨w0.heap.size, 0, none⟩)]) w fun x w' => Only w0.heap.size w w' ∧ RB w0 lv (knR ls s b e).2 w' ∧ ((knR ls s b e).1 = none ∧ x = .returned (.tuple #[.slice none 0 0, .bool false]) ∨ ∃ l p c, (knR ls s b e).1 = some l ∧ x = .returned (.tuple #[.slice p l.length c, .bool true]) ∧ HBG w' w0.heap.size (.slice p l.length c) l) := by
  show Calls Tryd.prog 31 #[.int .i64 (b : Int), .int .i64 (e : Int), .pointer (some ⟨w0.heap.size, 0, none⟩)] w _
  have hmx := hp.le
  unfold maxLen at hmx
  by_cases hc : b + 1 < e
  · have h1 : knR ls s b e = (none, s) := by simp [knR, hc]
    rw [h1]
    have d1 : (1 : Int) < (e : Int) - (b : Int) := by omega
    have H : Hid (RB w0 lv s w) := h
    clear h hp h1
    go_enter Tryd.func31, Tryd.ntmps31
    go_wp2
    go_ret2
    exact ⟨Only.refl _ _, H.out, .inl ⟨by first | trivial | rfl, rfl⟩⟩
  · have h1 : knR ls s b e = (some (ls.getD b []), s) := by simp [knR, hc]
    rw [h1]
    obtain rfl : e = b + 1 := by omega
    have c0 : w.cell? ⟨w0.heap.size, 0, none⟩ = some lv := by rw [cell_of_row w _ _ _ _ _ h.2.1]; rfl
    obtain ⟨p, c, hv⟩ := hp.shape
    subst hv
    obtain ⟨bl, o, rfl⟩ := hp.addr (by omega)
    obtain ⟨q, k, l, hl, hc1, hh⟩ := hp.get b (by omega)
    have hG : HBG w w0.heap.size (.slice q l.length k) l := by
      have := HBG.old hh (Nat.le_refl _)
      exact ⟨hh.later h.2.2, this.2⟩
    have c1 := cell_later h.2.2 hc1
    rw [getD_of hl]
    have H : Hid (RB w0 (.slice (some ⟨bl, o, none⟩) ls.length c) s w) := h
    have HG : Hid (HBG w w0.heap.size (.slice q l.length k) l) := hG
    have d1 : (((b + 1 : Nat) : Int) - (b : Int)) = 1 := by omega
    have hlt : (b : Int) < (ls.length : Int) := by omega
    clear h hp h1 hc hG hh hl hc1 hbe
    go_enter Tryd.func31, Tryd.ntmps31
    go_wp2
    go_ret2
    exact ⟨Only.refl _ _, H.out, .inr ⟨l, q, k, rfl, rfl, HG.out⟩⟩

set_option maxRecDepth 100000 in
set_option maxHeartbeats 1000000 in
theorem root_none (size : Int) (v : Value) (w : World) (hp : PA w v []) (hT : Tabs w) :
    Calls Tryd.prog 10 #[.int .i64 size, v] w fun x w' => ∃ p c, x = .returned (.slice p (rootF size []).length c) ∧ HB w' (.slice p (rootF size []).length c) (rootF size []) ∧ Below w.heap.size w w' ∧ TB w' (.slice p (rootF size []).length c) := by
  obtain ⟨p, c, rfl⟩ := hp.shape
  have hb0 := (Below.refl w.heap.size w).alloc (Nat.le_refl _) (.cells #[.slice p 0 c] 22)
  have hH := hash_toT size 0 (.slice none 0 0) [] (w.alloc (.cells #[.slice p 0 c] 22)) (by simp) (by decide) (PA.nil _) (hT.later hb0)
  have hR : rootF size [] = hashF size 0 [] := by simp [rootF]
  rw [hR]
  generalize hashF size 0 [] = F at *
  have HB0 : Hid (Below w.heap.size w (w.alloc (.cells #[.slice p 0 c] 22))) := hb0
  clear hp hT hR hb0
  simp only [List.length_nil, Int.natCast_zero] at *
  go_enter Tryd.func10, Tryd.ntmps10
  go_wp2_with fail
  refine hH.mono ?_
  rintro x w1 ⟨p1, c1, rfl, k1, hb1, t1⟩
  clear hH
  have hb : Below w.heap.size w w1 := HB0.out.trans (hb1.mono HB0.out.size)
  clear HB0 hb1
  go_wp2
  go_ret
  exact ⟨p1, c1, rfl, k1, hb, t1⟩

theorem knR_one (ls : List (List UInt8)) (s b e : Nat) (h : e ≤ b + 1) : (knR ls s b e).1 ≠ none := by
  unfold knR
  rw [if_neg (by omega)]
  simp

theorem root_over (size : Int) (lv : Value) (ls : List (List UInt8)) (w0 w : World) (hp : PA w0 lv ls) (hn : ls ≠ []) (hbig : ls.length ≤ 140737488355328) (h : RB w0 lv 0 w) :
    Calls Tryd.prog 30 #[.int .i64 size, .int .i64 0, .int .i64 (ls.length : Int), .func (.func 31) #[] #[.pointer (some ⟨w0.heap.size, 0, none⟩)]] w fun x w' => ∃ p c, x = .returned (.slice p (rootF size ls).length c) ∧ HB w' (.slice p (rootF size ls).length c) (rootF size ls) ∧ Below w0.heap.size w0 w' := by
  have h0 : 0 < ls.length := List.length_pos_iff.2 hn
  have := over_any size 31 #[.pointer (some ⟨w0.heap.size, 0, none⟩)] eg_rootF w0.heap.size ls.length (RB w0 lv) (knR ls) (fun _ _ _ _ => True) (by omega) (fun _ _ _ _ _ _ _ _ _ => ⟨trivial, trivial⟩) (fun s w w' hr hb => hr.later hb) (fun s w hr => hr.1) (fun s w hr => ⟨_, _, _, hr.2.1, by decide⟩) (knR_one ls)
    (fun _ s b e w _ hr hbe he => rootF_walk w0 lv ls s b e w hp hr hbe he) 47 0 ls.length 0 w h0 (by omega) (Nat.le_refl _) trivial h
  have e : rootF size ls = (ovF size (knR ls) 47 0 ls.length 0).1 := by simp [rootF, hn]
  rw [e]
  refine this.mono ?_
  rintro x w' ⟨p, c, h1, h2, h3, h4⟩
  exact ⟨p, c, h1, h2.1, h4.2.2⟩

set_option maxRecDepth 100000 in
set_option maxHeartbeats 1000000 in
theorem root_some (size : Int) (v : Value) (ls : List (List UInt8)) (w : World) (hp : PA w v ls) (hT : Tabs w) (hn : ls ≠ []) (hbig : ls.length ≤ 140737488355328) (hlen : (rootF size ls).length ≤ 140737488355328) :
    Calls Tryd.prog 10 #[.int .i64 size, v] w fun x w' => ∃ p c, x = .returned (.slice p (rootF size ls).length c) ∧ HB w' (.slice p (rootF size ls).length c) (rootF size ls) ∧ Below w.heap.size w w' ∧ TB w' (.slice p (rootF size ls).length c) := by
  obtain ⟨p, c, rfl⟩ := hp.shape
  have hb0 := (Below.refl w.heap.size w).alloc (Nat.le_refl _) (.cells #[.slice p ls.length c] 22)
  have HR : Hid (RB w (.slice p ls.length c) 0 (w.alloc (.cells #[.slice p ls.length c] 22))) := ⟨hT.later hb0, heap_alloc_new w _, hb0⟩
  have hO := root_over size (.slice p ls.length c) ls w _ hp hn hbig HR.out
  have h0 : 0 < ls.length := List.length_pos_iff.2 hn
  have d0 : ((ls.length : Int) == 0) = false := by simp; omega
  clear hp hT hb0 HR hn
  generalize rootF size ls = F at *
  go_enter Tryd.func10, Tryd.ntmps10
  go_wp2_with fail
  refine hO.mono ?_
  rintro x w1 ⟨p1, c1, rfl, k1, hb1⟩
  clear hO
  have hC := clone_own (.slice p1 F.length c1) F w1 k1 hlen
  clear k1
  go_wp2_with fail
  refine hC.mono ?_
  rintro x w2 ⟨p2, c2, rfl, o2, hb2⟩
  have k2 := HB.of_owns o2
  have t2 := TB.of_owns o2
  clear o2
  have hb : Below w.heap.size w w2 := hb1.trans (hb2.mono hb1.size)
  clear hb1 hb2 hC
  go_wp2
  go_ret
  exact ⟨p2, c2, rfl, k2, hb, t2⟩

theorem root_any (size : Int) (v : Value) (ls : List (List UInt8)) (w : World) (hp : PA w v ls) (hT : Tabs w) (hbig : ls.length ≤ 140737488355328) (hlen : (rootF size ls).length ≤ 140737488355328) :
    Calls Tryd.prog 10 #[.int .i64 size, v] w fun x w' => ∃ p c, x = .returned (.slice p (rootF size ls).length c) ∧ HB w' (.slice p (rootF size ls).length c) (rootF size ls) ∧ Below w.heap.size w w' ∧ TB w' (.slice p (rootF size ls).length c) := by
  by_cases h : ls = []
  · subst h
    exact root_none size v w hp hT
  · exact root_some size v ls w hp hT h hbig hlen

end Go.Proofs.YtichffdkihifpaaDoor
