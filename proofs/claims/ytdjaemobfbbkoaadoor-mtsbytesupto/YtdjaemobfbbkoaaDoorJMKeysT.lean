/- What this text proves: the walks of mts.tree, mts.can, mts.missing, mts.New and mts.Public over this program: keys, their tree, and the public key. -/
import Derived.Test.YtdjaemobfbbkoaaDoorJMTreeF
import Derived.Test.YtdjaemobfbbkoaaDoorJClone
namespace Go.Proofs.YtdjaemobfbbkoaaDoor
open Go.RowKit

theorem TL.mono {w : World} {base base' n h m : Nat} {seed : List UInt8} {v : Value} (t : TL w base n h seed v m) (hb : base' ≤ base) : TL w base' n h seed v m := by
  obtain ⟨vs, h1, h2⟩ := t
  exact ⟨vs, owns_mono h1 hb, fun j u hu => (h2 j u hu).mono hb⟩

/-- Keys that New made: its numbers, its seed, and whether the tree is there. -/
def KW (w : World) (g n h : Nat) (seed : List UInt8) (d : Int) (lv : Value) : Prop :=
  ∃ p c, KO w g n h (.slice p seed.length c) d 0 lv ∧ HB w (.slice p seed.length c) seed ∧ TB w (.slice p seed.length c)

theorem KW.later {w w' : World} {g n h : Nat} {seed : List UInt8} {d : Int} {lv : Value} (k : KW w g n h seed d lv) (hb : Below w.heap.size w w') : KW w' g n h seed d lv := by
  obtain ⟨p, c, h1, h2, h3⟩ := k
  exact ⟨p, c, h1.later hb, h2.later hb, h3.later hb⟩

set_option maxRecDepth 100000 in
set_option maxHeartbeats 4000000 in
theorem tree_first (g n h : Nat) (seed : List UInt8) (lv0 : Value) (w : World) (k : KW w g n h seed 0 lv0) (hg1 : 1 < g) (hsl : seed.length ≤ 64) (hn : 1 ≤ n) (hn2 : n ≤ 32) (hh : h ≤ 8) (hT : Tabs w) :
    Calls Tryd.prog 25 #[.pointer (some ⟨g, 0, none⟩)] w fun e w' => ∃ lv, e = .returned lv ∧ KW w' g n h seed 1 lv ∧ TL w' w.heap.size n h seed lv (h + 1) ∧ Only g w w' := by
  obtain ⟨p, c, k, hs, ts⟩ := k
  have hgl := k.lt
  have bA := (Below.refl _ w).alloc (Nat.le_refl _) (.cells #[.pointer (some ⟨g, 0, none⟩)] 23)
  have kA := k.later bA
  have hpA : (w.alloc (.cells #[.pointer (some ⟨g, 0, none⟩)] 23)).cell? ⟨w.heap.size, 0, none⟩ = some (.pointer (some ⟨g, 0, none⟩)) := cell_box w _ _
  have hsA := hs.later bA
  have tsA := ts.later bA
  have TA := hT.later bA
  have OA : Only g w (w.alloc (.cells #[.pointer (some ⟨g, 0, none⟩)] 23)) := Only.of_below bA (by omega)
  have hszA : (w.alloc (.cells #[.pointer (some ⟨g, 0, none⟩)] 23)).heap.size = w.heap.size + 1 := by simp
  -- the world in which the function is called: the lock is held
  have OL := (Only.refl g (w.alloc (.cells #[.pointer (some ⟨g, 0, none⟩)] 23))).setCell 4 (.int .i32 1)
  have kL := kA.put4 1
  have hsL := (hb_only kA OL hsA tsA)
  have TL' := TA.only OL hg1
  have hpL := (World.cell?_of_block (w' := (w.alloc (.cells #[.pointer (some ⟨g, 0, none⟩)] 23)).setCell ⟨g, 4, none⟩ (.int .i32 1)) (OL.block w.heap.size (by omega) (cell_lt hpA))).trans hpA
  have hf := treef_any n h g w.heap.size p c seed lv0 _ kL hsL.1 hpL (by omega) hg1 hsl hn hn2 hh TL'
  have hD := do_first g n h (.slice p seed.length c) lv0 ⟨w.heap.size, 0, none⟩ (fun lv w2 => TL w2 ((w.alloc (.cells #[.pointer (some ⟨g, 0, none⟩)] 23)).setCell ⟨g, 4, none⟩ (.int .i32 1)).heap.size n h seed lv (h + 1) ∧ Only g ((w.alloc (.cells #[.pointer (some ⟨g, 0, none⟩)] 23)).setCell ⟨g, 4, none⟩ (.int .i32 1)) w2) _ kA hf
  have hszL := OL.size
  have O0L := OA.trans OL
  clear hf kL
  generalize (w.alloc (.cells #[.pointer (some ⟨g, 0, none⟩)] 23)).setCell ⟨g, 4, none⟩ (.int .i32 1) = wL at *
  have hmf : ∀ (fn : Fn) (first cap : Array Value) (w : World), (Instr.makeFunc fn first cap).run Tryd.prog w = .ok (.func fn first cap) w := fun _ _ _ _ => rfl
  go_enter Tryd.func25, Tryd.ntmps25
  go_wp2_with fail
  refine hD.mono ?_
  rintro e w' ⟨rfl, lv, w2, k2, ⟨t2, O2⟩, hw'⟩
  have k3 := k2.drew.put3 1
  have k4 := k3.put4 0
  have O3 : Only g w2 ((w2.drew.setCell ⟨g, 3, none⟩ (.int .u32 1)).setCell ⟨g, 4, none⟩ (.int .i32 0)) := ((Only.of_below ((Below.refl _ w2).drew) (by have := k2.lt; omega)).setCell 3 _).setCell 4 _
  rw [← hw'] at k4 O3
  clear hw' k3
  have t4 := t2.only k2 O3 (by omega)
  have O4 := (O0L.trans O2).trans O3
  have s2 := hb_only k (O0L.trans (O2.trans O3)) hs ts
  have hp4 := (World.cell?_of_block (w' := w') ((O2.trans O3).block w.heap.size (by omega) (cell_lt hpL))).trans hpL
  have c6 := k4.c6
  clear hD kA hpA hsA tsA TA OA OL hsL TL' bA t2 k2 O2 O3
  go_wp2
  go_ret
  exact ⟨lv, rfl, ⟨p, c, k4, s2.1, s2.2⟩, t4.mono (by omega), O4⟩

set_option maxRecDepth 100000 in
set_option maxHeartbeats 1000000 in
theorem tree_done (g n h : Nat) (seed : List UInt8) (lv : Value) (w : World) (k : KW w g n h seed 1 lv) :
    Calls Tryd.prog 25 #[.pointer (some ⟨g, 0, none⟩)] w fun e w' => e = .returned lv ∧ Below w.heap.size w w' := by
  obtain ⟨p, c, k, hs, ts⟩ := k
  have bA := (Below.refl _ w).alloc (Nat.le_refl _) (.cells #[.pointer (some ⟨g, 0, none⟩)] 23)
  have kA := k.later bA
  have hpA : (w.alloc (.cells #[.pointer (some ⟨g, 0, none⟩)] 23)).cell? ⟨w.heap.size, 0, none⟩ = some (.pointer (some ⟨g, 0, none⟩)) := cell_box w _ _
  have c6 := kA.c6
  have hD := fun fv => do_done ⟨g, 3, none⟩ 1 (by decide) fv _ kA.c3
  have hmf : ∀ (fn : Fn) (first cap : Array Value) (w : World), (Instr.makeFunc fn first cap).run Tryd.prog w = .ok (.func fn first cap) w := fun _ _ _ _ => rfl
  go_enter Tryd.func25, Tryd.ntmps25
  go_wp2_with fail
  refine (hD _).mono ?_
  rintro e w' ⟨rfl, hw'⟩
  subst hw'
  go_wp2
  go_ret
  exact ⟨rfl, bA⟩

/-- Whether there are digests of that size, and a tree of that height. -/
def mcanB (size height : Int) : Bool := decide (1 ≤ size ∧ size ≤ 32 ∧ 0 ≤ height ∧ height ≤ 8)

set_option maxRecDepth 100000 in
set_option maxHeartbeats 400000 in
theorem mcan_any (size height : Int) (w : World) :
    Calls Tryd.prog 27 #[.int .i64 size, .int .i64 height] w fun e w' => e = .returned (.bool (mcanB size height)) ∧ w' = w := by
  obtain ⟨B, hB⟩ : ∃ B, B = mcanB size height := ⟨_, rfl⟩
  rw [← hB]
  have hBt : 1 ≤ size → size ≤ 32 → 0 ≤ height → height ≤ 8 → B = true := by
    intros; rw [hB]; simp [mcanB]; omega
  have hBf : ¬ (1 ≤ size ∧ size ≤ 32 ∧ 0 ≤ height ∧ height ≤ 8) → B = false := by
    intro h; rw [hB]; simp only [mcanB, decide_eq_false_iff_not]; exact h
  clear hB
  go_enter Tryd.func27, Tryd.ntmps27
  by_cases h1 : 1 ≤ size
  · by_cases h2 : size ≤ 32
    · by_cases h3 : 0 ≤ height
      · by_cases h4 : height ≤ 8
        · obtain rfl := hBt h1 h2 h3 h4
          clear hBt hBf
          go_wp2
          go_ret
          exact ⟨rfl, rfl⟩
        · obtain rfl := hBf (by omega)
          clear hBt hBf
          go_wp2
          go_ret
          exact ⟨rfl, rfl⟩
      · obtain rfl := hBf (by omega)
        clear hBt hBf
        go_wp2
        go_ret
        exact ⟨rfl, rfl⟩
    · obtain rfl := hBf (by omega)
      clear hBt hBf
      go_wp2
      go_ret
      exact ⟨rfl, rfl⟩
  · obtain rfl := hBf (by omega)
    clear hBt hBf
    go_wp2
    go_ret
    exact ⟨rfl, rfl⟩

set_option maxRecDepth 100000 in
set_option maxHeartbeats 1000000 in
theorem missing_made (g : Nat) (n : Int) (w : World) (c0 : w.cell? ⟨g, 0, none⟩ = some (.int .i64 n)) (hn : n ≠ 0) :
    Calls Tryd.prog 21 #[.pointer (some ⟨g, 0, none⟩)] w fun e w' => e = .returned (.bool false) ∧ w' = w := by
  have hn2 : (n == 0) = false := by simpa using hn
  go_enter Tryd.func21, Tryd.ntmps21
  go_wp2
  go_ret
  exact ⟨rfl, rfl⟩

set_option maxRecDepth 100000 in
set_option maxHeartbeats 1000000 in
theorem missing_none (g : Nat) (w : World) (c0 : w.cell? ⟨g, 0, none⟩ = some (.int .i64 0)) :
    Calls Tryd.prog 21 #[.pointer (some ⟨g, 0, none⟩)] w fun e w' => e = .returned (.bool true) ∧ w' = w := by
  go_enter Tryd.func21, Tryd.ntmps21
  go_wp2
  go_ret
  exact ⟨rfl, rfl⟩

theorem missing_nil (w : World) :
    Calls Tryd.prog 21 #[.pointer none] w fun e w' => e = .returned (.bool true) ∧ w' = w := by
  go_enter Tryd.func21, Tryd.ntmps21
  go_wp2
  go_ret
  exact ⟨rfl, rfl⟩

set_option maxRecDepth 100000 in
set_option maxHeartbeats 2000000 in
theorem new_ok (n h : Nat) (v : Value) (seed : List UInt8) (w : World) (hv : HB w v seed) (hs : seed.length ≤ 64) (hn : 1 ≤ n) (hn2 : n ≤ 32) (hh : h ≤ 8) :
    Calls Tryd.prog 14 #[.int .i64 (n : Int), v, .int .i64 (h : Int)] w fun e w' => ∃ g, e = .returned (.tuple #[.pointer (some ⟨g, 0, none⟩), .int .i64 0]) ∧ w.heap.size ≤ g ∧ KW w' g n h seed 0 (.slice none 0 0) ∧ Below w.heap.size w w' := by
  obtain ⟨p, c, rfl⟩ := hv.shape
  have hc : mcanB n h = true := by simp [mcanB]; omega
  have hC := fun w' => mcan_any n h w'
  rw [hc] at hC
  have hs2 : (seed.length : Int) ≤ 64 := by omega
  have hCl := fun w' h' => clone_own (.slice p seed.length c) seed w' h' (by omega)
  clear hc
  go_enter Tryd.func14, Tryd.ntmps14
  go_wp2_with fail
  refine (hC _).mono ?_
  rintro e w1 ⟨rfl, hw1⟩
  have hw2 := hw1.symm
  clear hw1
  subst hw2
  go_wp2_with fail
  refine (hCl _ hv).mono ?_
  rintro e w1 ⟨p1, c1, rfl, o1, hb1⟩
  have h1 := HB.of_owns o1
  have t1 := TB.of_owns o1
  clear hC hCl
  go_wp2
  go_ret2
  exact ⟨w1.heap.size, rfl, hb1.size, ⟨p1, c1, heap_alloc_new w1 _, h1.later ((Below.refl _ w1).alloc (Nat.le_refl _) _), t1.later ((Below.refl _ w1).alloc (Nat.le_refl _) _)⟩, hb1.alloc hb1.size _⟩

set_option maxRecDepth 100000 in
set_option maxHeartbeats 1000000 in
theorem new_err (size height : Int) (v : Value) (seed : List UInt8) (w : World) (hv : HB w v seed) (hbad : mcanB size height = false ∨ 64 < seed.length) :
    Calls Tryd.prog 14 #[.int .i64 size, v, .int .i64 height] w fun e w' => e = .returned (.tuple #[.pointer none, .int .i64 1]) ∧ w' = w := by
  have hm := hv.len_le
  unfold maxLen at hm
  obtain ⟨p, c, rfl⟩ := hv.shape
  have hC := fun w' => mcan_any size height w'
  cases hb : mcanB size height with
  | false =>
    rw [hb] at hC
    clear hbad
    go_enter Tryd.func14, Tryd.ntmps14
    go_wp2_with fail
    refine (hC _).mono ?_
    rintro e w1 ⟨rfl, hw1⟩
    subst hw1
    go_wp2
    go_ret2
    exact ⟨rfl, rfl⟩
  | true =>
    rw [hb] at hC
    have hs : 64 < seed.length := by rcases hbad with h | h; rw [hb] at h; cases h; exact h
    have hs2 : 64 < (seed.length : Int) := by omega
    clear hbad hb
    go_enter Tryd.func14, Tryd.ntmps14
    go_wp2_with fail
    refine (hC _).mono ?_
    rintro e w1 ⟨rfl, hw1⟩
    subst hw1
    go_wp2
    go_ret2
    exact ⟨rfl, rfl⟩

theorem TL.get {w : World} {base n h m : Nat} {seed : List UInt8} {v : Value} (t : TL w base n h seed v m) (hm : 0 < m) : ∃ gl cl, v = .slice (some ⟨gl, 0, none⟩) m cl ∧ base ≤ gl ∧ m ≤ maxLen ∧ ∀ j, j < m → ∃ gr cr, w.cell? ⟨gl, j, none⟩ = some (.slice (some ⟨gr, 0, none⟩) (2 ^ (h - j)) cr) ∧ RS w base (.slice (some ⟨gr, 0, none⟩) (2 ^ (h - j)) cr) (2 ^ (h - j)) (treeS n seed j) := by
  obtain ⟨vs, h1, h2⟩ := t
  have hl := h1.1
  rw [Nat.mul_one] at hl
  rcases h1.2 with ⟨rfl, h0⟩ | ⟨g, cap, cur, rfl, hb, hg, hle, hmx, hsz, ht⟩
  · omega
  · refine ⟨g, cap, rfl, hb, by omega, fun j hj => ?_⟩
    obtain ⟨u, hvi⟩ : ∃ u, vs[j]? = some u := ⟨_, List.getElem?_eq_getElem (by omega)⟩
    have hr := h2 j u hvi
    obtain ⟨gr, cr, rfl, _⟩ := hr.addr (Nat.pos_of_ne_zero (by simp))
    refine ⟨gr, cr, ?_, hr⟩
    rw [cell_of_row w g j cur 28 (0, 0) hg]
    rw [← ht, List.getElem?_take, if_pos (by omega)] at hvi
    simpa using hvi

theorem treeS_len (n : Nat) (seed : List UInt8) (l p : Nat) : (treeS n seed l p).length ≤ 32 := by
  cases l with
  | zero => exact hashF_len _ _ _
  | succ l => exact hashF_len _ _ _

set_option maxRecDepth 100000 in
set_option maxHeartbeats 4000000 in
theorem public_first (g n h : Nat) (seed : List UInt8) (lv0 : Value) (w : World) (k : KW w g n h seed 0 lv0) (hg1 : 1 < g) (hsl : seed.length ≤ 64) (hn : 1 ≤ n) (hn2 : n ≤ 32) (hh : h ≤ 8) (hT : Tabs w) :
    Calls Tryd.prog 11 #[.pointer (some ⟨g, 0, none⟩)] w fun e w' => ∃ p c lv, e = .returned (.slice p (treeS n seed h 0).length c) ∧ HB w' (.slice p (treeS n seed h 0).length c) (treeS n seed h 0) ∧ KW w' g n h seed 1 lv ∧ TL w' w.heap.size n h seed lv (h + 1) ∧ Only g w w' := by
  have k' := k
  obtain ⟨p, c, ko, _, _⟩ := k'
  have c0 := ko.c0
  have c1 := ko.c1
  have hgl := ko.lt
  have hM := missing_made g n w c0 (by omega)
  have hTr := tree_first g n h seed lv0 w.drew k hg1 hsl hn hn2 hh hT
  go_enter Tryd.func11, Tryd.ntmps11
  go_wp2_with fail
  refine hM.mono ?_
  rintro e w1 ⟨rfl, hw1⟩
  have hw2 := hw1.symm
  clear hw1
  subst hw2
  clear hM
  go_wp2
  have hlen := treeS_len n seed h 0
  have hh1 : (h : Int) < (h : Int) + 1 := by omega
  have hh0 : (0 : Int) ≤ (h : Int) := by omega
  generalize hF : treeS n seed h 0 = F at *
  go_region_with (first
    | (go_at_call 25; refine hTr.mono ?_; rintro e w2 ⟨lv, rfl, k2, t2, O2⟩; have t2' := t2; obtain ⟨gl, cl, hlv, _, hml, hget⟩ := t2'.get (by omega); subst hlv; obtain ⟨gr, cr, e1, r2⟩ := hget h (by omega); rw [Nat.sub_self, Nat.pow_zero] at e1 r2; obtain ⟨g9, cap9, heq, _, _, _, hcell⟩ := r2.addr (by decide); (cases heq); obtain ⟨pr, cq, e3, h3, _⟩ := hcell 0 (by decide); rw [hF] at e3 h3; have k2' := k2; obtain ⟨ps, cs, ko2, _, _⟩ := k2'; have d1 := ko2.c1; clear hget hcell r2 ko2)
    | (go_at_call 24; refine (clone_any _ F _ h3 (by omega)).mono ?_; rintro e w3 ⟨p3, c3, rfl, h4, hb3⟩))
  all_goals
    have O02 : Only g w w2 := (Only.of_below ((Below.refl _ w).drew) (by omega)).trans O2
    have hs2 := O2.size
    have O03 := O02.trans (Only.of_below hb3 (by have := O02.size; omega))
    go_wp2
    go_ret
    rw [hF]
    exact ⟨_, _, _, rfl, h4, k2.later hb3, t2.later hb3, O03⟩

set_option maxRecDepth 100000 in
set_option maxHeartbeats 1000000 in
theorem mtsAwake_any (w : World) (hT : Tabs w) (hw : 1 < w.heap.size) : Calls Tryd.prog 7 #[] w fun e w' => e = .returned (.bool true) ∧ Below w.heap.size w w' := by
  have hN := new_ok 2 1 (.slice none 0 0) [] w (HB.nil w) (by simp) (by decide) (by decide) (by decide)
  have hlen : (treeS 2 [] 1 0).length = 2 := by
    refine hashF_eq 2 (by decide) 9 _ ?_
    intro p hp
    simp only [List.mem_cons, List.not_mem_nil, or_false] at hp
    rcases hp with rfl | rfl | rfl | rfl
    · rw [numB_length]; decide
    · rw [numB_length]; decide
    · exact Nat.le_trans (treeS_len _ _ _ _) (by decide)
    · exact Nat.le_trans (treeS_len _ _ _ _) (by decide)
  go_enter Tryd.func7, Tryd.ntmps7
  go_wp2_with fail
  refine hN.mono ?_
  rintro e w1 ⟨g, rfl, hg, k1, hb1⟩
  have hP := public_first g 2 1 [] (.slice none 0 0) w1 k1 (by omega) (by simp) (by decide) (by decide) (by decide) (hT.later hb1)
  rw [hlen] at hP
  clear hlen hN
  generalize treeS 2 [] 1 0 = F at *
  go_wp2_with fail
  refine hP.mono ?_
  rintro e w2 ⟨p2, c2, lv, rfl, h2, _, _, O2⟩
  have hb02 : Below w.heap.size w w2 := hb1.trans (O2.below hg)
  clear hP h2
  go_wp2
  go_ret
  exact ⟨rfl, hb02⟩

end Go.Proofs.YtdjaemobfbbkoaaDoor
