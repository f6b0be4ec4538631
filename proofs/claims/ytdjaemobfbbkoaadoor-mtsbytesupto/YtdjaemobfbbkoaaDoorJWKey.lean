/- What this text holds: plain facts on chains: how long they are, and that a walk and on is one walk. What this text proves: the walk of wots.Key over this program: the key of any number, or the error. -/
import Derived.Test.YtdjaemobfbbkoaaDoorJWChain
import Derived.Test.YtdjaemobfbbkoaaDoorJWKeys
import Derived.Deep.RegionHeld3
namespace Go.Proofs.YtdjaemobfbbkoaaDoor
open Go.RowKit

theorem chainN_add (size index i : Int) : ∀ (a b : Nat) (k : Int) (x : List UInt8), chainN size index i (a + b) k x = chainN size index i b (k + a) (chainN size index i a k x)
  | 0, b, k, x => by simp [chainN]
  | a + 1, b, k, x => by
    rw [show a + 1 + b = (a + b) + 1 by omega]
    simp only [chainN]
    rw [chainN_add size index i a b (k + 1) _, show k + 1 + (a : Int) = k + ((a + 1 : Nat) : Int) by omega]

theorem chainF_on (size index i mid : Int) (x : List UInt8) (h0 : 0 ≤ mid) (h3 : mid ≤ 3) : chainF size (chainF size x index i 0 mid) index i mid 3 = chainF size x index i 0 3 := by
  unfold chainF
  have e := chainN_add size index i mid.toNat (3 - mid).toNat 0 x
  rw [show min mid 3 - max 0 0 = mid by omega, show min 3 3 - max mid 0 = 3 - mid by omega, show max mid 0 = mid by omega, show (max 0 0 : Int) = 0 by omega, show ((min 3 3 : Int) - 0).toNat = mid.toNat + (3 - mid).toNat by omega, e]
  congr 1
  omega

theorem hashF_len (size : Int) (tag : Nat) (ls : List (List UInt8)) : (hashF size tag ls).length ≤ 32 := by
  have := cutLen_le size
  unfold hashF
  split
  · rw [List.length_take]; omega
  · simp

theorem chainN_len (size index i : Int) : ∀ (n : Nat) (k : Int) (x : List UInt8) (B : Nat), 32 ≤ B → x.length ≤ B → (chainN size index i n k x).length ≤ B
  | 0, _, _, _, _, h => h
  | n + 1, k, x, B, hB, _ => by
    have := hashF_len size 7 [numB index, numB i, numB k, x]
    exact chainN_len size index i n (k + 1) _ B hB (by unfold stepF; omega)

theorem chainF_len (size index i fr to : Int) (x : List UInt8) (B : Nat) (hB : 32 ≤ B) (h : x.length ≤ B) : (chainF size x index i fr to).length ≤ B := chainN_len _ _ _ _ _ _ _ hB h

end Go.Proofs.YtdjaemobfbbkoaaDoor

namespace Go.Proofs.YtdjaemobfbbkoaaDoor
open Go.RowKit

/-- The end of chain i of a key. -/
def endK (size : Int) (seed : List UInt8) (index : Int) (i : Nat) : List UInt8 := chainF size (secretF size seed index i) index i 0 3

set_option maxRecDepth 100000 in
set_option maxHeartbeats 4000000 in
theorem keyf_any (n : Nat) (index : Int) (i : Nat) (p : Option Addr) (c b1 b2 b3 : Nat) (seed : List UInt8) (w : World) (h : HB w (.slice p seed.length c) seed) (hT : Tabs w)
    (e1 : w.cell? ⟨b1, 0, none⟩ = some (.int .i64 (n : Int))) (e2 : w.cell? ⟨b2, 0, none⟩ = some (.slice p seed.length c)) (e3 : w.cell? ⟨b3, 0, none⟩ = some (.int .i64 index)) :
    Calls Tryd.prog 82 #[.int .i64 (i : Int), .pointer (some ⟨b1, 0, none⟩), .pointer (some ⟨b2, 0, none⟩), .pointer (some ⟨b3, 0, none⟩)] w fun e w' => ∃ p c, e = .returned (.slice p (endK n seed index i).length c) ∧ HB w' (.slice p (endK n seed index i).length c) (endK n seed index i) ∧ Below w.heap.size w w' := by
  have hS := fun w' h' hT' => secret_any n index i (.slice p seed.length c) seed w' h' hT'
  have hC := fun v w' h' hT' => chain_any n index i 0 3 v (secretF n seed index i) w' h' (by have := hashF_len n 6 [seed, numB index, numB i]; unfold secretF; omega) hT' (by omega)
  have HE : Hid (endK n seed index i = chainF n (secretF n seed index i) index i 0 3) := rfl
  generalize endK n seed index i = F at *
  generalize secretF n seed index i = S at *
  generalize chainF n S index i 0 3 = G at *
  have HF : Hid (F = G) := HE
  clear HE
  go_enter Tryd.func82, Tryd.ntmps82
  go_wp2
  go_region_held3 (fun w' => w'.cell? ⟨b1, 0, none⟩ = some (.int .i64 (n : Int)) ∧ w'.cell? ⟨b2, 0, none⟩ = some (.slice p seed.length c) ∧ w'.cell? ⟨b3, 0, none⟩ = some (.int .i64 index)) (first | exact ⟨e1, e2, e3⟩ | exact ⟨f1, f2, f3⟩ | exact ⟨g1, g2, g3⟩) (first
    | (go_at_call 48; refine (hS _ (h.later (by repeat (first | exact Below.refl _ _ | refine Below.drew ?_))) (hT.later (by repeat (first | exact Below.refl _ _ | refine Below.drew ?_)))).mono ?_; rintro e w1 ⟨p1, c1, rfl, h1, hb1⟩; have hb01 : Below w.heap.size w w1 := Below.trans (by repeat (first | exact Below.refl _ _ | refine Below.drew ?_)) hb1; have f1 := cell_later hb01 e1; have f2 := cell_later hb01 e2; have f3 := cell_later hb01 e3; have hT1 := hT.later hb01)
    | (go_at_call 47; refine (hC _ _ h1 hT1).mono ?_; rintro e w2 ⟨p2, c2, rfl, h2, hb2⟩; have hb02 : Below w.heap.size w w2 := hb01.trans (hb2.mono hb01.size); have g1 := cell_later hb02 e1; have g2 := cell_later hb02 e2; have g3 := cell_later hb02 e3))
  all_goals
    go_wp2
    go_ret
    rw [HF.out]
    exact ⟨_, _, rfl, h2, hb02⟩

theorem cutLen_nat (n : Nat) (h : n ≤ 32) : cutLen (n : Int) = n := by unfold cutLen; omega

theorem hashF_le (n : Nat) (hn : n ≤ 32) (tag : Nat) (ls : List (List UInt8)) : (hashF n tag ls).length ≤ n := by
  unfold hashF
  rw [cutLen_nat n hn]
  split
  · rw [List.length_take]; omega
  · simp

theorem hashF_eq (n : Nat) (hn : n ≤ 32) (tag : Nat) (ls : List (List UInt8)) (hf : ∀ p ∈ ls, p.length ≤ 65535) : (hashF n tag ls).length = n := by
  unfold hashF
  rw [cutLen_nat n hn, if_pos hf, List.length_take, sha_length]
  omega

theorem numB_length (x : Int) : (numB x).length = 8 := be64_length _

theorem chainN_le (n : Nat) (hn : n ≤ 32) (index i : Int) : ∀ (m : Nat) (k : Int) (x : List UInt8), x.length ≤ n → (chainN n index i m k x).length ≤ n
  | 0, _, _, h => h
  | m + 1, k, _, _ => chainN_le n hn index i m (k + 1) _ (hashF_le n hn 7 _)

theorem chainN_eq (n : Nat) (hn : n ≤ 32) (index i : Int) : ∀ (m : Nat) (k : Int) (x : List UInt8), x.length = n → (chainN n index i m k x).length = n
  | 0, _, _, h => h
  | m + 1, k, x, h => chainN_eq n hn index i m (k + 1) _ (hashF_eq n hn 7 _ (by
      intro p hp
      simp only [List.mem_cons, List.not_mem_nil, or_false] at hp
      rcases hp with rfl | rfl | rfl | rfl
      · rw [numB_length]; decide
      · rw [numB_length]; decide
      · rw [numB_length]; decide
      · omega))

theorem secretF_eq (n : Nat) (hn : n ≤ 32) (seed : List UInt8) (hs : seed.length ≤ 65535) (index i : Int) : (secretF n seed index i).length = n := hashF_eq n hn 6 _ (by
  intro p hp
  simp only [List.mem_cons, List.not_mem_nil, or_false] at hp
  rcases hp with rfl | rfl | rfl
  · exact hs
  · rw [numB_length]; decide
  · rw [numB_length]; decide)

theorem endK_le (n : Nat) (hn : n ≤ 32) (seed : List UInt8) (index : Int) (i : Nat) : (endK n seed index i).length ≤ n := chainN_le n hn _ _ _ _ _ (hashF_le n hn 6 _)

theorem cell_box (w : World) (v : Value) (t : TypeId) : (w.alloc (.cells #[v] t)).cell? ⟨w.heap.size, 0, none⟩ = some v := by
  rw [cell_of_row _ _ 0 _ _ _ (heap_alloc_new w _)]
  simp

theorem cell_box_at (w : World) (v : Value) (t : TypeId) (b : Nat) (hb : b = w.heap.size) : (w.alloc (.cells #[v] t)).cell? ⟨b, 0, none⟩ = some v := by
  subst hb
  exact cell_box w v t

/-- The key of a number. -/
def keyW (n : Nat) (seed : List UInt8) (index : Int) : List UInt8 := hashF n 8 [numB index, endsF (endK n seed index) (4 * n + 5)]

set_option maxRecDepth 100000 in
set_option maxHeartbeats 2000000 in
theorem key_ok (n : Nat) (index : Int) (v : Value) (seed : List UInt8) (w : World) (h : HB w v seed) (hs : seed.length ≤ 64) (hn : 1 ≤ n) (hn2 : n ≤ 32) (hi : 0 ≤ index) (hi2 : index < 256) (hT : Tabs w) :
    Calls Tryd.prog 72 #[.int .i64 (n : Int), v, .int .i64 index] w fun e w' => ∃ p c, e = .returned (.tuple #[.slice p (keyW n seed index).length c, .int .i64 0]) ∧ HB w' (.slice p (keyW n seed index).length c) (keyW n seed index) ∧ Below w.heap.size w w' := by
  obtain ⟨p, c, rfl⟩ := h.shape
  have hc : canB n index = true := by simp [canB]; omega
  have hC := fun w' => can_any n index w'
  rw [hc] at hC
  clear hc
  have hs2 : (seed.length : Int) ≤ 64 := by omega
  have HK : Hid (keyW n seed index = hashF n 8 [numB index, endsF (endK n seed index) (4 * n + 5)]) := rfl
  generalize keyW n seed index = K at *
  go_enter Tryd.func72, Tryd.ntmps72
  go_wp2_with fail
  refine (hC _).mono ?_
  rintro e w1 ⟨rfl, hw1⟩
  subst hw1
  go_wp2_with fail
  have b1 : Below w.heap.size w (w.alloc (.cells #[.int .i64 (n : Int)] 3)) := (Below.refl _ w).alloc (Nat.le_refl _) _
  have b2 : Below w.heap.size w ((w.alloc (.cells #[.int .i64 (n : Int)] 3)).alloc (.cells #[.slice p seed.length c] 22)) := b1.alloc b1.size _
  have b3 := b2.alloc b2.size (.cells #[.int .i64 index] 3)
  have e1 : (((w.alloc (.cells #[.int .i64 (n : Int)] 3)).alloc (.cells #[.slice p seed.length c] 22)).alloc (.cells #[.int .i64 index] 3)).cell? ⟨w.heap.size, 0, none⟩ = some (.int .i64 (n : Int)) := by
    exact cell_later (((Below.refl _ _).alloc (Nat.le_refl _) _).alloc (by simp) _) (cell_box_at w _ _ _ rfl)
  have e2 : (((w.alloc (.cells #[.int .i64 (n : Int)] 3)).alloc (.cells #[.slice p seed.length c] 22)).alloc (.cells #[.int .i64 index] 3)).cell? ⟨w.heap.size + 1, 0, none⟩ = some (.slice p seed.length c) := by
    exact cell_later ((Below.refl _ _).alloc (Nat.le_refl _) _) (cell_box_at _ _ _ _ (by simp))
  have e3 : (((w.alloc (.cells #[.int .i64 (n : Int)] 3)).alloc (.cells #[.slice p seed.length c] 22)).alloc (.cells #[.int .i64 index] 3)).cell? ⟨w.heap.size + 1 + 1, 0, none⟩ = some (.int .i64 index) := by
    exact cell_box_at _ _ _ _ (by simp)
  generalize ((w.alloc (.cells #[.int .i64 (n : Int)] 3)).alloc (.cells #[.slice p seed.length c] 22)).alloc (.cells #[.int .i64 index] 3) = wa at *
  refine (closedK_any n index _ _ _ (endK n seed index) wa hn hn2 (fun i => endK_le n hn2 seed index i) (hT.later b3) (fun i w' _ hb => keyf_any n index i p c _ _ _ seed w' ((h.later b3).later hb) ((hT.later b3).later hb) (cell_later hb e1) (cell_later hb e2) (cell_later hb e3))).mono ?_
  rintro e w4 ⟨p4, c4, rfl, h4, hb4⟩
  rw [← HK.out] at h4 ⊢
  have hb04 : Below w.heap.size w w4 := b3.trans (hb4.mono b3.size)
  go_wp2
  go_ret2
  exact ⟨_, _, rfl, h4, hb04⟩

set_option maxRecDepth 100000 in
set_option maxHeartbeats 1000000 in
theorem key_err (size index : Int) (v : Value) (seed : List UInt8) (w : World) (h : HB w v seed) (hbad : canB size index = false ∨ 64 < seed.length) :
    Calls Tryd.prog 72 #[.int .i64 size, v, .int .i64 index] w fun e w' => e = .returned (.tuple #[.slice none 0 0, .int .i64 1]) ∧ Below w.heap.size w w' := by
  obtain ⟨p, c, rfl⟩ := h.shape
  have hC := fun w' => can_any size index w'
  have b1 : Below w.heap.size w (w.alloc (.cells #[.int .i64 size] 3)) := (Below.refl _ w).alloc (Nat.le_refl _) _
  have b2 : Below w.heap.size w ((w.alloc (.cells #[.int .i64 size] 3)).alloc (.cells #[.slice p seed.length c] 22)) := b1.alloc b1.size _
  have b3 := b2.alloc b2.size (.cells #[.int .i64 index] 3)
  cases hb : canB size index with
  | false =>
    rw [hb] at hC
    clear hbad
    go_enter Tryd.func72, Tryd.ntmps72
    go_wp2_with fail
    refine (hC _).mono ?_
    rintro e w1 ⟨rfl, hw1⟩
    subst hw1
    go_wp2
    go_ret2
    exact ⟨rfl, b3⟩
  | true =>
    have hs : 64 < seed.length := by rcases hbad with h | h; rw [hb] at h; cases h; exact h
    have hs2 : 64 < (seed.length : Int) := by omega
    rw [hb] at hC
    clear hbad
    go_enter Tryd.func72, Tryd.ntmps72
    go_wp2_with fail
    refine (hC _).mono ?_
    rintro e w1 ⟨rfl, hw1⟩
    subst hw1
    go_wp2
    go_ret2
    exact ⟨rfl, b3⟩

end Go.Proofs.YtdjaemobfbbkoaaDoor
