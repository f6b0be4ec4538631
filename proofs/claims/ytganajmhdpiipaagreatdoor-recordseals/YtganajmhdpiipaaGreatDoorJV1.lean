/- What this text proves: the walk of texts.Number over this program: a number in eight bytes. What this text proves: the walks of wots.Secret and wots.Chain over this program: a chain's beginning, and any walk along a chain, in new memory. What this text proves: the walks of wots.can, wots.Key and wots.closed over this program: the key of any number, or the error. What this text holds: plain facts on chains: how long they are, and that a walk and on is one walk. What this text proves: the walk of wots.Key over this program: the key of any number, or the error. What this text proves: the walks of sha.Cut and texts.Hash over this program; the answer lies in a block of bytes. What this text proves: the walk of wots.Key over this program; the key lies in a block of bytes. What this text holds: a row of rows of bytes that the call owns, each in a block of bytes (plain facts): it stays, it grows, it is read. What this text proves: the walks of mts.join, mts.leaves and mts.raised over this program: the hashes of a tree's levels, in blocks of their own. What this text proves: the walks of mts.leaves and mts.raised over this program: a tree's levels, each in a block of its own. What this text proves: the parts of sync.Once's slow road over this program, each a contract of its own; one goroutine: the lock that is free, the two calls that are deferred, Do when it was done already. What this text holds: the levels of a tree in memory (plain facts): they stay where another block is changed, and where the list of levels grows. What this text proves: the walk of the function that mts.tree hands to sync.Once over this program: all levels of the tree are laid into the keys. What this text proves: the walks of mts.tree, mts.can, mts.missing, mts.New and mts.Public over this program: keys, their tree, and the public key. What this text proves: the walks of mts.within, mts.lengths, mts.lists and mts.shaped over this program. What this text proves: the walk of mts.shaped over this program: whether both lists have as many hashes as they must, of size bytes each. What this text proves: the walks of wots.whole and wots.Recover over this program: the key that any chains come to, or the error. What this text proves: the walks of wots.whole and wots.Recover over this program: the key that any chains come to, or the error. What this text proves: the walk of wots.Sign over this program: any digest signed, or the error. What this text holds: what a signature's path leads to (no program). What this text proves: the walk of the document's Number over this program: a number in eight bytes. What this text proves: the walks of the document's Can, Secret, Chain and key (annalsref05) over this program. What this text proves: the walk of the document's Digits (annalsref05) over this program, of 32 bytes at most. What this text proves: the walks of the document's Key and Sign (annalsref05) over this program. What this text proves: the walks of the document's Sign and Recover (annalsref05) over this program. What this text proves: the walk of the document's Recover (annalsref05) over this program. What this text proves: the walks of the document's pair and Verify (annalsref06) over this program. What this text proves: the early refusals of the document's Verify (annalsref06) over this program. -/
import Derived.Test.YtganajmhdpiipaaGreatDoorSum
import Derived.Test.YtganajmhdpiipaaGreatDoorBe64
import Derived.Test.YtganajmhdpiipaaGreatDoorJB1
import Derived.Test.YtganajmhdpiipaaGreatDoorDigits
import Derived.Deep.RegionHeld3
import Derived.Test.YtganajmhdpiipaaGreatDoorJB2
import Derived.Test.YtganajmhdpiipaaGreatDoorFacts
import Derived.Tactics
import Derived.Tactics2
import Derived.Defers
import Derived.Laws.Pointers
import Derived.Laws.LoneSync
import Derived.RegionTactic
import Derived.RegionCalls
import Derived.Deep.RegionLaw
import Derived.Deep.AppendLies
import Derived.Test.YtganajmhdpiipaaGreatDoorRSum
namespace Go.Proofs.YtganajmhdpiipaaGreatDoor.Vf
open Go.RowKit

/-- The first k bytes of a number, and noughts behind. -/
def numTo (U k : Nat) : List UInt8 := (be64 U).take k ++ List.replicate (8 - k) 0
theorem numTo_step (U k : Nat) (hk : k < 8) : (numTo U k).set k (UInt8.ofNat (U / 2 ^ (8 * (7 - k)))) = numTo U (k + 1) := by
  have hl : ((be64 U).take k).length = k := by rw [List.length_take, be64_length]; omega
  have e : 8 - k = (8 - (k + 1)) + 1 := by omega
  unfold numTo
  rw [List.set_append_right _ _ (by omega), hl, Nat.sub_self, e, List.replicate_succ, List.set_cons_zero, List.take_add_one, be64_get _ _ hk]
  simp
theorem numTo_all (U : Nat) : numTo U 8 = be64 U := by
  unfold numTo
  rw [List.take_of_length_le (by rw [be64_length]; omega)]
  simp
theorem numV (U k : Nat) (hk : k < 8) : Value.int .u8 ((U : Int) / 2 ^ (56 - 8 * k) % 256) = bc (UInt8.ofNat (U / 2 ^ (8 * (7 - k)))) := by
  unfold bc
  have e : 56 - 8 * k = 8 * (7 - k) := by omega
  rw [e, show (U : Int) / 2 ^ (8 * (7 - k)) % 256 = ((U / 2 ^ (8 * (7 - k)) % 256 : Nat) : Int) by simp]
  simp

theorem u64_nat (n : Int) : ∃ U : Nat, IntKind.u64.wrap n = (U : Int) ∧ U < 18446744073709551616 := by
  have e : IntKind.u64.wrap n = n % 18446744073709551616 := by simp [IntKind.wrap, IntKind.bits, IntKind.signed]
  exact ⟨(n % 18446744073709551616).toNat, by rw [e]; omega, by omega⟩

set_option maxRecDepth 100000 in
set_option maxHeartbeats 1000000 in
theorem number_any (n : Int) (U : Nat) (hU : IntKind.u64.wrap n = (U : Int)) (w : World) :
    Calls Tryz.prog 75 #[.int .i64 n] w fun e w' => ∃ p c, e = .returned (.slice p 8 c) ∧ HB w' (.slice p 8 c) (be64 U) ∧ Below w.heap.size w w' := by
  obtain ⟨i0, hi, hz0, hz1, hz2⟩ := info_parts i_u8
  go_enter Tryz.func75, Tryz.ntmps75
  go_wp2_with (at_make; refine wpList_make_full _ rfl _ _ 22 rfl w.heap.size 5 i0 (.int .u8 0) 1 Tryz.underlying22 hi hz0 hz1 .i64 .i64 _ _ 8 rfl rfl ?qa ?qb ?qc ?qd ?qe ?_)
  all_goals (try (first | omega | (unfold maxLen; omega) | (rw [hz2]; omega)))
  intro w1 hown1 hgrow1
  have hb1 : Below w.heap.size w w1 := (Below.refl _ w).grown hgrow1 (Nat.le_refl _) (by intro k hk; cases hk)
  have hown1' : w1.ownsRow w.heap.size 5 1 (.slice (some ⟨w.heap.size, 0, none⟩) 8 8) 8 (bcs (numTo U 0)) := by
    have e : numTo U 0 = List.replicate 8 0 := rfl
    rw [e, ← made_bcs]
    simpa using hown1
  clear hown1 hgrow1
  go_wp2
  go_loopw [8] (fun i wr => ∃ k : Nat, k ≤ 8 ∧ i = .int .i64 k ∧ wr.ownsRow w.heap.size 5 1 (.slice (some ⟨w.heap.size, 0, none⟩) 8 8) 8 (bcs (numTo U k)) ∧ Below w.heap.size w wr)
    (fun i _ => 8 - (intOf i).toNat)
  case atStart => exact ⟨0, by omega, rfl, hown1', hb1⟩
  case round =>
    clear hown1' hb1
    obtain ⟨k, hk, rfl, hown, hbe⟩ := hrel
    by_cases hlt : k < 8
    · have hlen : (numTo U k).length = 8 := by
        have := hown.1
        rw [bcs_length] at this
        omega
      have hq : (bcs (numTo U k))[k]? = some (bc ((numTo U k).getD k 0)) := by
        rw [bcs_get]
        have : k < (numTo U k).length := by omega
        simp [List.getD, this]
      have q1 := hown.cellAt k (by omega)
      rw [hq] at q1
      have qf := hown.frozenAt k
      generalize (numTo U k).getD k 0 = y at *
      have HNV : Hid (Value.int .u8 ((U : Int) / 2 ^ (56 - 8 * k) % 256) = bc (UInt8.ofNat (U / 2 ^ (8 * (7 - k))))) := numV U k hlt
      have hk8 : (k : Int) < 8 := by omega
      clear hq hlen
      unfold bc at q1
      go_wp2
      have hown2 := owns_put hown k (UInt8.ofNat (U / 2 ^ (8 * (7 - k)))) _ HNV.out
      rw [numTo_step U k hlt] at hown2
      have hb2 : Below w.heap.size w (wr.setCell ⟨w.heap.size, k, none⟩ (.int .u8 ((U : Int) / 2 ^ (56 - 8 * k) % 256))) := hbe.setCell (Nat.le_refl _) _
      clear HNV q1 qf hown hbe
      go_roundw
      case rel => first | exact ⟨k + 1, by omega, by go_num, hown2, hb2⟩ | ((repeat apply Exists.intro); exact ⟨⟨k + 1, by omega, by go_num, hown2, hb2⟩, rfl⟩)
      case measure => simp [intOf]; omega
    · have hk8 : k = 8 := by omega
      subst hk8
      rw [numTo_all] at hown
      have hh := HB.of_owns hown
      have HH : Hid (HB wr (.slice (some ⟨w.heap.size, 0, none⟩) 8 8) (be64 U)) := hh
      clear hh hown
      go_wp2
      go_ret
      exact ⟨_, _, rfl, HH.out, hbe⟩

end Go.Proofs.YtganajmhdpiipaaGreatDoor.Vf

namespace Go.Proofs.YtganajmhdpiipaaGreatDoor.Vf
open Go.RowKit

theorem hid {p : Prop} (h : p) : Hid p := h

/-- A number in eight bytes. -/
def numB (n : Int) : List UInt8 := be64 (IntKind.u64.wrap n).toNat
def secretF (size : Int) (seed : List UInt8) (index i : Int) : List UInt8 := hashF size 6 [seed, numB index, numB i]
def stepF (size index i k : Int) (x : List UInt8) : List UInt8 := hashF size 7 [numB index, numB i, numB k, x]
/-- n steps from step k on. -/
def chainN (size index i : Int) : Nat → Int → List UInt8 → List UInt8
  | 0, _, x => x
  | n + 1, k, x => chainN size index i n (k + 1) (stepF size index i k x)
def chainF (size : Int) (x : List UInt8) (index i fr to : Int) : List UInt8 := chainN size index i (min to 3 - max fr 0).toNat (max fr 0) x

theorem chainN_end (size index i k T : Int) (x : List UInt8) (h : T ≤ k) : chainN size index i (T - k).toNat k x = x := by
  rw [show (T - k).toNat = 0 by omega]
  rfl
theorem chainN_go (size index i k T : Int) (x : List UInt8) (h : k < T) : chainN size index i (T - k).toNat k x = chainN size index i (T - (k + 1)).toNat (k + 1) (stepF size index i k x) := by
  rw [show (T - k).toNat = (T - (k + 1)).toNat + 1 by omega]
  rfl

theorem number_to (n : Int) (w : World) :
    Calls Tryz.prog 75 #[.int .i64 n] w fun e w' => ∃ p c, e = .returned (.slice p 8 c) ∧ HB w' (.slice p 8 c) (numB n) ∧ Below w.heap.size w w' := by
  obtain ⟨U, hU, _⟩ := u64_nat n
  have e : numB n = be64 U := by unfold numB; rw [hU]; simp
  rw [e]
  exact number_any n U hU w

/-- A literal of rows of bytes in a new block. -/
theorem _root_.Go.Proofs.YtganajmhdpiipaaGreatDoor.PA.lit (w : World) (e : TypeId) (vs : List Value) (ls : List (List UInt8)) (n : Nat) (hn : n = ls.length) (hv : vs.length = ls.length) (hm : n ≤ maxLen)
    (h : ∀ (i : Nat) x l, vs[i]? = some x → ls[i]? = some l → HB w x l) : PA (w.alloc (.cells vs.toArray e)) (.slice (some ⟨w.heap.size, 0, none⟩) n n) ls := by
  subst hn
  refine ⟨_, ls.length, vs, rfl, Nat.le_refl _, hm, (fun h => by cases h), hv, fun _ => ⟨_, 0, rfl, fun i x hx => ?_⟩, fun i x l hx hl => ?_⟩
  · rw [Nat.zero_add, cell_of_row _ _ i _ _ _ (heap_alloc_new w _)]
    simp [hx]
  · exact (h i x l hx hl).later ((Below.refl _ w).alloc (Nat.le_refl _) _)

theorem four_hb {w : World} {a b c d : Value} {la lb lc ld : List UInt8} (ha : HB w a la) (hb : HB w b lb) (hc : HB w c lc) (hd : HB w d ld) :
    ∀ (i : Nat) x l, [a, b, c, d][i]? = some x → [la, lb, lc, ld][i]? = some l → HB w x l := by
  intro i x l h1 h2
  match i with
  | 0 => simp at h1 h2; subst h1; subst h2; exact ha
  | 1 => simp at h1 h2; subst h1; subst h2; exact hb
  | 2 => simp at h1 h2; subst h1; subst h2; exact hc
  | 3 => simp at h1 h2; subst h1; subst h2; exact hd
  | n + 4 => simp at h1

theorem three_hb {w : World} {a b c : Value} {la lb lc : List UInt8} (ha : HB w a la) (hb : HB w b lb) (hc : HB w c lc) :
    ∀ (i : Nat) x l, [a, b, c][i]? = some x → [la, lb, lc][i]? = some l → HB w x l := by
  intro i x l h1 h2
  match i with
  | 0 => simp at h1 h2; subst h1; subst h2; exact ha
  | 1 => simp at h1 h2; subst h1; subst h2; exact hb
  | 2 => simp at h1 h2; subst h1; subst h2; exact hc
  | n + 3 => simp at h1

theorem two_hb {w : World} {a b : Value} {la lb : List UInt8} (ha : HB w a la) (hb : HB w b lb) :
    ∀ (i : Nat) x l, [a, b][i]? = some x → [la, lb][i]? = some l → HB w x l := by
  intro i x l h1 h2
  match i with
  | 0 => simp at h1 h2; subst h1; subst h2; exact ha
  | 1 => simp at h1 h2; subst h1; subst h2; exact hb
  | n + 2 => simp at h1

set_option maxRecDepth 100000 in
set_option maxHeartbeats 4000000 in
theorem chain_any (size index i fr to : Int) (v : Value) (x : List UInt8) (w : World) (h : HB w v x) (hl : x.length ≤ 140737488355328) (hT : Tabs w) (hfr : -9223372036854775808 ≤ fr ∧ fr ≤ 9223372036854775807) :
    Calls Tryz.prog 74 #[.int .i64 size, v, .int .i64 index, .int .i64 i, .int .i64 fr, .int .i64 to] w fun e w' => ∃ p c, e = .returned (.slice p (chainF size x index i fr to).length c) ∧ HB w' (.slice p (chainF size x index i fr to).length c) (chainF size x index i fr to) ∧ Below w.heap.size w w' := by
  obtain ⟨p, c, rfl⟩ := h.shape
  have HF : Hid (chainF size x index i fr to = chainN size index i (min to 3 - max fr 0).toNat (max fr 0) x) := rfl
  generalize chainF size x index i fr to = F at *
  have hA := fun w' => number_to index w'
  have hB := fun w' => number_to i w'
  have hS : ∀ k y, stepF size index i k y = hashF size 7 [numB index, numB i, numB k, y] := fun k y => rfl
  have hGo := fun k T y => chainN_go size index i k T y
  have hEnd := fun k T y => chainN_end size index i k T y
  generalize numB index = A at *
  generalize numB i = B at *
  generalize chainN size index i = CN at *
  generalize stepF size index i = SF at *
  have HH : Hid (∀ (k : Int) y, SF k y = hashF size 7 [A, B, numB k, y]) := hS
  have HGo : Hid (∀ (k T : Int) y, k < T → CN (T - k).toNat k y = CN (T - (k + 1)).toNat (k + 1) (SF k y)) := hGo
  have HEnd : Hid (∀ (k T : Int) y, T ≤ k → CN (T - k).toNat k y = y) := hEnd
  clear hS hGo hEnd
  go_enter Tryz.func74, Tryz.ntmps74
  go_wp2_with (first | (at_builtin; refine wpList_append_hb rfl (.const (.slice none 0 0)) (.tmp 14) 22 rfl w.heap.size 5 Tryz.underlying22 i_u8 _ 0 [] rfl (World.ownsRow_nil _ _ _ _) _ _ _ x rfl h ?sa ?sb ?_))
  case sa => omega
  case sb => exact Nat.le_refl _
  intro v1 w1 hown1 hgrow1
  have h1 := HB.of_owns hown1
  obtain ⟨p1, c1, rfl⟩ := h1.shape
  have hb1 : Below w.heap.size w w1 := (Below.refl _ w).grown hgrow1 (Nat.le_refl _) (by intro k hk; cases hk)
  clear hown1 hgrow1 h
  obtain ⟨K, hK⟩ : ∃ K : Int, K = max fr 0 := ⟨_, rfl⟩
  obtain ⟨T, hTo⟩ : ∃ T : Int, T = min to 3 := ⟨_, rfl⟩
  rw [← hK, ← hTo] at HF
  have hT3 : T ≤ 3 := by omega
  have hTs : Hid (T = min to 3) := hTo
  have hK0 : 0 ≤ K := by omega
  have hK9 : K ≤ 9223372036854775807 := by omega
  have hcase : (fr < 0 ∧ K = 0 ∨ 0 ≤ fr ∧ fr = K) := by omega
  have hcase2 : (to ≤ 3 ∧ to = T) ∨ (3 < to ∧ T = 3) := by omega
  clear hK hTo
  rcases hcase with ⟨k1, k2⟩ | ⟨k1, k2⟩
  all_goals
    rcases hcase2 with ⟨t1, t2⟩ | ⟨t1, t2⟩
  all_goals
    have K2 := hid k2
    clear t2 k2
    go_wp2
    go_loopw [1, 13] (fun s q wr => ∃ (k : Int) (y : List UInt8) (p2 : Option Addr) (c2 : Nat), q = .int .i64 k ∧ 0 ≤ k ∧ k ≤ 9223372036854775807 ∧ s = .slice p2 y.length c2 ∧ HB wr (.slice p2 y.length c2) y ∧ Hid (CN (T - k).toNat k y = F) ∧ Below w.heap.size w wr) (fun _ q _ => (3 - intOf q).toNat)
    case atStart => exact ⟨K, x, p1, c1, by rw [K2.out], by omega, by omega, rfl, h1, HF.out.symm, hb1⟩
    case round =>
      obtain ⟨k, y, p2, c2, rfl, hk0, hk9, rfl, h2, HC, hbe⟩ := hrel
      clear hb1 h1
      by_cases hlt : k < T
      · have hTm := hTs.out
        have hlt2 : k < 3 := by omega
        have hlt4 : k < to := by omega
        clear hTm
        have hK := fun w' => number_to k w'
        have HS := HH.out k y
        have HG := HGo.out k T y hlt
        generalize numB k = C at *
        generalize SF k y = Z at *
        have HZ : Hid (Z = hashF size 7 [A, B, C, y]) := HS
        have HC2 : Hid (CN (T - (k + 1)).toNat (k + 1) Z = F) := HG.symm.trans HC.out
        clear HS HG HC
        have hTr := hT.later hbe
        go_wp2_with fail
        refine (hA _).mono ?_
        rintro e w3 ⟨p3, c3, rfl, h3, hb3⟩
        go_wp2_with fail
        refine (hB _).mono ?_
        rintro e w4 ⟨p4, c4, rfl, h4, hb4⟩
        go_wp2_with fail
        refine (hK _).mono ?_
        rintro e w5 ⟨p5, c5, rfl, h5, hb5⟩
        have hb45 := hb4.trans (hb5.mono hb4.size)
        have hb35 := hb3.trans (hb45.mono hb3.size)
        have g2 := h2.later hb35
        have g3 := h3.later hb45
        have g4 := h4.later hb5
        have hT5 := hTr.later hb35
        have hb05 := hbe.trans (hb35.mono hbe.size)
        clear h2 h3 h4 hb3 hb4 hb5 hb45 hb35 hTr hbe
        go_wp2_with fail
        have hbA : Below w.heap.size w (w5.alloc (.cells #[.slice p3 8 c3, .slice p4 8 c4, .slice p5 8 c5, .slice p2 y.length c2] 22)) := hb05.alloc hb05.size _
        refine (hash_to size 7 _ [A, B, C, y] _ (by simp) (by decide) (PA.lit w5 22 [_, _, _, _] _ 4 rfl rfl (by decide) (four_hb g3 g4 h5 g2)) (hT5.later ((Below.refl _ w5).alloc (Nat.le_refl _) _))).mono ?_
        rintro e w6 ⟨p6, c6, rfl, h6, hb6⟩
        rw [← HZ.out] at h6 ⊢
        have hb06 : Below w.heap.size w w6 := hbA.trans (hb6.mono hbA.size)
        clear hb6 hbA g2 g3 g4 h5 hT5
        go_wp2
        go_roundw
        case rel => first | exact ⟨k + 1, Z, p6, c6, rfl, by omega, by omega, rfl, h6, HC2, hb06⟩ | ((repeat apply Exists.intro); exact ⟨⟨k + 1, Z, p6, c6, rfl, by omega, by omega, rfl, h6, HC2, hb06⟩, rfl⟩)
        case measure => simp [intOf]; omega
      · have hTm := hTs.out
        have hx1 : to ≤ 3 → to ≤ k := by omega
        have hx2 : 3 < to → 3 ≤ k := by omega
        clear hTm
        first | have hx := hx1 t1 | have hx := hx2 t1
        have e1 : y = F := (HEnd.out k T y (by omega)).symm.trans HC.out
        rw [e1] at h2 ⊢
        clear hx1 hx2 HC e1
        go_wp2
        go_ret
        exact ⟨_, _, rfl, h2, hbe⟩

end Go.Proofs.YtganajmhdpiipaaGreatDoor.Vf

namespace Go.Proofs.YtganajmhdpiipaaGreatDoor.Vf
open Go.RowKit

/-- Whether there are digests of that size, and a key of that number. -/
def canB (size index : Int) : Bool := decide (1 ≤ size ∧ size ≤ 32 ∧ 0 ≤ index ∧ index < 256)

set_option maxRecDepth 100000 in
set_option maxHeartbeats 400000 in
theorem can_any (size index : Int) (w : World) :
    Calls Tryz.prog 70 #[.int .i64 size, .int .i64 index] w fun e w' => e = .returned (.bool (canB size index)) ∧ w' = w := by
  by_cases h1 : 1 ≤ size
  · by_cases h2 : size ≤ 32
    · by_cases h3 : 0 ≤ index
      · by_cases h4 : index < 256
        · have hc : canB size index = true := by simp [canB]; omega
          rw [hc]
          clear hc
          go_enter Tryz.func70, Tryz.ntmps70
          go_wp2
          go_ret
          exact ⟨rfl, rfl⟩
        · have hc : canB size index = false := by simp [canB]; omega
          rw [hc]
          clear hc
          go_enter Tryz.func70, Tryz.ntmps70
          go_wp2
          go_ret
          exact ⟨rfl, rfl⟩
      · have hc : canB size index = false := by simp [canB]; omega
        rw [hc]
        clear hc
        go_enter Tryz.func70, Tryz.ntmps70
        go_wp2
        go_ret
        exact ⟨rfl, rfl⟩
    · have hc : canB size index = false := by simp [canB]; omega
      rw [hc]
      clear hc
      go_enter Tryz.func70, Tryz.ntmps70
      go_wp2
      go_ret
      exact ⟨rfl, rfl⟩
  · have hc : canB size index = false := by simp [canB]; omega
    rw [hc]
    clear hc
    go_enter Tryz.func70, Tryz.ntmps70
    go_wp2
    go_ret
    exact ⟨rfl, rfl⟩

/-- All chains' ends, one behind the other. -/
def endsF (E : Nat → List UInt8) : Nat → List UInt8
  | 0 => []
  | k + 1 => endsF E k ++ E k

theorem endsF_len (E : Nat → List UInt8) (n : Nat) (hE : ∀ i, (E i).length ≤ n) : ∀ k, (endsF E k).length ≤ k * n
  | 0 => by simp [endsF]
  | k + 1 => by
    have h1 := endsF_len E n hE k
    have h2 := hE k
    rw [endsF, List.length_append, Nat.succ_mul]
    omega

end Go.Proofs.YtganajmhdpiipaaGreatDoor.Vf

namespace Go.Proofs.YtganajmhdpiipaaGreatDoor.Vf
open Go.RowKit

theorem chainN_add (size index i : Int) : ∀ (a b : Nat) (k : Int) (x : List UInt8), chainN size index i (a + b) k x = chainN size index i b (k + a) (chainN size index i a k x)
  | 0, b, k, x => by simp [chainN]
  | a + 1, b, k, x => by
    rw [show a + 1 + b = (a + b) + 1 by omega]
    simp only [chainN]
    rw [chainN_add size index i a b (k + 1) _, show k + 1 + (a : Int) = k + ((a + 1 : Nat) : Int) by omega]

theorem chainF_on (size index i mid : Int) (x : List UInt8) (h0 : 0 ≤ mid) (h3 : mid ≤ 3) : chainF size (chainF size x index i 0 mid) index i mid 3 = chainF size x index i 0 3 := by
  unfold chainF
  have e := chainN_add size index i mid.toNat (3 - mid).toNat 0 x
  rw [show min mid 3 - max 0 0 = mid by omega, show min 3 3 - max mid 0 = 3 - mid by omega, show max mid 0 = mid by omega, show (max 0 0 : Int) = 0 by omega, show ((min 3 3 : Int) - 0).toNat = mid.toNat + (3 - mid).toNat by omega, e]
  congr 1
  omega

theorem hashF_len (size : Int) (tag : Nat) (ls : List (List UInt8)) : (hashF size tag ls).length ≤ 32 := by
  have := cutLen_le size
  unfold hashF
  split
  · rw [List.length_take]; omega
  · simp

theorem chainN_len (size index i : Int) : ∀ (n : Nat) (k : Int) (x : List UInt8) (B : Nat), 32 ≤ B → x.length ≤ B → (chainN size index i n k x).length ≤ B
  | 0, _, _, _, _, h => h
  | n + 1, k, x, B, hB, _ => by
    have := hashF_len size 7 [numB index, numB i, numB k, x]
    exact chainN_len size index i n (k + 1) _ B hB (by unfold stepF; omega)

theorem chainF_len (size index i fr to : Int) (x : List UInt8) (B : Nat) (hB : 32 ≤ B) (h : x.length ≤ B) : (chainF size x index i fr to).length ≤ B := chainN_len _ _ _ _ _ _ _ hB h

end Go.Proofs.YtganajmhdpiipaaGreatDoor.Vf

namespace Go.Proofs.YtganajmhdpiipaaGreatDoor.Vf
open Go.RowKit

/-- The end of chain i of a key. -/
def endK (size : Int) (seed : List UInt8) (index : Int) (i : Nat) : List UInt8 := chainF size (secretF size seed index i) index i 0 3

theorem cutLen_nat (n : Nat) (h : n ≤ 32) : cutLen (n : Int) = n := by unfold cutLen; omega

theorem hashF_le (n : Nat) (hn : n ≤ 32) (tag : Nat) (ls : List (List UInt8)) : (hashF n tag ls).length ≤ n := by
  unfold hashF
  rw [cutLen_nat n hn]
  split
  · rw [List.length_take]; omega
  · simp

theorem hashF_eq (n : Nat) (hn : n ≤ 32) (tag : Nat) (ls : List (List UInt8)) (hf : ∀ p ∈ ls, p.length ≤ 65535) : (hashF n tag ls).length = n := by
  unfold hashF
  rw [cutLen_nat n hn, if_pos hf, List.length_take, sha_length]
  omega

theorem numB_length (x : Int) : (numB x).length = 8 := be64_length _

theorem chainN_le (n : Nat) (hn : n ≤ 32) (index i : Int) : ∀ (m : Nat) (k : Int) (x : List UInt8), x.length ≤ n → (chainN n index i m k x).length ≤ n
  | 0, _, _, h => h
  | m + 1, k, _, _ => chainN_le n hn index i m (k + 1) _ (hashF_le n hn 7 _)

theorem chainN_eq (n : Nat) (hn : n ≤ 32) (index i : Int) : ∀ (m : Nat) (k : Int) (x : List UInt8), x.length = n → (chainN n index i m k x).length = n
  | 0, _, _, h => h
  | m + 1, k, x, h => chainN_eq n hn index i m (k + 1) _ (hashF_eq n hn 7 _ (by
      intro p hp
      simp only [List.mem_cons, List.not_mem_nil, or_false] at hp
      rcases hp with rfl | rfl | rfl | rfl
      · rw [numB_length]; decide
      · rw [numB_length]; decide
      · rw [numB_length]; decide
      · omega))

theorem secretF_eq (n : Nat) (hn : n ≤ 32) (seed : List UInt8) (hs : seed.length ≤ 65535) (index i : Int) : (secretF n seed index i).length = n := hashF_eq n hn 6 _ (by
  intro p hp
  simp only [List.mem_cons, List.not_mem_nil, or_false] at hp
  rcases hp with rfl | rfl | rfl
  · exact hs
  · rw [numB_length]; decide
  · rw [numB_length]; decide)

theorem endK_le (n : Nat) (hn : n ≤ 32) (seed : List UInt8) (index : Int) (i : Nat) : (endK n seed index i).length ≤ n := chainN_le n hn _ _ _ _ _ (hashF_le n hn 6 _)

theorem cell_box (w : World) (v : Value) (t : TypeId) : (w.alloc (.cells #[v] t)).cell? ⟨w.heap.size, 0, none⟩ = some v := by
  rw [cell_of_row _ _ 0 _ _ _ (heap_alloc_new w _)]
  simp

theorem cell_box_at (w : World) (v : Value) (t : TypeId) (b : Nat) (hb : b = w.heap.size) : (w.alloc (.cells #[v] t)).cell? ⟨b, 0, none⟩ = some v := by
  subst hb
  exact cell_box w v t

/-- The key of a number. -/
def keyW (n : Nat) (seed : List UInt8) (index : Int) : List UInt8 := hashF n 8 [numB index, endsF (endK n seed index) (4 * n + 5)]

end Go.Proofs.YtganajmhdpiipaaGreatDoor.Vf

namespace Go.Proofs.YtganajmhdpiipaaGreatDoor.Vf
open Go.RowKit

set_option maxRecDepth 100000 in
set_option maxHeartbeats 1000000 in
theorem cut_ty (n : Int) (v : Value) (D : List UInt8) (w : World) (hD : D.length = 32) (hsum : Calls Tryz.prog 91 #[v] w fun e w' => ∃ v', e = .returned v' ∧ w'.ownsRow w.heap.size 5 1 v' 32 (bcs D) ∧ Below w.heap.size w w') :
    Calls Tryz.prog 77 #[.int .i64 n, v] w fun e w' => ∃ p c, e = .returned (.slice p (cutLen n) c) ∧ HB w' (.slice p (cutLen n) c) (D.take (cutLen n)) ∧ Below w.heap.size w w' ∧ TB w' (.slice p (cutLen n) c) := by
  have HS : Hid (Calls Tryz.prog 91 #[v] w fun e w' => ∃ v', e = .returned v' ∧ w'.ownsRow w.heap.size 5 1 v' 32 (bcs D) ∧ Below w.heap.size w w') := hsum
  have HD : Hid (D.length = 32) := hD
  clear hsum hD
  by_cases h : n < 1
  · have hc : cutLen n = 0 := by unfold cutLen; omega
    rw [hc]
    clear HS hc
    go_enter Tryz.func77, Tryz.ntmps77
    go_wp2
    go_ret
    exact ⟨none, 0, rfl, HB.nil _, Below.refl _ _, TB.nil _ _ _⟩
  · by_cases h32 : 32 < n
    · have hc : cutLen n = 32 := by unfold cutLen; omega
      rw [hc]
      clear hc
      go_enter Tryz.func77, Tryz.ntmps77
      go_wp2_with fail
      refine HS.out.mono ?_
      rintro e w1 ⟨v1, rfl, hown1, hb1⟩
      have s1 := HB.of_owns hown1
      obtain ⟨p1, c1, hv1⟩ := owns_shape hown1
      subst hv1
      have t1 := TB.of_owns hown1
      have hl := s1.len.2.1
      have hmx := s1.len.2.2.1
      have s2 := s1.cut 0 32 32 (by omega) (by omega) (by omega) hl
      have e1 : cutP p1 32 0 = p1 := by unfold cutP; cases p1 <;> simp [Addr.add]
      rw [e1, Nat.sub_zero, List.drop_zero] at s2
      have HS2 : Hid (HB w1 (.slice p1 32 32) (D.take 32)) := s2
      clear hown1 HS s2 e1 s1
      go_wp2
      go_ret
      exact ⟨_, _, rfl, HS2.out, hb1, t1.front _ _⟩
    · obtain ⟨m, hm⟩ : ∃ m : Nat, (m : Int) = n := ⟨n.toNat, by omega⟩
      have hc : cutLen n = m := by unfold cutLen; omega
      rw [hc]
      subst hm
      have hle : m ≤ 32 := by omega
      have hle2 : (m : Int) ≤ 32 := by omega
      clear hc h32
      go_enter Tryz.func77, Tryz.ntmps77
      go_wp2_with fail
      refine HS.out.mono ?_
      rintro e w1 ⟨v1, rfl, hown1, hb1⟩
      have s1 := HB.of_owns hown1
      obtain ⟨p1, c1, hv1⟩ := owns_shape hown1
      subst hv1
      have t1 := TB.of_owns hown1
      have hl := s1.len.2.1
      have hmx := s1.len.2.2.1
      have s2 := s1.cut 0 m m (by omega) (by omega) (by omega) (by omega)
      have e1 : cutP p1 m 0 = p1 := by unfold cutP; cases p1 <;> simp [Addr.add]
      rw [e1, Nat.sub_zero, List.drop_zero] at s2
      have HS2 : Hid (HB w1 (.slice p1 m m) (D.take m)) := s2
      have hmc : (m : Int) ≤ (c1 : Int) := by omega
      clear hown1 HS s2 e1 s1
      go_wp2_with fail
      go_ret
      exact ⟨_, _, rfl, HS2.out, hb1, t1.front _ _⟩

set_option maxRecDepth 100000 in
set_option maxHeartbeats 1000000 in
theorem hash_ty (size tag er : Int) (v : Value) (L D : List UInt8) (w : World) (hv : ∃ p n c, v = .slice p n c) (hD : D.length = 32)
    (ht : Calls Tryz.prog 76 #[.int .i64 tag, v] w fun e w' => ∃ p c, e = .returned (.tuple #[.slice p L.length c, .int .i64 er]) ∧ HB w' (.slice p L.length c) L ∧ Below w.heap.size w w')
    (hs : ∀ v w', HB w' v L → Below w.heap.size w w' → Calls Tryz.prog 91 #[v] w' fun e w'' => ∃ v', e = .returned v' ∧ w''.ownsRow w'.heap.size 5 1 v' 32 (bcs D) ∧ Below w'.heap.size w' w'') :
    Calls Tryz.prog 61 #[.int .i64 size, .int .i64 tag, v] w fun e w' => ∃ p c, e = .returned (.slice p (hashL size er D).length c) ∧ HB w' (.slice p (hashL size er D).length c) (hashL size er D) ∧ Below w.heap.size w w' ∧ TB w' (.slice p (hashL size er D).length c) := by
  obtain ⟨p, n, c, rfl⟩ := hv
  have HT : Hid (Calls Tryz.prog 76 #[.int .i64 tag, .slice p n c] w fun e w' => ∃ p c, e = .returned (.tuple #[.slice p L.length c, .int .i64 er]) ∧ HB w' (.slice p L.length c) L ∧ Below w.heap.size w w') := ht
  have HS : Hid _ := hs
  have HD : Hid (D.length = 32) := hD
  clear ht hs hD
  by_cases h0 : er = 0
  · subst h0
    have hl : hashL size 0 D = D.take (cutLen size) := by simp [hashL]
    rw [hl]
    clear hl
    have HL : Hid ((D.take (cutLen size)).length = cutLen size) := by
      have := cutLen_le size
      show _ = _
      rw [List.length_take, HD.out]
      omega
    go_enter Tryz.func61, Tryz.ntmps61
    go_wp2_with fail
    refine HT.out.mono ?_
    rintro e w1 ⟨p1, c1, rfl, h1, hb1⟩
    go_wp2_with fail
    refine (cut_ty _ _ _ _ HD.out (HS.out _ _ h1 hb1)).mono ?_
    rintro e w2 ⟨p2, c2, rfl, h2, hb2, t2⟩
    have HH : Hid (HB w2 (.slice p2 (cutLen size) c2) (D.take (cutLen size))) := h2
    clear h1 h2 HT HS
    go_wp2
    go_ret
    refine ⟨p2, c2, ?_, ?_, hb1.trans (hb2.mono hb1.size), t2.front _ _⟩
    · rw [HL.out]; rfl
    · rw [HL.out]; exact HH.out
  · have hl : hashL size er D = [] := by simp [hashL, h0]
    rw [hl]
    clear hl HS HD
    go_enter Tryz.func61, Tryz.ntmps61
    go_wp2_with fail
    refine HT.out.mono ?_
    rintro e w1 ⟨p1, c1, rfl, h1, hb1⟩
    clear HT h1
    go_wp2
    go_ret
    exact ⟨none, 0, rfl, HB.nil _, hb1, TB.nil _ _ _⟩

theorem hash_toT (size : Int) (tag : Nat) (v : Value) (ls : List (List UInt8)) (w : World) (hn : ls.length ≤ 10) (ht : tag ≤ 255) (h : PA w v ls) (hT : Tabs w) :
    Calls Tryz.prog 61 #[.int .i64 size, .int .i64 (tag : Int), v] w fun e w' => ∃ p c, e = .returned (.slice p (hashF size tag ls).length c) ∧ HB w' (.slice p (hashF size tag ls).length c) (hashF size tag ls) ∧ Below w.heap.size w w' ∧ TB w' (.slice p (hashF size tag ls).length c) := by
  obtain ⟨p, c, hv⟩ := h.shape
  by_cases hf : fits ls
  · have hle := body_le ls hf
    have e1 : hashF size tag ls = hashL size 0 (sha (UInt8.ofNat tag :: body ls)) := by
      unfold hashF hashL
      rw [if_pos (show ∀ p ∈ ls, p.length ≤ 65535 from hf), if_pos rfl]
    rw [e1]
    have hl : (UInt8.ofNat tag :: body ls).length ≤ 140737488355328 := by simp; omega
    refine hash_ty size tag 0 v (UInt8.ofNat tag :: body ls) _ w ⟨p, _, c, hv⟩ (sha_length _) ?_ ?_
    · refine (text_ok tag v ls w (by omega) (by omega) h (by omega) hf).mono fun e w' ⟨v', he, ho, hb⟩ => ?_
      have hh := HB.of_owns ho
      obtain ⟨p, c, hv⟩ := hh.shape
      subst hv
      exact ⟨p, c, he, hh, hb⟩
    · intro v w' hv hb
      exact sum_any v _ w' hv hl (hT.later hb)
  · have e1 : hashF size tag ls = hashL size 4 (sha []) := by
      unfold hashF hashL
      rw [if_neg (show ¬ ∀ p ∈ ls, p.length ≤ 65535 from hf), if_neg (by decide)]
    rw [e1]
    refine hash_ty size tag 4 v [] _ w ⟨p, _, c, hv⟩ (sha_length _) ?_ ?_
    · exact (text_full tag v ls w (by omega) (by omega) h (by omega) hf).mono fun e w' ⟨he, hw⟩ => ⟨none, 0, he, HB.nil _, by subst hw; exact Below.refl _ _⟩
    · intro v w' hv hb
      exact sum_any v _ w' hv (by simp) (hT.later hb)

end Go.Proofs.YtganajmhdpiipaaGreatDoor.Vf

namespace Go.Proofs.YtganajmhdpiipaaGreatDoor.Vf
open Go.RowKit

end Go.Proofs.YtganajmhdpiipaaGreatDoor.Vf

namespace Go.Proofs.YtganajmhdpiipaaGreatDoor.Vf
open Go.RowKit

/-- A row of k rows of bytes that the call owns, made by appends. -/
def RS (w : World) (base : Nat) (v : Value) (k : Nat) (sig : Nat → List UInt8) : Prop :=
  ∃ vs : List Value, w.ownsRow base 22 1 v k vs ∧ ∀ (j : Nat) u, vs[j]? = some u → HB w u (sig j) ∧ TB w u

theorem RS.later {w w' : World} {base k : Nat} {v : Value} {sig : Nat → List UInt8} (h : RS w base v k sig) (hb : Below w.heap.size w w') : RS w' base v k sig := by
  obtain ⟨vs, h1, h2⟩ := h
  exact ⟨vs, owns_later h1 hb, fun j u hu => ⟨(h2 j u hu).1.later hb, (h2 j u hu).2.later hb⟩⟩

/-- Bytes in a block of bytes stay where a row of rows grew. -/
theorem hb_grown {w w' : World} {base n : Nat} {v u : Value} {vs : List Value} {l : List UInt8} (ho : w.ownsRow base 22 1 v n vs) (hg : w.grownBy w' v.ownBlock) (h : HB w u l) (t : TB w u) : HB w' u l ∧ TB w' u := by
  have hne : ∀ b o n c, u = .slice (some ⟨b, o, none⟩) n c → some b ≠ v.ownBlock := by
    intro b o n' c e he
    obtain ⟨cur, fr, hb⟩ := t b o n' c e
    rcases ho.2 with ⟨rfl, _⟩ | ⟨g, cap, cur', rfl, _, hg', _⟩
    · simp [Value.ownBlock] at he
    · simp only [Value.ownBlock, Option.some.injEq] at he
      subst he
      rw [hb] at hg'
      simp only [Option.some.injEq, Obj.cells.injEq] at hg'
      exact absurd hg'.2.1 (by decide)
  constructor
  · obtain ⟨p, c, rfl⟩ := h.shape
    by_cases hn : l = []
    · subst hn
      have := h.len
      exact HB.empty _ p c this.2.2.1 this.2.2.2
    · obtain ⟨b, o, rfl, hc⟩ := h.addr (List.length_pos_iff.2 hn)
      have hl := h.len
      refine ⟨_, c, rfl, hl.2.1, hl.2.2.1, hl.2.2.2, fun _ => ⟨b, o, rfl, fun i x hx => hg.cell (hc i x hx) (hne b o _ _ rfl)⟩⟩
  · intro b o n' c e
    obtain ⟨cur, fr, hb⟩ := t b o n' c e
    exact ⟨cur, fr, by rw [hg.block b (Array.getElem?_eq_some_iff.1 hb).1 (hne b o n' c e)]; exact hb⟩

theorem RS.snoc {w w' : World} {base k : Nat} {v v' x : Value} {vs : List Value} {sig : Nat → List UInt8} (h1 : w.ownsRow base 22 1 v k vs) (h2 : ∀ (j : Nat) u, vs[j]? = some u → HB w u (sig j) ∧ TB w u) (hx : HB w x (sig k)) (tx : TB w x)
    (hg : w.grownBy w' v.ownBlock) (ho : w'.ownsRow base 22 1 v' (k + 1) (vs ++ [x])) : RS w' base v' (k + 1) sig := by
  refine ⟨vs ++ [x], ho, fun j u hu => ?_⟩
  have hl := h1.1
  rw [Nat.mul_one] at hl
  by_cases hj : j < k
  · rw [List.getElem?_append_left (by omega)] at hu
    exact hb_grown h1 hg (h2 j u hu).1 (h2 j u hu).2
  · rw [List.getElem?_append_right (by omega), hl] at hu
    cases hjk : j - k with
    | zero =>
      rw [hjk] at hu
      simp at hu
      subst hu
      obtain rfl : j = k := by omega
      exact hb_grown h1 hg hx tx
    | succ m => rw [hjk] at hu; simp at hu

theorem RS.pa {w : World} {base N : Nat} {v : Value} {sig : Nat → List UInt8} (h : RS w base v N sig) : PA w v ((List.range N).map sig) := by
  obtain ⟨vs, h1, h3⟩ := h
  have hl := h1.1
  rw [Nat.mul_one] at hl
  obtain ⟨_, q⟩ := h1
  have hel : ∀ (i : Nat) x l, vs[i]? = some x → ((List.range N).map sig)[i]? = some l → HB w x l := by
    intro i x l hx hl'
    have hi : i < vs.length := (List.getElem?_eq_some_iff.1 hx).1
    have e2 : l = sig i := by
      rw [List.getElem?_map, List.getElem?_range (by omega)] at hl'
      simpa using hl'.symm
    rw [e2]
    exact (h3 i x hx).1
  rcases q with ⟨rfl, h0⟩ | ⟨g, cap, cur, rfl, hb, hg, hle, hm, hsz, ht⟩
  · subst h0
    exact PA.nil w
  · refine ⟨_, cap, vs, by simp, by simpa using hle, hm, (fun h => by cases h), by simp [hl], fun _ => ⟨g, 0, rfl, fun i x hx => ?_⟩, hel⟩
    rw [Nat.zero_add, cell_of_row w g i cur 22 (0, 0) hg]
    have hi : i < vs.length := (List.getElem?_eq_some_iff.1 hx).1
    rw [← ht, List.getElem?_take, if_pos (by omega)] at hx
    simpa using hx

end Go.Proofs.YtganajmhdpiipaaGreatDoor.Vf

namespace Go.Proofs.YtganajmhdpiipaaGreatDoor.Vf
open Go.RowKit

/-- The hash at a level and a place. -/
def treeS (n : Nat) (seed : List UInt8) : Nat → Nat → List UInt8
  | 0, p => keyW n seed p
  | l + 1, p => hashF n 9 [numB ((l + 1 : Nat) : Int), numB (p : Int), treeS n seed l (2 * p), treeS n seed l (2 * p + 1)]

set_option maxRecDepth 100000 in
set_option maxHeartbeats 4000000 in
theorem join_any (size level place : Int) (a b : Value) (x y : List UInt8) (w : World) (ha : HB w a x) (hb : HB w b y) (hT : Tabs w) :
    Calls Tryz.prog 60 #[.int .i64 size, .int .i64 level, .int .i64 place, .agg #[a, b]] w fun e w' => ∃ p c, e = .returned (.slice p (hashF size 9 [numB level, numB place, x, y]).length c) ∧ HB w' (.slice p (hashF size 9 [numB level, numB place, x, y]).length c) (hashF size 9 [numB level, numB place, x, y]) ∧ Below w.heap.size w w' ∧ TB w' (.slice p (hashF size 9 [numB level, numB place, x, y]).length c) := by
  obtain ⟨p, c, rfl⟩ := ha.shape
  obtain ⟨q, d, rfl⟩ := hb.shape
  obtain ⟨F, hF⟩ : ∃ F, F = hashF size 9 [numB level, numB place, x, y] := ⟨_, rfl⟩
  have HF : Hid (F = hashF size 9 [numB level, numB place, x, y]) := hF
  rw [← hF]
  clear hF
  have hA := fun w' => number_to level w'
  have hB := fun w' => number_to place w'
  generalize numB level = A at *
  generalize numB place = B at *
  have bA := (Below.refl _ w).alloc (Nat.le_refl _) (.cells #[.slice p x.length c, .slice q y.length d] 76)
  have e0 : (w.alloc (.cells #[.slice p x.length c, .slice q y.length d] 76)).cell? ⟨w.heap.size, 0, none⟩ = some (.slice p x.length c) := by
    rw [cell_of_row _ _ 0 _ _ _ (heap_alloc_new w _)]
    simp
  have e1 : (w.alloc (.cells #[.slice p x.length c, .slice q y.length d] 76)).cell? ⟨w.heap.size, 1, none⟩ = some (.slice q y.length d) := by
    rw [cell_of_row _ _ 1 _ _ _ (heap_alloc_new w _)]
    simp
  have ha1 := ha.later bA
  have hb1 := hb.later bA
  have hT1 := hT.later bA
  go_enter Tryz.func60, Tryz.ntmps60
  go_wp2
  generalize w.alloc (.cells #[.slice p x.length c, .slice q y.length d] 76) = wa at *
  go_region_held3 (fun w' => w'.cell? ⟨w.heap.size, 0, none⟩ = some (.slice p x.length c) ∧ w'.cell? ⟨w.heap.size, 1, none⟩ = some (.slice q y.length d)) (first | exact ⟨e0, e1⟩ | exact ⟨f0, f1⟩ | exact ⟨g0, g1⟩ | exact ⟨i0, i1⟩ | exact ⟨cell_later ((Below.refl _ _).alloc (Nat.le_refl _) _) g0, cell_later ((Below.refl _ _).alloc (Nat.le_refl _) _) g1⟩) (first
    | (go_at_call_of 75 (Value.int IntKind.i64 level); refine (hA _).mono ?_; rintro e w1 ⟨p1, c1, rfl, h1, hb1'⟩; have hbw1 : Below wa.heap.size wa w1 := Below.trans (by repeat (first | exact Below.refl _ _ | refine Below.drew ?_)) hb1'; have f0 := cell_later hbw1 e0; have f1 := cell_later hbw1 e1)
    | (go_at_call_of 75 (Value.int IntKind.i64 place); refine (hB _).mono ?_; rintro e w2 ⟨p2, c2, rfl, h2, hb2'⟩; have hbw2 : Below wa.heap.size wa w2 := hbw1.trans (hb2'.mono hbw1.size); have g0 := cell_later hbw2 e0; have g1 := cell_later hbw2 e1; have k1 := h1.later hb2'; have ka := ha1.later hbw2; have kb := hb1.later hbw2; have kT := hT1.later hbw2)
    | (go_at_call 61; refine (hash_toT size 9 _ [A, B, x, y] _ (by simp) (by decide) (PA.lit w2 22 [_, _, _, _] _ 4 rfl rfl (by decide) (four_hb k1 h2 ka kb)) (kT.later ((Below.refl _ w2).alloc (Nat.le_refl _) _))).mono ?_; rintro e w3 ⟨p3, c3, rfl, h3, hb3', t3⟩; have hbw3 : Below wa.heap.size wa w3 := (hbw2.alloc hbw2.size _).trans (hb3'.mono (by have := hbw2.size; simp; omega)); have i0 := cell_later hbw3 e0; have i1 := cell_later hbw3 e1))
  all_goals
    rw [← HF.out] at h3 t3 ⊢
    have hbw : Below w.heap.size w w3 := bA.trans (hbw3.mono bA.size)
    go_wp2
    go_ret
    exact ⟨_, _, rfl, h3, hbw, t3⟩

end Go.Proofs.YtganajmhdpiipaaGreatDoor.Vf

namespace Go.Proofs.YtganajmhdpiipaaGreatDoor.Vf
open Go.RowKit

/-- A made list of N rows of bytes that the call owns, the first k of them told. -/
def RQ (w : World) (base g N k : Nat) (sig : Nat → List UInt8) : Prop :=
  ∃ vs : List Value, w.ownsRow base 22 1 (.slice (some ⟨g, 0, none⟩) N N) N vs ∧ ∀ (j : Nat) u, j < k → vs[j]? = some u → HB w u (sig j) ∧ TB w u

theorem RQ.later {w w' : World} {base g N k : Nat} {sig : Nat → List UInt8} (h : RQ w base g N k sig) (hb : Below w.heap.size w w') : RQ w' base g N k sig := by
  obtain ⟨vs, h1, h3⟩ := h
  exact ⟨vs, owns_later h1 hb, fun j u hj hu => ⟨(h3 j u hj hu).1.later hb, (h3 j u hj hu).2.later hb⟩⟩

theorem RQ.rs {w : World} {base g N : Nat} {sig : Nat → List UInt8} (h : RQ w base g N N sig) : RS w base (.slice (some ⟨g, 0, none⟩) N N) N sig := by
  obtain ⟨vs, h1, h3⟩ := h
  have hl := h1.1
  rw [Nat.mul_one] at hl
  exact ⟨vs, h1, fun j u hu => h3 j u (by have := (List.getElem?_eq_some_iff.1 hu).1; omega) hu⟩

theorem RQ.cell {w : World} {base g N k : Nat} {sig : Nat → List UInt8} (h : RQ w base g N k sig) (i : Nat) (hi : i < N) : ∃ y, w.cell? ⟨g, i, none⟩ = some y ∧ w.frozen? ⟨g, i, none⟩ = false := by
  obtain ⟨vs, q1, _⟩ := h
  have hl := q1.1
  rw [Nat.mul_one] at hl
  have hc := q1.cellAt i (by omega)
  rw [List.getElem?_eq_getElem (by omega)] at hc
  exact ⟨_, hc, q1.frozenAt i⟩

theorem RQ.put {w : World} {base g N k : Nat} {sig : Nat → List UInt8} (h : RQ w base g N k sig) (x : Value) (hx : HB w x (sig k)) (tx : TB w x) : RQ (w.setCell ⟨g, k, none⟩ x) base g N (k + 1) sig := by
  obtain ⟨vs, h1, h3⟩ := h
  obtain ⟨q1, q2⟩ := h1.stored k x
  refine ⟨vs.set k x, q1, fun j u hj hu => ?_⟩
  by_cases hjk : k = j
  · subst hjk
    rw [List.getElem?_set_self'] at hu
    cases hv : vs[k]? with
    | none => rw [hv] at hu; simp at hu
    | some y =>
      rw [hv] at hu
      simp at hu
      subst hu
      exact hb_grown h1 q2 hx tx
  · rw [List.getElem?_set_ne hjk] at hu
    obtain ⟨a, b⟩ := h3 j u (by omega) hu
    exact hb_grown h1 q2 a b

theorem RS.addr {w : World} {base N : Nat} {v : Value} {sig : Nat → List UInt8} (h : RS w base v N sig) (hN : 0 < N) : ∃ g cap, v = .slice (some ⟨g, 0, none⟩) N cap ∧ base ≤ g ∧ g < w.heap.size ∧ N ≤ maxLen ∧ ∀ i, i < N → ∃ p c, w.cell? ⟨g, i, none⟩ = some (.slice p (sig i).length c) ∧ HB w (.slice p (sig i).length c) (sig i) ∧ TB w (.slice p (sig i).length c) := by
  obtain ⟨vs, h1, h2⟩ := h
  have hl := h1.1
  rw [Nat.mul_one] at hl
  have h1' := h1
  rcases h1'.2 with ⟨rfl, h0⟩ | ⟨g, cap, cur, rfl, hb, hg, hle, hm, hsz, ht⟩
  · omega
  · refine ⟨g, cap, rfl, hb, (Array.getElem?_eq_some_iff.1 hg).1, by omega, fun i hi => ?_⟩
    obtain ⟨u, hvi⟩ : ∃ u, vs[i]? = some u := ⟨_, List.getElem?_eq_getElem (by omega)⟩
    obtain ⟨q1, q2⟩ := h2 i u hvi
    obtain ⟨p, c, e⟩ := q1.shape
    refine ⟨p, c, ?_, by rw [← e]; exact q1, by rw [← e]; exact q2⟩
    rw [cell_of_row w g i cur 22 (0, 0) hg, ← e]
    rw [← ht, List.getElem?_take, if_pos (by omega)] at hvi
    simpa using hvi

end Go.Proofs.YtganajmhdpiipaaGreatDoor.Vf

namespace Go.Proofs.YtganajmhdpiipaaGreatDoor.Vf
open Go.RowKit

end Go.Proofs.YtganajmhdpiipaaGreatDoor.Vf

namespace Go.Proofs.YtganajmhdpiipaaGreatDoor.Vf
open Go.RowKit

theorem owns_only {w w' : World} {g base e s n : Nat} {v : Value} {xs : List Value} (h : w.ownsRow base e s v n xs) (ho : Only g w w') (hg : g < base) : w'.ownsRow base e s v n xs := by
  refine ⟨h.1, ?_⟩
  rcases h.2 with hn | ⟨k, cap, cur, rfl, hb, hk, rest⟩
  · exact .inl hn
  · refine .inr ⟨k, cap, cur, rfl, hb, ?_, rest⟩
    rw [ho.block k (by omega) (Array.getElem?_eq_some_iff.1 hk).1]
    exact hk

/-- Bytes in a block of bytes stay where a row of lists grew. -/
theorem hb_grownR {w w' : World} {base n : Nat} {v u : Value} {vs : List Value} {l : List UInt8} (ho : w.ownsRow base 23 1 v n vs) (hg : w.grownBy w' v.ownBlock) (h : HB w u l) (t : TB w u) : HB w' u l ∧ TB w' u := by
  have hne : ∀ b o n c, u = .slice (some ⟨b, o, none⟩) n c → some b ≠ v.ownBlock := by
    intro b o n' c e he
    obtain ⟨cur, fr, hb⟩ := t b o n' c e
    rcases ho.2 with ⟨rfl, _⟩ | ⟨g, cap, cur', rfl, _, hg', _⟩
    · simp [Value.ownBlock] at he
    · simp only [Value.ownBlock, Option.some.injEq] at he
      subst he
      rw [hb] at hg'
      simp only [Option.some.injEq, Obj.cells.injEq] at hg'
      exact absurd hg'.2.1 (by decide)
  constructor
  · obtain ⟨p, c, rfl⟩ := h.shape
    by_cases hn : l = []
    · subst hn
      have := h.len
      exact HB.empty _ p c this.2.2.1 this.2.2.2
    · obtain ⟨b, o, rfl, hc⟩ := h.addr (List.length_pos_iff.2 hn)
      have hl := h.len
      refine ⟨_, c, rfl, hl.2.1, hl.2.2.1, hl.2.2.2, fun _ => ⟨b, o, rfl, fun i x hx => hg.cell (hc i x hx) (hne b o _ _ rfl)⟩⟩
  · intro b o n' c e
    obtain ⟨cur, fr, hb⟩ := t b o n' c e
    exact ⟨cur, fr, by rw [hg.block b (Array.getElem?_eq_some_iff.1 hb).1 (hne b o n' c e)]; exact hb⟩

theorem RS.grown {w w' : World} {base0 base n N : Nat} {v u : Value} {vs : List Value} {sig : Nat → List UInt8} (ho : w.ownsRow base0 23 1 v n vs) (hg : w.grownBy w' v.ownBlock) (r : RS w base u N sig) : RS w' base u N sig := by
  obtain ⟨us, h1, h2⟩ := r
  exact ⟨us, h1.kept hg (owns_apart h1 ho (by decide)), fun j x hx => hb_grownR ho hg (h2 j x hx).1 (h2 j x hx).2⟩

theorem RS.mono {w : World} {base base' N : Nat} {v : Value} {sig : Nat → List UInt8} (r : RS w base v N sig) (hb : base' ≤ base) : RS w base' v N sig := by
  obtain ⟨vs, h1, h2⟩ := r
  exact ⟨vs, owns_mono h1 hb, h2⟩

/-- The first m levels of the tree. -/
def TL (w : World) (base n h : Nat) (seed : List UInt8) (v : Value) (m : Nat) : Prop :=
  ∃ vs : List Value, w.ownsRow base 23 1 v m vs ∧ ∀ (j : Nat) u, vs[j]? = some u → RS w base u (2 ^ (h - j)) (treeS n seed j)

end Go.Proofs.YtganajmhdpiipaaGreatDoor.Vf

namespace Go.Proofs.YtganajmhdpiipaaGreatDoor.Vf
open Go.RowKit

theorem i_rows : (Tryz.prog.info? 23).map (fun i => (i.zero, i.size, i.bytes)) = some (some (.slice none 0 0), 1, 24) := by kernel_rfl

theorem _root_.Go.Proofs.YtganajmhdpiipaaGreatDoor.Tabs.only {g : Nat} {w w' : World} (h : Tabs w) (ho : Only g w w') (hg : 3 < g) : Tabs w' := by
  obtain ⟨⟨t, fr, h0⟩, h1⟩ := h
  refine ⟨⟨t, fr, ?_⟩, ?_⟩
  · rw [ho.block 2 (by omega) (Array.getElem?_eq_some_iff.1 h0).1]
    exact h0
  · intro i x hx
    have hc := h1 i x hx
    rw [World.cell?_of_block (ho.block 3 (by omega) (cell_lt hc))]
    exact hc

end Go.Proofs.YtganajmhdpiipaaGreatDoor.Vf

namespace Go.Proofs.YtganajmhdpiipaaGreatDoor.Vf
open Go.RowKit

theorem TL.mono {w : World} {base base' n h m : Nat} {seed : List UInt8} {v : Value} (t : TL w base n h seed v m) (hb : base' ≤ base) : TL w base' n h seed v m := by
  obtain ⟨vs, h1, h2⟩ := t
  exact ⟨vs, owns_mono h1 hb, fun j u hu => (h2 j u hu).mono hb⟩

/-- Whether there are digests of that size, and a tree of that height. -/
def mcanB (size height : Int) : Bool := decide (1 ≤ size ∧ size ≤ 32 ∧ 0 ≤ height ∧ height ≤ 8)

set_option maxRecDepth 100000 in
set_option maxHeartbeats 400000 in
theorem mcan_any (size height : Int) (w : World) :
    Calls Tryz.prog 50 #[.int .i64 size, .int .i64 height] w fun e w' => e = .returned (.bool (mcanB size height)) ∧ w' = w := by
  obtain ⟨B, hB⟩ : ∃ B, B = mcanB size height := ⟨_, rfl⟩
  rw [← hB]
  have hBt : 1 ≤ size → size ≤ 32 → 0 ≤ height → height ≤ 8 → B = true := by
    intros; rw [hB]; simp [mcanB]; omega
  have hBf : ¬ (1 ≤ size ∧ size ≤ 32 ∧ 0 ≤ height ∧ height ≤ 8) → B = false := by
    intro h; rw [hB]; simp only [mcanB, decide_eq_false_iff_not]; exact h
  clear hB
  go_enter Tryz.func50, Tryz.ntmps50
  by_cases h1 : 1 ≤ size
  · by_cases h2 : size ≤ 32
    · by_cases h3 : 0 ≤ height
      · by_cases h4 : height ≤ 8
        · obtain rfl := hBt h1 h2 h3 h4
          clear hBt hBf
          go_wp2
          go_ret
          exact ⟨rfl, rfl⟩
        · obtain rfl := hBf (by omega)
          clear hBt hBf
          go_wp2
          go_ret
          exact ⟨rfl, rfl⟩
      · obtain rfl := hBf (by omega)
        clear hBt hBf
        go_wp2
        go_ret
        exact ⟨rfl, rfl⟩
    · obtain rfl := hBf (by omega)
      clear hBt hBf
      go_wp2
      go_ret
      exact ⟨rfl, rfl⟩
  · obtain rfl := hBf (by omega)
    clear hBt hBf
    go_wp2
    go_ret
    exact ⟨rfl, rfl⟩

theorem TL.get {w : World} {base n h m : Nat} {seed : List UInt8} {v : Value} (t : TL w base n h seed v m) (hm : 0 < m) : ∃ gl cl, v = .slice (some ⟨gl, 0, none⟩) m cl ∧ base ≤ gl ∧ m ≤ maxLen ∧ ∀ j, j < m → ∃ gr cr, w.cell? ⟨gl, j, none⟩ = some (.slice (some ⟨gr, 0, none⟩) (2 ^ (h - j)) cr) ∧ RS w base (.slice (some ⟨gr, 0, none⟩) (2 ^ (h - j)) cr) (2 ^ (h - j)) (treeS n seed j) := by
  obtain ⟨vs, h1, h2⟩ := t
  have hl := h1.1
  rw [Nat.mul_one] at hl
  rcases h1.2 with ⟨rfl, h0⟩ | ⟨g, cap, cur, rfl, hb, hg, hle, hmx, hsz, ht⟩
  · omega
  · refine ⟨g, cap, rfl, hb, by omega, fun j hj => ?_⟩
    obtain ⟨u, hvi⟩ : ∃ u, vs[j]? = some u := ⟨_, List.getElem?_eq_getElem (by omega)⟩
    have hr := h2 j u hvi
    obtain ⟨gr, cr, rfl, _⟩ := hr.addr (Nat.pos_of_ne_zero (by simp))
    refine ⟨gr, cr, ?_, hr⟩
    rw [cell_of_row w g j cur 23 (0, 0) hg]
    rw [← ht, List.getElem?_take, if_pos (by omega)] at hvi
    simpa using hvi

theorem treeS_len (n : Nat) (seed : List UInt8) (l p : Nat) : (treeS n seed l p).length ≤ 32 := by
  cases l with
  | zero => exact hashF_len _ _ _
  | succ l => exact hashF_len _ _ _

end Go.Proofs.YtganajmhdpiipaaGreatDoor.Vf

namespace Go.Proofs.YtganajmhdpiipaaGreatDoor.Vf
open Go.RowKit

theorem pow_wrap (h : Nat) (hh : h ≤ 8) : wrap64 ((2 : Int) ^ h) = ((2 ^ h : Nat) : Int) := by
  have hN : 2 ^ h ≤ 256 := Nat.pow_le_pow_right (by decide) hh (n := 2)
  have e : ((2 : Int) ^ h) = ((2 ^ h : Nat) : Int) := by push_cast; rfl
  rw [e]
  generalize 2 ^ h = N at *
  unfold wrap64
  omega

/-- Whether a tree of that height has a key of that number. -/
def withinB (index : Int) (h : Nat) : Bool := decide (0 ≤ index ∧ index < ((2 ^ h : Nat) : Int))

set_option maxRecDepth 100000 in
set_option maxHeartbeats 1000000 in
theorem within_any (index : Int) (h : Nat) (w : World) (hh : h ≤ 8) :
    Calls Tryz.prog 57 #[.int .i64 index, .int .i64 (h : Int)] w fun e w' => e = .returned (.bool (withinB index h)) ∧ w' = w := by
  have HW : Hid (wrap64 ((2 : Int) ^ h) = ((2 ^ h : Nat) : Int)) := pow_wrap h hh
  have HB : Hid (withinB index h = decide (0 ≤ index ∧ index < ((2 ^ h : Nat) : Int))) := rfl
  generalize withinB index h = B at *
  generalize 2 ^ h = N at *
  have hh2 : (h : Int) ≤ 8 := by omega
  go_enter Tryz.func57, Tryz.ntmps57
  by_cases h1 : 0 ≤ index
  · go_wp2
    rw [HW.out]
    go_ret
    rw [HB.out]
    by_cases h2 : index < (N : Int)
    · simp [h1, h2]
    · simp [h2]
  · have hd : decide (0 ≤ index) = false := by simpa using h1
    have e : B = false := by
      rw [HB.out, decide_eq_false_iff_not]
      omega
    subst e
    go_wp2
    go_ret
    exact ⟨rfl, rfl⟩

set_option maxRecDepth 100000 in
set_option maxHeartbeats 1000000 in
theorem lengths_any (n : Nat) (h : Int) (w : World) (hn : n ≤ 32) :
    Calls Tryz.prog 51 #[.int .i64 (n : Int), .int .i64 h] w fun e w' => e = .returned (.agg #[.int .i64 (4 * (n : Int) + 5), .int .i64 h]) ∧ Below w.heap.size w w' := by
  obtain ⟨i0, hi, hz0, hz1, hz2⟩ := info_parts i_u8
  have b1 := (Below.refl _ w).alloc (Nat.le_refl _) (.cells #[.int .i64 0, .int .i64 0] 71)
  have hsz : (w.alloc (.cells #[.int .i64 0, .int .i64 0] 71)).heap.size = w.heap.size + 1 := by simp
  have g1 : (w.alloc (.cells #[.int .i64 0, .int .i64 0] 71)).heap[w.heap.size]? = some (.cells #[.int .i64 0, .int .i64 0] 71 (0, 0)) := heap_alloc_new w _
  go_enter Tryz.func51, Tryz.ntmps51
  go_wp2_with (first | (at_make; refine wpList_make_full _ rfl _ _ 22 rfl (w.heap.size + 1) 5 i0 (.int .u8 0) 1 Tryz.underlying22 hi hz0 hz1 .i64 .i64 _ _ n rfl rfl ?_ ?_ ?_ ?_ ?_ ?_))
  all_goals (try (first | omega | (unfold maxLen; omega) | (rw [hz2]; omega) | (simp)))
  intro w1 hown1 hgrow1
  rw [made_bcs] at hown1
  have hb1 : Below (w.heap.size + 1) (w.alloc (.cells #[.int .i64 0, .int .i64 0] 71)) w1 := (Below.refl _ _).grown hgrow1 (by omega) (by intro k hk; cases hk)
  have hD := digits_any _ _ w1 (HB.of_owns hown1)
  have HdL : Hid ((digF (List.replicate n 0)).length = 4 * n + 5) := by
    show (digF (List.replicate n 0)).length = 4 * n + 5
    rw [digF_length, List.length_replicate]
    omega
  rw [HdL.out] at hD
  clear hown1 hgrow1
  go_wp2_with fail
  refine hD.mono ?_
  rintro e w2 ⟨v2, rfl, o2, hb2⟩
  obtain ⟨p2, c2, hv2⟩ := owns_shape o2
  subst hv2
  have hb12 := hb1.trans (hb2.mono (by have := hb1.size; omega))
  have hg2 : w2.heap[w.heap.size]? = some (.cells #[.int .i64 0, .int .i64 0] 71 (0, 0)) := by
    rw [hb12.block w.heap.size (by omega)]
    exact g1
  have q0 := cell_of_row w2 w.heap.size 0 _ _ _ hg2
  have q1 := cell_of_row w2 w.heap.size 1 _ _ _ hg2
  have f0 : w2.frozen? ⟨w.heap.size, 0, none⟩ = false := by simp [World.frozen?, hg2]
  have f1 : w2.frozen? ⟨w.heap.size, 1, none⟩ = false := by simp [World.frozen?, hg2]
  simp at q0 q1
  clear o2 hD
  go_wp2
  have hbe : Below w.heap.size w ((w2.setCell ⟨w.heap.size, 0, none⟩ (.int .i64 (4 * (n : Int) + 5))).setCell ⟨w.heap.size, 1, none⟩ (.int .i64 h)) := ((b1.trans (hb12.mono (Nat.le_succ _))).setCell (Nat.le_refl _) _).setCell (Nat.le_refl _) _
  refine bodyPost_ret (v := .agg #[.int .i64 (4 * (n : Int) + 5), .int .i64 h]) ?_ rfl ⟨rfl, hbe⟩
  simp only [results, Tryz.results51]
  go_simp

set_option maxRecDepth 100000 in
set_option maxHeartbeats 1000000 in
theorem lists_any (idx : Int) (p q : Option Addr) (n c m d : Nat) (w : World) :
    Calls Tryz.prog 41 #[.agg #[.int .i64 idx, .slice p n c, .slice q m d]] w fun e w' => e = .returned (.agg #[.slice p n c, .slice q m d]) ∧ Below w.heap.size w w' := by
  have b1 := (Below.refl _ w).alloc (Nat.le_refl _) (.cells #[.int .i64 idx, .slice p n c, .slice q m d] 27)
  have b2 := b1.alloc b1.size (.cells #[.slice p n c, .slice q m d] 64)
  go_enter Tryz.func41, Tryz.ntmps41
  go_wp2
  refine bodyPost_ret (v := .agg #[.slice p n c, .slice q m d]) ?_ rfl ⟨rfl, b2⟩
  simp only [results, Tryz.results41]
  go_simp

end Go.Proofs.YtganajmhdpiipaaGreatDoor.Vf

namespace Go.Proofs.YtganajmhdpiipaaGreatDoor.Vf
open Go.RowKit

/-- A list has N rows of n bytes each. -/
def shpB (n N : Nat) (L : List (List UInt8)) : Bool := decide (L.length = N) && L.all fun l => decide (l.length = n)

theorem shpB_len {n N : Nat} {L : List (List UInt8)} (h : L.length ≠ N) : shpB n N L = false := by simp [shpB, h]
theorem shpB_bad {n N k : Nat} {L : List (List UInt8)} {l : List UInt8} (hg : L[k]? = some l) (hl : l.length ≠ n) : shpB n N L = false := by
  simp only [shpB, Bool.and_eq_false_iff, List.all_eq_false]
  exact .inr ⟨l, List.mem_of_getElem? hg, by simpa using hl⟩
theorem shpB_all {n N : Nat} {L : List (List UInt8)} (h : L.length = N) (ha : ∀ l ∈ L, l.length = n) : shpB n N L = true := by
  simp only [shpB, Bool.and_eq_true, decide_eq_true_eq, List.all_eq_true]
  exact ⟨h, ha⟩

theorem run_index2 (a0 a1 : Option Addr) (n0 c0 n1 c1 : Nat) (w : World) : (Instr.index 64 (.agg #[.slice a0 n0 c0, .slice a1 n1 c1]) (.int .i64 0)).run Tryz.prog w = .ok (.slice a0 n0 c0) w ∧ (Instr.index 64 (.agg #[.slice a0 n0 c0, .slice a1 n1 c1]) (.int .i64 1)).run Tryz.prog w = .ok (.slice a1 n1 c1) w := by
  have hu : Tryz.prog.underlying 64 = some (.array 2 23) := Tryz.underlying64
  have hs : (Tryz.prog.info? 23).map (·.size) = some 1 := by kernel_rfl
  obtain ⟨i, hi, hs⟩ := Option.map_eq_some_iff.1 hs
  constructor
  · simp [Instr.index, run_underlying hu, asIntOf, Go.sizeOf, typeInfo, hi, Result.andThen, go_sem]
  · simp [Instr.index, run_underlying hu, asIntOf, Go.sizeOf, typeInfo, hi, hs, Result.andThen, go_sem]

set_option maxRecDepth 100000 in
set_option maxHeartbeats 4000000 in
theorem shaped_any (n h : Nat) (idx : Int) (ca pa : Value) (ls ps : List (List UInt8)) (w : World) (hc : PA w ca ls) (hp : PA w pa ps) (hn : n ≤ 32) (hh : h ≤ 8) :
    Calls Tryz.prog 58 #[.int .i64 (n : Int), .int .i64 (h : Int), .agg #[.int .i64 idx, ca, pa]] w fun e w' => e = .returned (.bool (shpB n (4 * n + 5) ls && shpB n h ps)) ∧ Below w.heap.size w w' := by
  obtain ⟨p, c, rfl⟩ := hc.shape
  obtain ⟨q, d, rfl⟩ := hp.shape
  have hcm := hc.len.2
  have hpm := hp.len.2
  unfold maxLen at hcm hpm
  have hL := fun w' => lengths_any n h w' hn
  have hS := fun w' => lists_any idx p q ls.length c ps.length d w'
  have b1 := (Below.refl _ w).alloc (Nat.le_refl _) (.cells #[.int .i64 idx, .slice p ls.length c, .slice q ps.length d] 27)
  have g1 : (w.alloc (.cells #[.int .i64 idx, .slice p ls.length c, .slice q ps.length d] 27)).heap[w.heap.size]? = some (.cells #[.int .i64 idx, .slice p ls.length c, .slice q ps.length d] 27 (0, 0)) := heap_alloc_new w _
  generalize hBB : (shpB n (4 * n + 5) ls && shpB n h ps) = BB at *
  have HBB : Hid ((shpB n (4 * n + 5) ls && shpB n h ps) = BB) := hBB
  clear hBB
  go_enter Tryz.func58, Tryz.ntmps58
  go_wp2_with fail
  refine (hL _).mono ?_
  rintro e w1 ⟨rfl, hb1⟩
  have hb01 := b1.trans (hb1.mono b1.size)
  have hs1 := hb01.size
  have g2 : w1.heap[w.heap.size]? = some (.cells #[.int .i64 idx, .slice p ls.length c, .slice q ps.length d] 27 (0, 0)) := by
    rw [hb1.block w.heap.size (by simp)]
    exact g1
  have hlt1 : w.heap.size < w1.heap.size := (Array.getElem?_eq_some_iff.1 g2).1
  have b2 := (Below.refl _ w1).alloc (Nat.le_refl _) (.cells #[.int .i64 (4 * (n : Int) + 5), .int .i64 (h : Int)] 71)
  have g3 : (w1.alloc (.cells #[.int .i64 (4 * (n : Int) + 5), .int .i64 (h : Int)] 71)).heap[w.heap.size]? = some (.cells #[.int .i64 idx, .slice p ls.length c, .slice q ps.length d] 27 (0, 0)) := by
    rw [b2.block w.heap.size hlt1]
    exact g2
  have s0 := cell_of_row _ w.heap.size 0 _ _ _ g3
  have s1 := cell_of_row _ w.heap.size 1 _ _ _ g3
  have s2 := cell_of_row _ w.heap.size 2 _ _ _ g3
  have n0 : (w1.alloc (.cells #[.int .i64 (4 * (n : Int) + 5), .int .i64 (h : Int)] 71)).cell? ⟨w1.heap.size, 0, none⟩ = some (.int .i64 (4 * (n : Int) + 5)) := by
    rw [cell_of_row _ _ 0 _ _ _ (heap_alloc_new w1 _)]
    rfl
  have n1 : (w1.alloc (.cells #[.int .i64 (4 * (n : Int) + 5), .int .i64 (h : Int)] 71)).cell? ⟨w1.heap.size, 1, none⟩ = some (.int .i64 (h : Int)) := by
    rw [cell_of_row _ _ 1 _ _ _ (heap_alloc_new w1 _)]
    rfl
  simp at s0 s1 s2
  have hb02 := hb01.alloc hs1 (.cells #[.int .i64 (4 * (n : Int) + 5), .int .i64 (h : Int)] 71)
  clear g1 g2 g3 b1 hb1 b2 hL
  go_wp2_with fail
  generalize w1.alloc (.cells #[.int .i64 (4 * (n : Int) + 5), .int .i64 (h : Int)] 71) = w2 at *
  refine (hS _).mono ?_
  rintro e w3 ⟨rfl, hb3⟩
  have m0 := cell_later hb3 n0
  have m1 := cell_later hb3 n1
  have hb03 := hb02.trans (hb3.mono hb02.size)
  have hc3 := hc.later hb03
  have hp3 := hp.later hb03
  clear s0 s1 s2 n0 n1 hb02 hb3 hS hc hp
  go_wp2
  go_loop [17] (fun i => ∃ k : Nat, k ≤ 2 ∧ i = .int .i64 k ∧ Hid (1 ≤ k → shpB n (4 * n + 5) ls = true) ∧ Hid (2 ≤ k → shpB n h ps = true)) (fun i => 2 - (intOf i).toNat)
  case atStart => exact ⟨0, by omega, rfl, (by intro h; omega), (by intro h; omega)⟩
  case round =>
    obtain ⟨k, hk, rfl, hk1, hk2⟩ := hrel
    have hI := fun n0 n1 w' => run_index2 p q n0 c n1 d w'
    have hI0 := fun n0 n1 w' => (hI n0 n1 w').1
    have hI1 := fun n0 n1 w' => (hI n0 n1 w').2
    clear hI
    rcases (show k = 0 ∨ k = 1 ∨ k = 2 by omega) with rfl | rfl | rfl
    · skip
      by_cases hlen : ls.length = 4 * n + 5
      · have HL : Hid (ls.length = 4 * n + 5) := hlen
        rw [hlen] at hc3 ⊢
        clear hlen
        go_wp2
        go_loop [29] (fun i => ∃ k : Nat, k ≤ 4 * n + 5 ∧ i = .int .i64 k ∧ Hid (∀ l ∈ ls.take k, l.length = n)) (fun i => 4 * n + 5 - (intOf i).toNat)
        case atStart => exact ⟨0, Nat.zero_le _, rfl, (by intro l hl; simp at hl)⟩
        case round =>
          obtain ⟨k, hk, rfl, HA⟩ := hrel
          by_cases hlt : k < 4 * n + 5
          · obtain ⟨b, o, rfl⟩ := hc3.addr (by omega)
            obtain ⟨q6, k6, l, g, ec, hl⟩ := hc3.get k hlt
            have hlt2 : (k : Int) < 4 * (n : Int) + 5 := by omega
            have hlm := hl.len.2
            unfold maxLen at hlm
            by_cases hln : l.length = n
            · have HA2 : Hid (∀ l ∈ ls.take (k + 1), l.length = n) := by
                intro x hx
                rw [List.take_add_one, g.out] at hx
                rcases List.mem_append.1 hx with hx | hx
                · exact HA.out x hx
                · simp at hx; subst hx; exact hln
              rw [hln] at ec hl
              clear hln HA
              go_wp2
              go_round
              case rel => exact ⟨k + 1, by omega, by go_num, HA2⟩
              case measure => simp [intOf]; omega
            · have e1 : BB = false := by
                rw [← HBB.out, shpB_bad (N := 4 * n + 5) g.out hln]
                simp
              subst e1
              have hln2 : ¬ (l.length : Int) = (n : Int) := by omega
              go_wp2
              go_ret
              exact ⟨rfl, hb03⟩
          · obtain rfl : k = 4 * n + 5 := by omega
            have e1 : shpB n (4 * n + 5) ls = true := by
              have := HA.out
              rw [List.take_of_length_le (by rw [HL.out]; omega)] at this
              exact shpB_all HL.out this
            go_wp2
            go_round
            case rel => exact ⟨1, by omega, rfl, (fun _ => e1), (by intro h; omega)⟩
            case measure => simp [intOf]
      · have e1 : BB = false := by
          rw [← HBB.out, shpB_len (n := n) hlen]
          simp
        subst e1
        have hlen2 : ¬ (ls.length : Int) = 4 * (n : Int) + 5 := by omega
        go_wp2
        go_ret
        exact ⟨rfl, hb03⟩
    · skip
      by_cases hlen : ps.length = h
      · have HL : Hid (ps.length = h) := hlen
        rw [hlen] at hp3 ⊢
        clear hlen
        go_wp2
        go_loop [29] (fun i => ∃ k : Nat, k ≤ h ∧ i = .int .i64 k ∧ Hid (∀ l ∈ ps.take k, l.length = n)) (fun i => h - (intOf i).toNat)
        case atStart => exact ⟨0, Nat.zero_le _, rfl, (by intro l hl; simp at hl)⟩
        case round =>
          obtain ⟨k, hk, rfl, HA⟩ := hrel
          by_cases hlt : k < h
          · obtain ⟨b, o, rfl⟩ := hp3.addr (by omega)
            obtain ⟨q6, k6, l, g, ec, hl⟩ := hp3.get k hlt
            have hlt2 : (k : Int) < (h : Int) := by omega
            have hlm := hl.len.2
            unfold maxLen at hlm
            by_cases hln : l.length = n
            · have HA2 : Hid (∀ l ∈ ps.take (k + 1), l.length = n) := by
                intro x hx
                rw [List.take_add_one, g.out] at hx
                rcases List.mem_append.1 hx with hx | hx
                · exact HA.out x hx
                · simp at hx; subst hx; exact hln
              rw [hln] at ec hl
              clear hln HA
              go_wp2
              go_round
              case rel => exact ⟨k + 1, by omega, by go_num, HA2⟩
              case measure => simp [intOf]; omega
            · have e1 : BB = false := by
                rw [← HBB.out, shpB_bad (N := h) g.out hln]
                simp
              subst e1
              have hln2 : ¬ (l.length : Int) = (n : Int) := by omega
              go_wp2
              go_ret
              exact ⟨rfl, hb03⟩
          · obtain rfl : h = k := by omega
            have e1 : shpB n (h) ps = true := by
              have := HA.out
              rw [List.take_of_length_le (by rw [HL.out]; omega)] at this
              exact shpB_all HL.out this
            go_wp2
            go_round
            case rel => exact ⟨2, by omega, rfl, (fun _ => hk1.out (by omega)), (fun _ => e1)⟩
            case measure => simp [intOf]
      · have e1 : BB = false := by
          rw [← HBB.out, shpB_len (n := n) hlen]
          simp
        subst e1
        have hlen2 : ¬ (ps.length : Int) = (h : Int) := by omega
        go_wp2
        go_ret
        exact ⟨rfl, hb03⟩
    · have e1 : BB = true := by rw [← HBB.out, hk1.out (by omega), hk2.out (by omega)]; rfl
      subst e1
      go_wp2
      go_ret
      exact ⟨rfl, hb03⟩

end Go.Proofs.YtganajmhdpiipaaGreatDoor.Vf

namespace Go.Proofs.YtganajmhdpiipaaGreatDoor.Vf
open Go.RowKit

set_option maxRecDepth 100000 in
set_option maxHeartbeats 4000000 in
theorem closedR_any (n : Nat) (index : Int) (q1 q2 q3 q4 : Value) (E : Nat → List UInt8) (w : World) (hn : 1 ≤ n) (hn2 : n ≤ 32) (hE : ∀ i, (E i).length ≤ n) (hT : Tabs w)
    (hf : ∀ (i : Nat) w', i < 4 * n + 5 → Below w.heap.size w w' → Calls Tryz.prog 73 #[.int .i64 (i : Int), q1, q2, q3, q4] w' fun e w'' => ∃ p c, e = .returned (.slice p (E i).length c) ∧ HB w'' (.slice p (E i).length c) (E i) ∧ Below w'.heap.size w' w'') :
    Calls Tryz.prog 72 #[.int .i64 (n : Int), .int .i64 index, .func (.func 73) #[] #[q1, q2, q3, q4]] w fun e w' => ∃ p c, e = .returned (.slice p (hashF n 8 [numB index, endsF E (4 * n + 5)]).length c) ∧ HB w' (.slice p (hashF n 8 [numB index, endsF E (4 * n + 5)]).length c) (hashF n 8 [numB index, endsF E (4 * n + 5)]) ∧ Below w.heap.size w w' := by
  have hA := fun w' => number_to index w'
  obtain ⟨Y, hY⟩ : ∃ Y, Y = hashF n 8 [numB index, endsF E (4 * n + 5)] := ⟨_, rfl⟩
  have HY : Hid (Y = hashF n 8 [numB index, endsF E (4 * n + 5)]) := hY
  rw [← hY]
  clear hY
  have hCC := fun w' => chaincount_any n w' (by omega)
  obtain ⟨i0, hi, hz0, hz1, hz2⟩ := info_parts i_u8
  have hEL := fun k => endsF_len E n hE k
  have HEL : Hid (∀ k, (endsF E k).length ≤ k * n) := hEL
  have HEn : Hid (∀ i, (E i).length ≤ n) := hE
  have HE1 : Hid (∀ k, endsF E (k + 1) = endsF E k ++ E k) := fun _ => rfl
  have HE0 : Hid (endsF E 0 = []) := rfl
  have HF : Hid (∀ (i : Nat) w', i < 4 * n + 5 → Below w.heap.size w w' → Calls Tryz.prog 73 #[.int .i64 (i : Int), q1, q2, q3, q4] w' fun e w'' => ∃ p c, e = .returned (.slice p (E i).length c) ∧ HB w'' (.slice p (E i).length c) (E i) ∧ Below w'.heap.size w' w'') := hf
  clear hE hEL hf
  generalize numB index = A at *
  generalize endsF E = EE at *
  go_enter Tryz.func72, Tryz.ntmps72
  go_wp2_with fail
  refine (hCC _).mono ?_
  rintro e w1 ⟨rfl, hw1⟩
  have hw2 := hw1.symm
  clear hw1
  subst hw2
  have hmul : (4 * (n : Int) + 5) * (n : Int) = (((4 * n + 5) * n : Nat) : Int) := by push_cast; rfl
  have hmulb : (4 * n + 5) * n ≤ 5000 := by
    have := Nat.mul_le_mul (show 4 * n + 5 ≤ 133 by omega) hn2
    omega
  generalize (4 * n + 5) * n = P at *
  go_wp2_with (first | (at_make; refine wpList_make_own _ rfl _ _ 22 rfl w.heap.size 5 i0 (.int .u8 0) 1 Tryz.underlying22 hi hz0 hz1 .i64 .i64 _ P rfl rfl ?qa ?qb ?qc ?qd ?_))
  all_goals (try (first | omega | (rw [hz2]; omega) | (unfold maxLen; omega)))
  intro w1 hown1 hgrow1
  have hb1 : Below w.heap.size w w1 := (Below.refl _ w).grown hgrow1 (Nat.le_refl _) (by intro k hk; cases hk)
  have hown2 : w1.ownsRow w.heap.size 5 1 (.slice (some ⟨w.heap.size, 0, none⟩) 0 P) (EE 0).length (bcs (EE 0)) := by
    rw [HE0.out]
    simpa [bcs] using hown1
  clear hown1 hgrow1
  go_wp2_with fail
  refine (hCC _).mono ?_
  rintro e w2 ⟨rfl, hw1⟩
  have hw2 := hw1.symm
  clear hw1
  subst hw2
  go_wp2
  go_loopw [7, 16] (fun v i wr => ∃ k : Nat, k ≤ 4 * n + 5 ∧ i = .int .i64 k ∧ wr.ownsRow w.heap.size 5 1 v (EE k).length (bcs (EE k)) ∧ Below w.heap.size w wr) (fun _ i _ => 4 * n + 5 - (intOf i).toNat)
  case atStart => exact ⟨0, Nat.zero_le _, rfl, hown2, hb1⟩
  case round =>
    obtain ⟨k, hk, rfl, hown, hbe⟩ := hrel
    clear hown2 hb1
    by_cases hlt : k < 4 * n + 5
    · have hlt2 : (k : Int) < 4 * (n : Int) + 5 := by omega
      have hEk := HEL.out k
      have hEn := HEn.out k
      have hkn : k * n ≤ 5000 := by
        have := Nat.mul_le_mul (show k ≤ 133 by omega) hn2
        omega
      have hcall := HF.out k wr hlt hbe
      have HS : Hid (EE (k + 1) = EE k ++ E k) := HE1.out k
      generalize E k = Z at *
      generalize hX : EE k = X at *
      have HX : Hid (EE k = X) := hX
      clear hX
      have hsz := hbe.size
      go_wp2_with fail
      refine hcall.mono ?_
      rintro e w3 ⟨p3, c3, rfl, h3, hb3⟩
      have hown3 := owns_later hown hb3
      have hb03 := hbe.trans (hb3.mono hsz)
      have hsz3 := hb03.size
      clear hcall hown hb3
      go_wp2_with (first | (at_builtin; refine wpList_append_hb rfl (.tmp 19) (.tmp 22) 22 rfl w.heap.size 5 Tryz.underlying22 i_u8 _ _ _ rfl hown3 _ _ _ Z rfl h3 ?sa ?sb ?_))
      case sa => omega
      case sb => omega
      intro v4 w4 hown4 hgrow4
      have hb4 : Below w.heap.size w w4 := hb03.grown hgrow4 hsz3 (fun k hk => (hown3.lt k hk).1)
      have hown5 : w4.ownsRow w.heap.size 5 1 v4 (EE (k + 1)).length (bcs (EE (k + 1))) := by
        rw [HS.out, List.length_append, bcs_append]
        exact hown4
      clear hown4 hown3 hgrow4 hb03 h3
      go_wp2
      go_roundw
      case rel => first | exact ⟨k + 1, by omega, by go_num, hown5, hb4⟩ | ((repeat apply Exists.intro); exact ⟨⟨k + 1, by omega, by go_num, hown5, hb4⟩, rfl⟩)
      case measure => simp [intOf]; omega
    · obtain rfl : k = 4 * n + 5 := by omega
      have hEk := HEL.out (4 * n + 5)
      have h2 := HB.of_owns hown
      obtain ⟨p2, c2, rfl⟩ := h2.shape
      generalize EE (4 * n + 5) = Z at *
      clear hown
      have hTr := hT.later hbe
      go_wp2_with fail
      refine (hA _).mono ?_
      rintro e w3 ⟨p3, c3, rfl, h3, hb3⟩
      have hb03 := hbe.trans (hb3.mono hbe.size)
      have g2 := h2.later hb3
      have hT3 := hTr.later hb3
      clear h2 hb3 hbe hTr
      go_wp2_with fail
      have hbA : Below w.heap.size w (w3.alloc (.cells #[.slice p3 8 c3, .slice p2 Z.length c2] 22)) := hb03.alloc hb03.size _
      refine (hash_to n 8 _ [A, Z] _ (by simp) (by decide) (PA.lit w3 22 [_, _] _ 2 rfl rfl (by decide) (two_hb h3 g2)) (hT3.later ((Below.refl _ w3).alloc (Nat.le_refl _) _))).mono ?_
      rintro e w6 ⟨p6, c6, rfl, h6, hb6⟩
      rw [← HY.out] at h6 ⊢
      have hb06 : Below w.heap.size w w6 := hbA.trans (hb6.mono hbA.size)
      go_wp2
      go_ret
      exact ⟨_, _, rfl, h6, hb06⟩

/-- The end of chain i of a signature. -/
def endR (size : Int) (ls : List (List UInt8)) (ds : List Nat) (index : Int) (i : Nat) : List UInt8 := chainF size (ls.getD i []) index i ((ds.getD i 0 : Nat) : Int) 3

set_option maxRecDepth 100000 in
set_option maxHeartbeats 4000000 in
theorem recf_any (n : Nat) (index : Int) (i : Nat) (pc pd : Option Addr) (cc cd N b1 b2 b3 b4 : Nat) (ls : List (List UInt8)) (ds : List Nat) (w : World) (hc : PA w (.slice pc N cc) ls) (hd : IA w (.slice pd N cd) ds) (hi : i < N) (hN : N ≤ 1000) (hl : ∀ l ∈ ls, l.length ≤ 1000) (hds : ∀ d ∈ ds, d ≤ 3) (hT : Tabs w)
    (e1 : w.cell? ⟨b1, 0, none⟩ = some (.int .i64 (n : Int))) (e2 : w.cell? ⟨b2, 0, none⟩ = some (.slice pc N cc)) (e3 : w.cell? ⟨b3, 0, none⟩ = some (.int .i64 index)) (e4 : w.cell? ⟨b4, 0, none⟩ = some (.slice pd N cd)) :
    Calls Tryz.prog 73 #[.int .i64 (i : Int), .pointer (some ⟨b1, 0, none⟩), .pointer (some ⟨b2, 0, none⟩), .pointer (some ⟨b3, 0, none⟩), .pointer (some ⟨b4, 0, none⟩)] w fun e w' => ∃ p c, e = .returned (.slice p (endR n ls ds index i).length c) ∧ HB w' (.slice p (endR n ls ds index i).length c) (endR n ls ds index i) ∧ Below w.heap.size w w' := by
  have hNl := hc.len.1
  have hNd : N = ds.length := by
    obtain ⟨_, _, e, _⟩ := hd
    simp only [Value.slice.injEq] at e
    exact e.2.1
  obtain ⟨bc1, oc, rfl⟩ := hc.addr (by omega)
  obtain ⟨q, k, l, HL, ec, hl1⟩ := hc.get i hi
  obtain ⟨bd, od, rfl, fd⟩ := hd.addr (by omega)
  have hg : ds[i]? = some (ds.getD i 0) := by rw [List.getD_eq_getElem?_getD, List.getElem?_eq_getElem (by omega)]; rfl
  have ed := fd i _ hg
  have hd3 := hds _ (List.mem_of_getElem? hg)
  have hll := hl l (List.mem_of_getElem? HL.out)
  have HE : Hid (endR n ls ds index i = chainF n l index i ((ds.getD i 0 : Nat) : Int) 3) := by
    show endR n ls ds index i = _
    unfold endR
    rw [show ls.getD i [] = l by rw [List.getD_eq_getElem?_getD, HL.out]; rfl]
  generalize ds.getD i 0 = D at *
  have hC := fun w' h' hT' => chain_any n index i (D : Int) 3 (.slice q l.length k) l w' h' (by omega) hT' (by omega)
  generalize endR n ls ds index i = F at *
  generalize chainF n l index i (D : Int) 3 = G at *
  have hiN : (i : Int) < (N : Int) := by omega
  clear hNl hNd hg fd HL
  go_enter Tryz.func73, Tryz.ntmps73
  go_wp2
  go_region_held3 (fun w' => w'.cell? ⟨b1, 0, none⟩ = some (.int .i64 (n : Int)) ∧ w'.cell? ⟨b2, 0, none⟩ = some (.slice (some ⟨bc1, oc, none⟩) N cc) ∧ w'.cell? ⟨b3, 0, none⟩ = some (.int .i64 index) ∧ w'.cell? ⟨b4, 0, none⟩ = some (.slice (some ⟨bd, od, none⟩) N cd) ∧ w'.cell? ⟨bc1, oc + i, none⟩ = some (.slice q l.length k) ∧ w'.cell? ⟨bd, od + i, none⟩ = some (.int .i64 (D : Int))) (first | exact ⟨e1, e2, e3, e4, ec, ed⟩ | exact ⟨f1, f2, f3, f4, f5, f6⟩) (first
    | (go_at_call 74; refine (hC _ (hl1.later (by repeat (first | exact Below.refl _ _ | refine Below.drew ?_))) (hT.later (by repeat (first | exact Below.refl _ _ | refine Below.drew ?_)))).mono ?_; rintro e w1 ⟨p1, c1, rfl, h1, hb1⟩; have hb01 : Below w.heap.size w w1 := Below.trans (by repeat (first | exact Below.refl _ _ | refine Below.drew ?_)) hb1; have f1 := cell_later hb01 e1; have f2 := cell_later hb01 e2; have f3 := cell_later hb01 e3; have f4 := cell_later hb01 e4; have f5 := cell_later hb01 ec; have f6 := cell_later hb01 ed))
  all_goals
    go_wp2
    go_ret
    rw [HE.out]
    exact ⟨_, _, rfl, h1, hb01⟩

end Go.Proofs.YtganajmhdpiipaaGreatDoor.Vf

namespace Go.Proofs.YtganajmhdpiipaaGreatDoor.Vf
open Go.RowKit

/-- Whether a signature has all its chains, of n bytes each. -/
def wholeB (n : Nat) (ls : List (List UInt8)) : Bool := decide (ls.length = 4 * n + 5) && ls.all fun l => decide (l.length = n)

set_option maxRecDepth 100000 in
set_option maxHeartbeats 1000000 in
theorem whole_any (n : Nat) (v : Value) (ls : List (List UInt8)) (w : World) (h : PA w v ls) (hn : n ≤ 32) :
    Calls Tryz.prog 71 #[.int .i64 (n : Int), v] w fun e w' => e = .returned (.bool (wholeB n ls)) ∧ w' = w := by
  obtain ⟨p, c, rfl⟩ := h.shape
  have hm := h.len.2
  unfold maxLen at hm
  have hCC := fun w' => chaincount_any n w' (by omega)
  by_cases hlen : ls.length = 4 * n + 5
  · have HW : Hid (wholeB n ls = ls.all fun l => decide (l.length = n)) := by
      show wholeB n ls = _
      simp [wholeB, hlen]
    generalize wholeB n ls = B at *
    have HL : Hid (ls.length = 4 * n + 5) := hlen
    rw [hlen] at h ⊢
    clear hlen
    go_enter Tryz.func71, Tryz.ntmps71
    go_wp2_with fail
    refine (hCC _).mono ?_
    rintro e w1 ⟨rfl, hw1⟩
    have hw2 := hw1.symm
    clear hw1
    subst hw2
    go_wp2
    go_loop [14] (fun i => ∃ k : Nat, k ≤ 4 * n + 5 ∧ i = .int .i64 k ∧ ∀ l ∈ ls.take k, l.length = n) (fun i => 4 * n + 5 - (intOf i).toNat)
    case atStart => exact ⟨0, Nat.zero_le _, rfl, by simp⟩
    case round =>
      obtain ⟨k, hk, rfl, hall⟩ := hrel
      have HA : Hid (∀ l ∈ ls.take k, l.length = n) := hall
      clear hall
      by_cases hlt : k < 4 * n + 5
      · obtain ⟨b, o, rfl⟩ := h.addr (by omega)
        obtain ⟨q, d, l, g, hc, hb⟩ := h.get k hlt
        have hlt2 : (k : Int) < 4 * (n : Int) + 5 := by omega
        have hlm := hb.len.2
        unfold maxLen at hlm
        by_cases hln : l.length = n
        · have HA2 : Hid (∀ l ∈ ls.take (k + 1), l.length = n) := by
            intro x hx
            rw [List.take_add_one, g.out] at hx
            rcases List.mem_append.1 hx with hx | hx
            · exact HA.out x hx
            · simp at hx; subst hx; exact hln
          rw [hln] at hc hb
          clear hln HA
          go_wp2
          go_round
          case rel => exact ⟨k + 1, by omega, by go_num, HA2.out⟩
          case measure => simp [intOf]; omega
        · have e1 : B = false := by
            rw [HW.out]
            simp only [List.all_eq_false]
            exact ⟨l, List.mem_of_getElem? g.out, by simpa using hln⟩
          subst e1
          have hln2 : ¬ (l.length : Int) = (n : Int) := by omega
          go_wp2
          go_ret
          exact ⟨rfl, rfl⟩
      · obtain rfl : k = 4 * n + 5 := by omega
        have e1 : B = true := by
          rw [HW.out]
          have := HA.out
          rw [List.take_of_length_le (by rw [HL.out]; omega)] at this
          simp only [List.all_eq_true, decide_eq_true_eq]
          exact this
        subst e1
        go_wp2
        go_ret
        exact ⟨rfl, rfl⟩
  · have hc : wholeB n ls = false := by simp [wholeB, hlen]
    rw [hc]
    have hlen2 : ¬ (ls.length : Int) = 4 * (n : Int) + 5 := by omega
    clear hc
    go_enter Tryz.func71, Tryz.ntmps71
    go_wp2_with fail
    refine (hCC _).mono ?_
    rintro e w1 ⟨rfl, hw1⟩
    have hw2 := hw1.symm
    clear hw1
    subst hw2
    go_wp2
    go_ret
    exact ⟨rfl, rfl⟩

theorem wholeB_true {n : Nat} {ls : List (List UInt8)} (h : wholeB n ls = true) : ls.length = 4 * n + 5 ∧ ∀ l ∈ ls, l.length = n := by
  simpa [wholeB] using h

/-- The key that a signature comes to. -/
def recW (n : Nat) (ls : List (List UInt8)) (index : Int) (D : List UInt8) : List UInt8 := hashF n 8 [numB index, endsF (endR n ls (digF D) index) (4 * n + 5)]

theorem endR_le (n : Nat) (hn : n ≤ 32) (ls : List (List UInt8)) (hl : ∀ l ∈ ls, l.length = n) (ds : List Nat) (index : Int) (i : Nat) : (endR n ls ds index i).length ≤ n := by
  refine chainN_le n hn _ _ _ _ _ ?_
  rw [List.getD_eq_getElem?_getD]
  cases hg : ls[i]? with
  | none => simp
  | some l => exact Nat.le_of_eq (hl l (List.mem_of_getElem? hg))

set_option maxRecDepth 100000 in
set_option maxHeartbeats 2000000 in
theorem rec_ok (n : Nat) (index : Int) (v u : Value) (ls : List (List UInt8)) (D : List UInt8) (w : World) (h : PA w v ls) (hD : HB w u D) (hs : D.length = n) (hwh : wholeB n ls = true) (hn : 1 ≤ n) (hn2 : n ≤ 32) (hi : 0 ≤ index) (hi2 : index < 256) (hT : Tabs w) :
    Calls Tryz.prog 59 #[.int .i64 (n : Int), v, .int .i64 index, u] w fun e w' => ∃ p c, e = .returned (.tuple #[.slice p (recW n ls index D).length c, .int .i64 0]) ∧ HB w' (.slice p (recW n ls index D).length c) (recW n ls index D) ∧ Below w.heap.size w w' := by
  obtain ⟨p, c, rfl⟩ := h.shape
  obtain ⟨q, d, rfl⟩ := hD.shape
  obtain ⟨hL, hAll⟩ := wholeB_true hwh
  have hc : canB n index = true := by simp [canB]; omega
  have hC := fun w' => can_any n index w'
  rw [hc] at hC
  have hWh := fun w' h' => whole_any n (.slice p (4 * n + 5) c) ls w' h' hn2
  rw [hwh] at hWh
  rw [hL] at h ⊢
  rw [hs] at hD ⊢
  have HK : Hid (recW n ls index D = hashF n 8 [numB index, endsF (endR n ls (digF D) index) (4 * n + 5)]) := rfl
  generalize recW n ls index D = K at *
  have HAll : Hid (∀ l ∈ ls, l.length = n) := hAll
  have HdL : Hid ((digF D).length = 4 * n + 5) := by
    show (digF D).length = _
    rw [digF_length, hs]
    omega
  have hDg := fun w' h' => digits_any (.slice q n d) D w' h'
  rw [HdL.out] at hDg
  have HDl := digF_le D
  clear hc hwh hL hAll hs
  generalize digF D = ds at *
  have b1 : Below w.heap.size w (w.alloc (.cells #[.int .i64 (n : Int)] 3)) := (Below.refl _ w).alloc (Nat.le_refl _) _
  have b2 : Below w.heap.size w ((w.alloc (.cells #[.int .i64 (n : Int)] 3)).alloc (.cells #[.slice p (4 * n + 5) c] 23)) := b1.alloc b1.size _
  have b3 := b2.alloc b2.size (.cells #[.int .i64 index] 3)
  have e1 : (((w.alloc (.cells #[.int .i64 (n : Int)] 3)).alloc (.cells #[.slice p (4 * n + 5) c] 23)).alloc (.cells #[.int .i64 index] 3)).cell? ⟨w.heap.size, 0, none⟩ = some (.int .i64 (n : Int)) := by
    exact cell_later (((Below.refl _ _).alloc (Nat.le_refl _) _).alloc (by simp) _) (cell_box_at w _ _ _ rfl)
  have e2 : (((w.alloc (.cells #[.int .i64 (n : Int)] 3)).alloc (.cells #[.slice p (4 * n + 5) c] 23)).alloc (.cells #[.int .i64 index] 3)).cell? ⟨w.heap.size + 1, 0, none⟩ = some (.slice p (4 * n + 5) c) := by
    exact cell_later ((Below.refl _ _).alloc (Nat.le_refl _) _) (cell_box_at _ _ _ _ (by simp))
  have e3 : (((w.alloc (.cells #[.int .i64 (n : Int)] 3)).alloc (.cells #[.slice p (4 * n + 5) c] 23)).alloc (.cells #[.int .i64 index] 3)).cell? ⟨w.heap.size + 1 + 1, 0, none⟩ = some (.int .i64 index) := by
    exact cell_box_at _ _ _ _ (by simp)
  go_enter Tryz.func59, Tryz.ntmps59
  go_wp2_with fail
  refine (hC _).mono ?_
  rintro e w1 ⟨rfl, hw1⟩
  subst hw1
  go_wp2_with fail
  refine (hWh _ (h.later b3)).mono ?_
  rintro e w1 ⟨rfl, hw1⟩
  subst hw1
  go_wp2_with fail
  generalize ((w.alloc (.cells #[.int .i64 (n : Int)] 3)).alloc (.cells #[.slice p (4 * n + 5) c] 23)).alloc (.cells #[.int .i64 index] 3) = wa at *
  refine (hDg _ (hD.later b3)).mono ?_
  rintro e w2 ⟨v2, rfl, o2, hb2⟩
  have i2 := IA.of_owns o2
  obtain ⟨p2, c2, hv2⟩ := i2.shape
  rw [HdL.out] at hv2
  subst hv2
  have hb02 := b3.trans (hb2.mono b3.size)
  clear o2
  have f1 := cell_later hb2 e1
  have f2 := cell_later hb2 e2
  have f3 := cell_later hb2 e3
  have hT2 := hT.later hb02
  have h2 := h.later hb02
  clear hT e1 e2 e3 hb2 h hD b3 b2 b1 hDg hWh hC
  have bA := (Below.refl _ w2).alloc (Nat.le_refl _) (.cells #[.slice p2 (4 * n + 5) c2] 85)
  have g1 := cell_later bA f1
  have g2 := cell_later bA f2
  have g3 := cell_later bA f3
  have g4 := cell_box w2 (.slice p2 (4 * n + 5) c2) 85
  have hTA := hT2.later bA
  have hA := h2.later bA
  have iA := i2.later bA
  have b0A := hb02.trans (bA.mono hb02.size)
  clear f1 f2 f3 hT2 h2 i2 hb02
  go_wp2_with fail
  generalize w2.alloc (.cells #[.slice p2 (4 * n + 5) c2] 85) = wb at *
  refine (closedR_any n index _ _ _ _ (endR n ls ds index) wb hn hn2 (fun i => endR_le n hn2 ls HAll.out ds index i) hTA (fun i w' hi' hb => recf_any n index i p p2 c c2 (4 * n + 5) _ _ _ _ ls ds w' (hA.later hb) (iA.later hb) hi' (by omega) (fun l hl => by rw [HAll.out l hl]; omega) HDl (hTA.later hb) (cell_later hb g1) (cell_later hb g2) (cell_later hb g3) (cell_later hb g4))).mono ?_
  rintro e w4 ⟨p4, c4, rfl, h4, hb4⟩
  rw [← HK.out] at h4 ⊢
  have hb04 : Below w.heap.size w w4 := b0A.trans (hb4.mono b0A.size)
  go_wp2
  go_ret2
  exact ⟨_, _, rfl, h4, hb04⟩

set_option maxRecDepth 100000 in
set_option maxHeartbeats 1000000 in
theorem rec_err (size index : Int) (v u : Value) (ls : List (List UInt8)) (D : List UInt8) (w : World) (h : PA w v ls) (hD : HB w u D) (hbad : canB size index = false ∨ (D.length : Int) ≠ size ∨ wholeB size.toNat ls = false) :
    Calls Tryz.prog 59 #[.int .i64 size, v, .int .i64 index, u] w fun e w' => e = .returned (.tuple #[.slice none 0 0, .int .i64 1]) ∧ Below w.heap.size w w' := by
  obtain ⟨p, c, rfl⟩ := h.shape
  obtain ⟨q, d, rfl⟩ := hD.shape
  have hdm := hD.len.2
  unfold maxLen at hdm
  have hC := fun w' => can_any size index w'
  have b1 : Below w.heap.size w (w.alloc (.cells #[.int .i64 size] 3)) := (Below.refl _ w).alloc (Nat.le_refl _) _
  have b2 : Below w.heap.size w ((w.alloc (.cells #[.int .i64 size] 3)).alloc (.cells #[.slice p ls.length c] 23)) := b1.alloc b1.size _
  have b3 := b2.alloc b2.size (.cells #[.int .i64 index] 3)
  cases hb : canB size index with
  | false =>
    rw [hb] at hC
    clear hbad
    go_enter Tryz.func59, Tryz.ntmps59
    go_wp2_with fail
    refine (hC _).mono ?_
    rintro e w1 ⟨rfl, hw1⟩
    subst hw1
    go_wp2
    go_ret2
    exact ⟨rfl, b3⟩
  | true =>
    rw [hb] at hC
    have hcan : 1 ≤ size ∧ size ≤ 32 ∧ 0 ≤ index ∧ index < 256 := by simpa [canB] using hb
    obtain ⟨n, rfl⟩ : ∃ n : Nat, size = (n : Int) := ⟨size.toNat, by omega⟩
    by_cases hdl : D.length = n
    · have hwh : wholeB n ls = false := by
        rcases hbad with h | h | h
        · rw [hb] at h; cases h
        · exact absurd (by rw [hdl]) h
        · simpa using h
      have hWh := fun w' h' => whole_any n (.slice p ls.length c) ls w' h' (by omega)
      rw [hwh] at hWh
      rw [hdl] at hD ⊢
      clear hbad hb hdl hwh
      go_enter Tryz.func59, Tryz.ntmps59
      go_wp2_with fail
      refine (hC _).mono ?_
      rintro e w1 ⟨rfl, hw1⟩
      subst hw1
      go_wp2_with fail
      refine (hWh _ (h.later b3)).mono ?_
      rintro e w1 ⟨rfl, hw1⟩
      subst hw1
      go_wp2
      go_ret2
      exact ⟨rfl, b3⟩
    · have hdl2 : ¬ (D.length : Int) = (n : Int) := by omega
      clear hbad hb
      go_enter Tryz.func59, Tryz.ntmps59
      go_wp2_with fail
      refine (hC _).mono ?_
      rintro e w1 ⟨rfl, hw1⟩
      subst hw1
      go_wp2
      go_ret2
      exact ⟨rfl, b3⟩

end Go.Proofs.YtganajmhdpiipaaGreatDoor.Vf

namespace Go.Proofs.YtganajmhdpiipaaGreatDoor.Vf
open Go.RowKit

/-- Bytes lie in no block whose cells are slices. -/
theorem _root_.Go.Proofs.YtganajmhdpiipaaGreatDoor.HB.notRow {w : World} {base e g N : Nat} {vs : List Value} {v : Value} {l : List UInt8} (h : HB w v l) (ho : w.ownsRow base e 1 (.slice (some ⟨g, 0, none⟩) N N) N vs) (hs : ∀ (j : Nat) u, vs[j]? = some u → ∃ p n c, u = .slice p n c) (k : Nat) (u : Value) : HB (w.setCell ⟨g, k, none⟩ u) v l := by
  obtain ⟨p, c, rfl⟩ := h.shape
  by_cases hn : l = []
  · subst hn
    have := h.len
    exact HB.empty _ p c this.2.2.1 this.2.2.2
  · obtain ⟨b, o, rfl, hc⟩ := h.addr (List.length_pos_iff.2 hn)
    refine h.setOther _ u ?_
    intro hbg
    simp only at hbg
    subst hbg
    obtain ⟨x, hx⟩ : ∃ x, l[0]? = some x := ⟨l[0]'(List.length_pos_iff.2 hn), List.getElem?_eq_getElem _⟩
    have c0 := hc 0 x hx
    rw [Nat.add_zero] at c0
    obtain ⟨_, h2⟩ := ho
    rcases h2 with ⟨e1, _⟩ | ⟨g', cap, cur, e1, _, hg, hle, _, hsz, ht⟩
    · cases e1
    · simp only [Value.slice.injEq, Option.some.injEq, Addr.mk.injEq, and_true, true_and] at e1
      obtain ⟨rfl, rfl⟩ := e1
      rw [cell_of_row w b o cur e (0, 0) hg] at c0
      have e2 : vs[o]? = some (bc x) := by
        rw [← ht, List.take_of_length_le (by simp; omega)]
        simpa using c0
      obtain ⟨_, _, _, e3⟩ := hs o _ e2
      simp [bc] at e3

/-- A list of N rows of bytes that the call owns: the first k are told, the others are slices. -/
def SG (w : World) (base g N k : Nat) (sig : Nat → List UInt8) : Prop :=
  ∃ vs : List Value, w.ownsRow base 22 1 (.slice (some ⟨g, 0, none⟩) N N) N vs ∧ (∀ (j : Nat) u, vs[j]? = some u → ∃ p n c, u = .slice p n c) ∧ ∀ (j : Nat) u, j < k → vs[j]? = some u → HB w u (sig j)

theorem SG.later {w w' : World} {base g N k : Nat} {sig : Nat → List UInt8} (h : SG w base g N k sig) (hb : Below w.heap.size w w') : SG w' base g N k sig := by
  obtain ⟨vs, h1, h2, h3⟩ := h
  exact ⟨vs, owns_later h1 hb, h2, fun j u hj hu => (h3 j u hj hu).later hb⟩

theorem SG.put {w : World} {base g N k : Nat} {sig : Nat → List UInt8} (h : SG w base g N k sig) (p : Option Addr) (n c : Nat) (hx : HB w (.slice p n c) (sig k)) : SG (w.setCell ⟨g, k, none⟩ (.slice p n c)) base g N (k + 1) sig := by
  obtain ⟨vs, h1, h2, h3⟩ := h
  refine ⟨vs.set k (.slice p n c), (h1.stored k _).1, fun j u hu => ?_, fun j u hj hu => ?_⟩
  · by_cases hjk : k = j
    · subst hjk
      rw [List.getElem?_set_self'] at hu
      cases hv : vs[k]? with
      | none => rw [hv] at hu; simp at hu
      | some y => rw [hv] at hu; simp at hu; exact ⟨p, n, c, hu.symm⟩
    · rw [List.getElem?_set_ne hjk] at hu
      exact h2 j u hu
  · by_cases hjk : k = j
    · subst hjk
      rw [List.getElem?_set_self'] at hu
      cases hv : vs[k]? with
      | none => rw [hv] at hu; simp at hu
      | some y =>
        rw [hv] at hu
        simp at hu
        subst hu
        exact hx.notRow h1 h2 k _
    · rw [List.getElem?_set_ne hjk] at hu
      exact (h3 j u (by omega) hu).notRow h1 h2 k _

theorem SG.pa {w : World} {base g N : Nat} {sig : Nat → List UInt8} (h : SG w base g N N sig) : PA w (.slice (some ⟨g, 0, none⟩) N N) ((List.range N).map sig) := by
  obtain ⟨vs, h1, h2, h3⟩ := h
  have hl := h1.1
  obtain ⟨_, q⟩ := h1
  rcases q with ⟨e1, _⟩ | ⟨g', cap, cur, e1, hb, hg, hle, hm, hsz, ht⟩
  · cases e1
  · simp only [Value.slice.injEq, Option.some.injEq, Addr.mk.injEq, and_true, true_and] at e1
    obtain ⟨rfl, rfl⟩ := e1
    rw [Nat.mul_one] at hl
    refine ⟨_, N, vs, by simp, by simp, hm, (fun h => by cases h), by simp [hl], fun _ => ⟨g, 0, rfl, fun i x hx => ?_⟩, fun i x l hx hl' => ?_⟩
    · rw [Nat.zero_add, cell_of_row w g i cur 22 (0, 0) hg]
      have hi : i < vs.length := (List.getElem?_eq_some_iff.1 hx).1
      rw [← ht, List.getElem?_take, if_pos (by omega)] at hx
      simpa using hx
    · have hi : i < vs.length := (List.getElem?_eq_some_iff.1 hx).1
      have e2 : l = sig i := by
        rw [List.getElem?_map, List.getElem?_range (by omega)] at hl'
        simpa using hl'.symm
      rw [e2]
      exact h3 i x (by omega) hx

/-- Chain i of a signature. -/
def sigC (n : Nat) (seed : List UInt8) (index : Int) (ds : List Nat) (i : Nat) : List UInt8 := chainF n (secretF n seed index i) index i 0 ((ds.getD i 0 : Nat) : Int)
def signW (n : Nat) (seed : List UInt8) (index : Int) (D : List UInt8) : List (List UInt8) := (List.range (4 * n + 5)).map (sigC n seed index (digF D))

end Go.Proofs.YtganajmhdpiipaaGreatDoor.Vf

namespace Go.Proofs.YtganajmhdpiipaaGreatDoor.Vf
open Go.RowKit

/-- One step up: the hash beside stands to the right where the place is even. -/
def upS (n : Nat) (idx l : Nat) (x y : List UInt8) : List UInt8 :=
  if idx / 2 ^ l % 2 = 0 then hashF n 9 [numB ((l + 1 : Nat) : Int), numB ((idx / 2 ^ (l + 1) : Nat) : Int), x, y] else hashF n 9 [numB ((l + 1 : Nat) : Int), numB ((idx / 2 ^ (l + 1) : Nat) : Int), y, x]
/-- The hash behind k steps up. -/
def upN (n idx : Nat) (ps : List (List UInt8)) (x : List UInt8) : Nat → List UInt8
  | 0 => x
  | k + 1 => upS n idx k (upN n idx ps x k) (ps.getD k [])

end Go.Proofs.YtganajmhdpiipaaGreatDoor.Vf

namespace Go.Proofs.YtganajmhdpiipaaGreatDoor.Vf
open Go.RowKit

set_option maxRecDepth 100000 in
set_option maxHeartbeats 1000000 in
theorem rnumber_any (n : Int) (U : Nat) (hU : IntKind.u64.wrap n = (U : Int)) (w : World) :
    Calls Tryz.prog 82 #[.int .i64 n] w fun e w' => ∃ p c, e = .returned (.slice p 8 c) ∧ HB w' (.slice p 8 c) (be64 U) ∧ Below w.heap.size w w' := by
  obtain ⟨i0, hi, hz0, hz1, hz2⟩ := info_parts i_u8
  go_enter Tryz.func82, Tryz.ntmps82
  have h0 : w.ownsRow w.heap.size 5 1 (.slice none 0 0) 0 (bcs ((be64 U).take 0)) := World.ownsRow_nil w _ _ _
  go_wp2
  go_loopw [3, 4] (fun v i wr => ∃ (k : Nat) (p5 : Option Addr) (c5 : Nat), k ≤ 8 ∧ i = .int .i64 (56 - 8 * (k : Int)) ∧ v = .slice p5 k c5 ∧ wr.ownsRow w.heap.size 5 1 (.slice p5 k c5) k (bcs ((be64 U).take k)) ∧ Below w.heap.size w wr)
    (fun v _ _ => 8 - lenS v)
  case atStart => exact ⟨0, none, 0, by omega, rfl, rfl, h0, Below.refl _ _⟩
  case round =>
    clear h0
    obtain ⟨k, p5, c5, hk, rfl, rfl, hown, hbe⟩ := hrel
    have hsz := hbe.size
    by_cases hlt : k < 8
    · have HNV : Hid (Value.int .u8 ((U : Int) / 2 ^ (56 - 8 * k) % 256) = bc (UInt8.ofNat (U / 2 ^ (8 * (7 - k))))) := numV U k hlt
      have HST : Hid (bcs ((be64 U).take k) ++ [bc (UInt8.ofNat (U / 2 ^ (8 * (7 - k))))] = bcs ((be64 U).take (k + 1))) := by
        show _ = _
        rw [List.take_add_one, be64_get _ _ hlt]
        simp [bcs]
      go_wp2_with (first | (at_builtin; refine wpList_append_own _ rfl (.tmp 9) (.tmp 15) 22 rfl w.heap.size 5 i0 (.int .u8 0) 1 1 Tryz.underlying22 hi hz0 hz1 hz2 rfl (by decide) _ _ _ rfl (hown.alloc _) ⟨wr.heap.size, 0, none⟩ 1 1 [.int .u8 ((U : Int) / 2 ^ (56 - 8 * k) % 256)] rfl rfl ?ua ?ub ?uc ?ud ?ue ?_))
      case ua => exact cell_one_new _ _ _
      case ub => intro u hu; simp at hu; subst hu; rfl
      case uc => unfold maxLen; omega
      case ud => omega
      case ue => simp; omega
      intro v6 w6 hown6 hgrow6 _
      have hb6 : Below w.heap.size w w6 := (hbe.alloc hsz _).grown hgrow6 (by simp; omega) (fun k hk => (hown.lt k hk).1)
      rw [HNV.out, HST.out] at hown6
      obtain ⟨p6, c6, hv6⟩ := owns_shape hown6
      rw [hv6] at hown6 ⊢
      clear hv6 hgrow6 hown hbe HNV HST
      go_wp2
      go_roundw
      case rel => first | exact ⟨k + 1, p6, c6, by omega, by go_num, rfl, hown6, hb6⟩ | ((repeat apply Exists.intro); exact ⟨⟨k + 1, p6, c6, by omega, by go_num, rfl, hown6, hb6⟩, rfl⟩)
      case measure => simp [lenS]; omega
    · have hk8 : k = 8 := by omega
      subst hk8
      rw [List.take_of_length_le (by rw [be64_length]; omega)] at hown
      have hh := HB.of_owns hown
      have HH : Hid (HB wr (.slice p5 8 c5) (be64 U)) := hh
      clear hh hown
      go_wp2
      go_ret
      exact ⟨_, _, rfl, HH.out, hbe⟩

end Go.Proofs.YtganajmhdpiipaaGreatDoor.Vf

namespace Go.Proofs.YtganajmhdpiipaaGreatDoor.Vf
open Go.RowKit

theorem rnumber_to (n : Int) (w : World) :
    Calls Tryz.prog 82 #[.int .i64 n] w fun e w' => ∃ p c, e = .returned (.slice p 8 c) ∧ HB w' (.slice p 8 c) (numB n) ∧ Below w.heap.size w w' := by
  obtain ⟨U, hU, _⟩ := u64_nat n
  have e : numB n = be64 U := by unfold numB; rw [hU]; simp
  rw [e]
  exact rnumber_any n U hU w

def rcanB (size index : Int) (m : Nat) : Bool := canB size index && decide (m ≤ 64)

set_option maxRecDepth 100000 in
set_option maxHeartbeats 400000 in
theorem rcan_any (size index : Int) (p : Option Addr) (m c : Nat) (w : World) (hm : m ≤ 9223372036854775807) :
    Calls Tryz.prog 78 #[.int .i64 size, .slice p m c, .int .i64 index] w fun e w' => e = .returned (.bool (rcanB size index m)) ∧ w' = w := by
  obtain ⟨B, hB⟩ : ∃ B, B = rcanB size index m := ⟨_, rfl⟩
  rw [← hB]
  have h1 : (1 ≤ size ∨ size < 1) := by omega
  have h2 : (size ≤ 32 ∨ 32 < size) := by omega
  have h3 : ((m : Int) ≤ 64 ∨ 64 < (m : Int)) := by omega
  have h4 : (0 ≤ index ∨ index < 0) := by omega
  have h5 : (index < 256 ∨ ¬ index < 256) := by omega
  have hBt : 1 ≤ size → size ≤ 32 → (m : Int) ≤ 64 → 0 ≤ index → index < 256 → B = true := by
    intros; rw [hB]; simp [rcanB, canB]; omega
  have hBf : ¬ (1 ≤ size ∧ size ≤ 32 ∧ (m : Int) ≤ 64 ∧ 0 ≤ index ∧ index < 256) → B = false := by
    intro h; rw [hB]; simp only [rcanB, canB, Bool.and_eq_false_iff, decide_eq_false_iff_not]; omega
  clear hB
  go_enter Tryz.func78, Tryz.ntmps78
  rcases h1 with h1 | h1
  · rcases h2 with h2 | h2
    · rcases h3 with h3 | h3
      · rcases h4 with h4 | h4
        · rcases h5 with h5 | h5
          · obtain rfl := hBt h1 h2 h3 h4 h5
            clear hBt hBf
            go_wp2
            go_ret
            exact ⟨rfl, rfl⟩
          · obtain rfl := hBf (by omega)
            clear hBt hBf
            go_wp2
            go_ret
            exact ⟨rfl, rfl⟩
        · obtain rfl := hBf (by omega)
          clear hBt hBf
          go_wp2
          go_ret
          exact ⟨rfl, rfl⟩
      · obtain rfl := hBf (by omega)
        clear hBt hBf
        go_wp2
        go_ret
        exact ⟨rfl, rfl⟩
    · obtain rfl := hBf (by omega)
      clear hBt hBf
      go_wp2
      go_ret
      exact ⟨rfl, rfl⟩
  · obtain rfl := hBf (by omega)
    clear hBt hBf
    go_wp2
    go_ret
    exact ⟨rfl, rfl⟩

set_option maxRecDepth 100000 in
set_option maxHeartbeats 1000000 in
theorem rkeyh_any (size index : Int) (v : Value) (x : List UInt8) (w : World) (h : HB w v x) :
    Calls Tryz.prog 81 #[.int .i64 size, .int .i64 index, v] w fun e w' => ∃ p c, e = .returned (.slice p (hashF size 8 [numB index, x]).length c) ∧ HB w' (.slice p (hashF size 8 [numB index, x]).length c) (hashF size 8 [numB index, x]) ∧ Below w.heap.size w w' := by
  obtain ⟨p, c, rfl⟩ := h.shape
  obtain ⟨F, hF⟩ : ∃ F, F = hashF size 8 [numB index, x] := ⟨_, rfl⟩
  have HF : Hid (F = hashF size 8 [numB index, x]) := hF
  rw [← hF]
  clear hF
  have hA := fun w' => rnumber_to index w'
  generalize numB index = A at *
  go_enter Tryz.func81, Tryz.ntmps81
  go_wp2_with fail
  refine (hA _).mono ?_
  rintro e w1 ⟨p1, c1, rfl, h1, hb1⟩
  have h01 := h.later hb1
  clear h hA
  go_wp2_with fail
  have hbA : Below w.heap.size w (w1.alloc (.cells #[.slice p1 8 c1, .slice p x.length c] 22)) := hb1.alloc hb1.size _
  refine (rhash_to size 8 _ [A, x] _ (by simp) (by decide) (PA.lit w1 22 [_, _] _ 2 rfl rfl (by decide) (two_hb h1 h01))).mono ?_
  rintro e w3 ⟨p3, c3, rfl, h3, hb3⟩
  rw [← HF.out] at h3 ⊢
  have hb03 : Below w.heap.size w w3 := hbA.trans (hb3.mono hbA.size)
  go_wp2
  go_ret
  exact ⟨_, _, rfl, h3, hb03⟩

set_option maxRecDepth 100000 in
set_option maxHeartbeats 4000000 in
theorem rchain_ty (size index i fr to : Int) (v : Value) (x : List UInt8) (w : World) (h : HB w v x) (hl : x.length ≤ 140737488355328) (hfr : -9223372036854775808 ≤ fr ∧ fr ≤ 9223372036854775807) :
    Calls Tryz.prog 80 #[.int .i64 size, v, .int .i64 index, .int .i64 i, .int .i64 fr, .int .i64 to] w fun e w' => ∃ p c, e = .returned (.slice p (chainF size x index i fr to).length c) ∧ HB w' (.slice p (chainF size x index i fr to).length c) (chainF size x index i fr to) ∧ Below w.heap.size w w' ∧ TB w' (.slice p (chainF size x index i fr to).length c) := by
  obtain ⟨p, c, rfl⟩ := h.shape
  have HF : Hid (chainF size x index i fr to = chainN size index i (min to 3 - max fr 0).toNat (max fr 0) x) := rfl
  generalize chainF size x index i fr to = F at *
  have hA := fun w' => rnumber_to index w'
  have hB := fun w' => rnumber_to i w'
  have hS : ∀ k y, stepF size index i k y = hashF size 7 [numB index, numB i, numB k, y] := fun k y => rfl
  have hGo := fun k T y => chainN_go size index i k T y
  have hEnd := fun k T y => chainN_end size index i k T y
  generalize numB index = A at *
  generalize numB i = B at *
  generalize chainN size index i = CN at *
  generalize stepF size index i = SF at *
  have HH : Hid (∀ (k : Int) y, SF k y = hashF size 7 [A, B, numB k, y]) := hS
  have HGo : Hid (∀ (k T : Int) y, k < T → CN (T - k).toNat k y = CN (T - (k + 1)).toNat (k + 1) (SF k y)) := hGo
  have HEnd : Hid (∀ (k T : Int) y, T ≤ k → CN (T - k).toNat k y = y) := hEnd
  clear hS hGo hEnd
  go_enter Tryz.func80, Tryz.ntmps80
  have h0 : HB (w.alloc (.cells #[] 5)) (.slice p x.length c) x := h.later ((Below.refl _ w).alloc (Nat.le_refl _) _)
  go_wp2_with (first | (at_builtin; refine wpList_append_hb rfl (.tmp 14) (.tmp 15) 22 rfl w.heap.size 5 Tryz.underlying22 i_u8 _ 0 [] rfl (World.ownsRow_made w #[] 0 (Nat.le_refl _) (Nat.zero_le _) rfl) _ _ _ x rfl h0 ?sa ?sb ?_))
  case sa => omega
  case sb => simp
  intro v1 w1 hown1 hgrow1
  have h1 := HB.of_owns (by simpa using hown1 : w1.ownsRow w.heap.size 5 1 v1 x.length (bcs x))
  have t0 := TB.of_owns hown1
  obtain ⟨p1, c1, rfl⟩ := h1.shape
  have hb1 : Below w.heap.size w w1 := ((Below.refl _ w).alloc (Nat.le_refl _) _).grown hgrow1 (by simp) (by intro k hk; cases hk; exact Nat.le_refl _)
  clear hown1 hgrow1 h h0
  obtain ⟨K, hK⟩ : ∃ K : Int, K = max fr 0 := ⟨_, rfl⟩
  obtain ⟨T, hTo⟩ : ∃ T : Int, T = min to 3 := ⟨_, rfl⟩
  rw [← hK, ← hTo] at HF
  have hT3 : T ≤ 3 := by omega
  have hTs : Hid (T = min to 3) := hTo
  have hK0 : 0 ≤ K := by omega
  have hK9 : K ≤ 9223372036854775807 := by omega
  have hcase : (fr ≤ 0 ∧ K = 0 ∨ 0 < fr ∧ fr = K) := by omega
  have hcase2 : (to < 3 ∧ to = T) ∨ (3 ≤ to ∧ T = 3) := by omega
  clear hK hTo
  rcases hcase with ⟨k1, k2⟩ | ⟨k1, k2⟩
  all_goals
    rcases hcase2 with ⟨t1, t2⟩ | ⟨t1, t2⟩
  all_goals
    have K2 := hid k2
    clear t2 k2
    go_wp2
    go_loopw [1, 13] (fun s q wr => ∃ (k : Int) (y : List UInt8) (p2 : Option Addr) (c2 : Nat), q = .int .i64 k ∧ 0 ≤ k ∧ k ≤ 9223372036854775807 ∧ s = .slice p2 y.length c2 ∧ HB wr (.slice p2 y.length c2) y ∧ Hid (CN (T - k).toNat k y = F) ∧ Below w.heap.size w wr ∧ TB wr (.slice p2 y.length c2)) (fun _ q _ => (3 - intOf q).toNat)
    case atStart => exact ⟨K, x, p1, c1, by rw [K2.out], by omega, by omega, rfl, h1, HF.out.symm, hb1, t0⟩
    case round =>
      obtain ⟨k, y, p2, c2, rfl, hk0, hk9, rfl, h2, HC, hbe, tb⟩ := hrel
      clear hb1 h1 t0
      by_cases hlt : k < T
      · have hTm := hTs.out
        have hlt2 : k < 3 := by omega
        have hlt4 : k < to := by omega
        clear hTm
        have hK := fun w' => rnumber_to k w'
        have HS := HH.out k y
        have HG := HGo.out k T y hlt
        generalize numB k = C at *
        generalize SF k y = Z at *
        have HZ : Hid (Z = hashF size 7 [A, B, C, y]) := HS
        have HC2 : Hid (CN (T - (k + 1)).toNat (k + 1) Z = F) := HG.symm.trans HC.out
        clear HS HG HC
        go_wp2_with fail
        refine (hA _).mono ?_
        rintro e w3 ⟨p3, c3, rfl, h3, hb3⟩
        go_wp2_with fail
        refine (hB _).mono ?_
        rintro e w4 ⟨p4, c4, rfl, h4, hb4⟩
        go_wp2_with fail
        refine (hK _).mono ?_
        rintro e w5 ⟨p5, c5, rfl, h5, hb5⟩
        have hb45 := hb4.trans (hb5.mono hb4.size)
        have hb35 := hb3.trans (hb45.mono hb3.size)
        have g2 := h2.later hb35
        have g3 := h3.later hb45
        have g4 := h4.later hb5
        have hb05 := hbe.trans (hb35.mono hbe.size)
        clear h2 h3 h4 hb3 hb4 hb5 hb45 hb35 hbe
        go_wp2_with fail
        have hbA : Below w.heap.size w (w5.alloc (.cells #[.slice p3 8 c3, .slice p4 8 c4, .slice p5 8 c5, .slice p2 y.length c2] 22)) := hb05.alloc hb05.size _
        refine (rhash_toT size 7 _ [A, B, C, y] _ (by simp) (by decide) (PA.lit w5 22 [_, _, _, _] _ 4 rfl rfl (by decide) (four_hb g3 g4 h5 g2))).mono ?_
        rintro e w6 ⟨p6, c6, rfl, h6, hb6, t6⟩
        rw [← HZ.out] at h6 t6 ⊢
        have hb06 : Below w.heap.size w w6 := hbA.trans (hb6.mono hbA.size)
        clear hb6 hbA g2 g3 g4 h5
        go_wp2
        go_roundw
        case rel => first | exact ⟨k + 1, Z, p6, c6, rfl, by omega, by omega, rfl, h6, HC2, hb06, t6⟩ | ((repeat apply Exists.intro); exact ⟨⟨k + 1, Z, p6, c6, rfl, by omega, by omega, rfl, h6, HC2, hb06, t6⟩, rfl⟩)
        case measure => simp [intOf]; omega
      · have hTm := hTs.out
        have hx1 : to < 3 → to ≤ k := by omega
        have hx2 : 3 ≤ to → 3 ≤ k := by omega
        clear hTm
        first | have hx := hx1 t1 | have hx := hx2 t1
        have e1 : y = F := (HEnd.out k T y (by omega)).symm.trans HC.out
        rw [e1] at h2 tb ⊢
        clear hx1 hx2 HC e1
        go_wp2
        go_ret
        exact ⟨_, _, rfl, h2, hbe, tb⟩

theorem rchain_any (size index i fr to : Int) (v : Value) (x : List UInt8) (w : World) (h : HB w v x) (hl : x.length ≤ 140737488355328) (hfr : -9223372036854775808 ≤ fr ∧ fr ≤ 9223372036854775807) :
    Calls Tryz.prog 80 #[.int .i64 size, v, .int .i64 index, .int .i64 i, .int .i64 fr, .int .i64 to] w fun e w' => ∃ p c, e = .returned (.slice p (chainF size x index i fr to).length c) ∧ HB w' (.slice p (chainF size x index i fr to).length c) (chainF size x index i fr to) ∧ Below w.heap.size w w' :=
  (rchain_ty size index i fr to v x w h hl hfr).mono fun _ _ ⟨p, c, h1, h2, h3, _⟩ => ⟨p, c, h1, h2, h3⟩

end Go.Proofs.YtganajmhdpiipaaGreatDoor.Vf

namespace Go.Proofs.YtganajmhdpiipaaGreatDoor.Vf
open Go.RowKit

theorem rdg_calc : ∀ n : Fin 256, ∀ j : Fin 4, (wrap64 ((n.val : Int) / 2 ^ (6 - 2 * j.val))).tmod 4 = ((dg n.val (3 - j.val) : Nat) : Int) := by decide +kernel
theorem rcg_calc : ∀ n : Fin 1024, ∀ j : Fin 5, ((n.val : Int) / 2 ^ (8 - 2 * j.val)).tmod 4 = ((dg n.val (4 - j.val) : Nat) : Int) := by decide +kernel

set_option maxRecDepth 100000 in
set_option maxHeartbeats 4000000 in
theorem rdigits_any (v : Value) (t : List UInt8) (w : World) (hf : HB w v t) (ht32 : t.length ≤ 32) :
    Calls Tryz.prog 79 #[v] w fun e w' => ∃ v', e = .returned v' ∧ w'.ownsRow w.heap.size 3 1 v' (digF t).length (ics (digF t)) ∧ Below w.heap.size w w' := by
  obtain ⟨p, c, rfl⟩ := hf.shape
  have hlen := hf.len
  unfold maxLen at hlen
  obtain ⟨i0, hi, hz0, hz1, hz2⟩ := info_parts i_int
  have HF : Hid (digF t = digs t ++ cdigs (chk (digs t))) := by
    show digF t = _
    unfold digF
    rw [List.take_of_length_le ht32]
  generalize digF t = F at *
  go_enter Tryz.func79, Tryz.ntmps79
  go_wp2
  go_loopw [3, 4, 12] (fun v x i wr => ∃ k : Nat, k ≤ t.length ∧ i = .int .i64 k ∧ x = .int .i64 ((chk (digs (t.take k)) : Nat) : Int) ∧ wr.ownsRow w.heap.size 3 1 v (digs (t.take k)).length (ics (digs (t.take k))) ∧ Below w.heap.size w wr) (fun _ _ i _ => t.length - (intOf i).toNat)
  case atStart => exact ⟨0, Nat.zero_le _, rfl, by simp [digs, chk], World.ownsRow_nil _ _ _ _, Below.refl _ w⟩
  case round =>
    obtain ⟨k, hk, rfl, rfl, hown, hbe⟩ := hrel
    have hck := chk_le (digs (t.take k))
    rw [digs_length] at hck hown
    have htk : (t.take k).length ≤ 32 := by simp; omega
    have hsz := hbe.size
    generalize hC : chk (digs (t.take k)) = C at *
    have HC : Hid (chk (digs (t.take k)) = C) := hC
    generalize hD : digs (t.take k) = D at *
    have HD : Hid (digs (t.take k) = D) := hD
    generalize hN : (t.take k).length = N at *
    have HN : Hid ((t.take k).length = N) := hN
    clear hC hD hN
    by_cases hlt : k < t.length
    · obtain ⟨b, o, rfl, f1⟩ := (hf.later hbe).addr (by omega)
      have c1 := f1 k t[k] (List.getElem?_eq_getElem hlt)
      have HY : Hid (t[k]? = some t[k]) := List.getElem?_eq_getElem hlt
      generalize t[k] = y at *
      clear f1
      unfold bc at c1
      have hy := y.toNat_lt
      have hlt2 : (k : Int) < (t.length : Int) := by omega
      have hk32 : (k : Int) < 32 := by omega
      go_wp2
      go_loopw [3, 4, 7] (fun v x i wr => ∃ j : Nat, j ≤ 4 ∧ i = .int .i64 (6 - 2 * (j : Int)) ∧ x = .int .i64 ((C + chk ((bdigs y).take j) : Nat) : Int) ∧ wr.ownsRow w.heap.size 3 1 v (4 * N + j) (ics (D ++ (bdigs y).take j)) ∧ Below w.heap.size w wr) (fun _ _ i _ => (intOf i + 2).toNat)
      case atStart => exact ⟨0, Nat.zero_le _, rfl, by simp [chk], by simpa using hown, hbe⟩
      case round =>
        obtain ⟨j, hj, rfl, rfl, hown2, hbe2⟩ := hrel
        clear hown hbe
        have hbl := chk_le ((bdigs y).take j)
        have hbl2 : ((bdigs y).take j).length ≤ 4 := by simp [bdigs]; omega
        have hsz2 := hbe2.size
        by_cases hlt4 : j < 4
        · have hd3 := dg_le y.toNat (3 - j)
          have HS : Hid ((bdigs y).take (j + 1) = (bdigs y).take j ++ [dg y.toNat (3 - j)]) := bdigs_step y j hlt4
          have HS2 : Hid (chk ((bdigs y).take (j + 1)) = chk ((bdigs y).take j) + (3 - dg y.toNat (3 - j))) := by
            show chk ((bdigs y).take (j + 1)) = _
            rw [HS.out, chk_append, chk_one]
          generalize hX : (bdigs y).take j = X at *
          generalize hZ : (bdigs y).take (j + 1) = Z at *
          have HZ : Hid ((bdigs y).take (j + 1) = Z) := hZ
          generalize hE : chk X = E at *
          have HE : Hid (chk X = E) := hE
          clear hX hZ hE
          have HG : Hid ((wrap64 ((y.toNat : Int) / 2 ^ (6 - 2 * j))).tmod 4 = ((dg y.toNat (3 - j) : Nat) : Int)) := rdg_calc ⟨y.toNat, by omega⟩ ⟨j, hlt4⟩
          generalize dg y.toNat (3 - j) = G at *
          go_wp2_with (first | (at_builtin; rw [HG.out]; refine wpList_append_own _ rfl (.tmp 28) (.tmp 30) 85 rfl w.heap.size 3 i0 (.int .i64 0) 1 8 Tryz.underlying85 hi hz0 hz1 hz2 rfl (by decide) _ _ _ rfl (hown2.alloc _) ⟨wr.heap.size, 0, none⟩ 1 1 [.int .i64 (G : Int)] rfl rfl ?ra ?rb ?rc ?rd ?re ?_))
          case ra => exact cell_one_new _ _ _
          case rb => intro u hu; simp at hu; subst hu; rfl
          case rc => unfold maxLen; omega
          case rd => omega
          case re => simp; omega
          intro v3 w3 hown3 hgrow3 _
          have hb3 : Below w.heap.size w w3 := (hbe2.alloc hsz2 _).grown hgrow3 (by simp; omega) (fun k hk => (hown2.lt k hk).1)
          have hown4 : w3.ownsRow w.heap.size 3 1 v3 (4 * N + (j + 1)) (ics (D ++ Z)) := by
            rw [HS.out]
            have := hown3
            simp only [ics, List.map_append, List.map_cons, List.map_nil, ic, List.append_assoc] at this ⊢
            exact this
          clear hown2 hown3 hgrow3 hbe2
          go_wp2
          go_roundw
          case rel => first | exact ⟨j + 1, by omega, by go_num, by rw [HZ.out, HS2.out]; go_num, by rw [HZ.out]; exact hown4, hb3⟩ | ((repeat apply Exists.intro); exact ⟨⟨j + 1, by omega, by go_num, by rw [HZ.out, HS2.out]; go_num, by rw [HZ.out]; exact hown4, hb3⟩, rfl⟩)
          case measure => simp [intOf]; omega
        · obtain rfl : j = 4 := by omega
          rw [show (bdigs y).take 4 = bdigs y from rfl] at *
          have HS : Hid (digs (t.take (k + 1)) = D ++ bdigs y) := by
            show digs (t.take (k + 1)) = _
            rw [digs_step t k y HY.out, HD.out]
          have HS2 : Hid (chk (digs (t.take (k + 1))) = C + chk (bdigs y)) := by
            show chk (digs (t.take (k + 1))) = _
            rw [HS.out, chk_append, HC.out]
          have HN2 : Hid ((t.take (k + 1)).length = N + 1) := by
            show (t.take (k + 1)).length = N + 1
            rw [← HN.out]
            simp
            omega
          generalize bdigs y = B at *
          generalize hE : chk B = E at *
          have HE : Hid (chk B = E) := hE
          clear hE
          go_wp2
          go_roundw
          case rel =>
            have q1 : wr.ownsRow w.heap.size 3 1 u3 (digs (t.take (k + 1))).length (ics (digs (t.take (k + 1)))) := by
              rw [digs_length, HN2.out, HS.out]
              exact hown2
            first | exact ⟨k + 1, by omega, by go_num, by rw [HS2.out], q1, hbe2⟩ | ((repeat apply Exists.intro); exact ⟨⟨k + 1, by omega, by go_num, by rw [HS2.out], q1, hbe2⟩, rfl⟩)
          case measure => simp [intOf]; omega
    · have e1 : t.take k = t := List.take_of_length_le (by omega)
      rw [e1] at HD HN
      have HF2 : Hid (F = D ++ cdigs C) := by
        show F = _
        rw [HF.out, HD.out, HC.out]
      clear e1 HF
      go_wp2
      go_loopw [3, 9] (fun v i wr => ∃ j : Nat, j ≤ 5 ∧ i = .int .i64 (8 - 2 * (j : Int)) ∧ wr.ownsRow w.heap.size 3 1 v (4 * N + j) (ics (D ++ (cdigs C).take j)) ∧ Below w.heap.size w wr) (fun _ i _ => (intOf i + 2).toNat)
      case atStart => exact ⟨0, Nat.zero_le _, rfl, by simpa using hown, hbe⟩
      case round =>
        obtain ⟨j, hj, rfl, hown2, hbe2⟩ := hrel
        clear hown hbe
        have hsz2 := hbe2.size
        by_cases hlt4 : j < 5
        · have HS : Hid ((cdigs C).take (j + 1) = (cdigs C).take j ++ [dg C (4 - j)]) := cdigs_step C j hlt4
          have HG : Hid (((C : Int) / 2 ^ (8 - 2 * j)).tmod 4 = ((dg C (4 - j) : Nat) : Int)) := rcg_calc ⟨C, by omega⟩ ⟨j, hlt4⟩
          generalize dg C (4 - j) = G at *
          generalize hX : (cdigs C).take j = X at *
          generalize hZ : (cdigs C).take (j + 1) = Z at *
          have HZ : Hid ((cdigs C).take (j + 1) = Z) := hZ
          clear hX hZ
          go_wp2_with (first | (at_builtin; rw [HG.out]; refine wpList_append_own _ rfl (.tmp 41) (.tmp 46) 85 rfl w.heap.size 3 i0 (.int .i64 0) 1 8 Tryz.underlying85 hi hz0 hz1 hz2 rfl (by decide) _ _ _ rfl (hown2.alloc _) ⟨wr.heap.size, 0, none⟩ 1 1 [.int .i64 (G : Int)] rfl rfl ?ra ?rb ?rc ?rd ?re ?_))
          case ra => exact cell_one_new _ _ _
          case rb => intro u hu; simp at hu; subst hu; rfl
          case rc => unfold maxLen; omega
          case rd => omega
          case re => simp; omega
          intro v3 w3 hown3 hgrow3 _
          have hb3 : Below w.heap.size w w3 := (hbe2.alloc hsz2 _).grown hgrow3 (by simp; omega) (fun k hk => (hown2.lt k hk).1)
          have hown4 : w3.ownsRow w.heap.size 3 1 v3 (4 * N + (j + 1)) (ics (D ++ Z)) := by
            rw [HS.out]
            have := hown3
            simp only [ics, List.map_append, List.map_cons, List.map_nil, ic, List.append_assoc] at this ⊢
            exact this
          clear hown2 hown3 hgrow3 hbe2
          go_wp2
          go_roundw
          case rel => first | exact ⟨j + 1, by omega, by go_num, by rw [HZ.out]; exact hown4, hb3⟩ | ((repeat apply Exists.intro); exact ⟨⟨j + 1, by omega, by go_num, by rw [HZ.out]; exact hown4, hb3⟩, rfl⟩)
          case measure => simp [intOf]; omega
        · obtain rfl : j = 5 := by omega
          rw [show (cdigs C).take 5 = cdigs C from rfl, ← HF2.out] at hown2
          go_wp2
          go_ret
          refine ⟨_, rfl, ?_, hbe2⟩
          have e1 : F.length = 4 * N + 5 := by
            rw [HF2.out, List.length_append, ← HD.out, digs_length, HN.out]
            rfl
          rw [e1]
          exact hown2

end Go.Proofs.YtganajmhdpiipaaGreatDoor.Vf

namespace Go.Proofs.YtganajmhdpiipaaGreatDoor.Vf
open Go.RowKit

theorem rcanB_true {size index : Int} {m : Nat} (h : rcanB size index m = true) : 1 ≤ size ∧ size ≤ 32 ∧ 0 ≤ index ∧ index < 256 ∧ m ≤ 64 := by
  simp [rcanB, canB] at h
  omega

end Go.Proofs.YtganajmhdpiipaaGreatDoor.Vf

namespace Go.Proofs.YtganajmhdpiipaaGreatDoor.Vf
open Go.RowKit

theorem ics_at {w : World} {base N b o c : Nat} {ds : List Nat} (h : w.ownsRow base 3 1 (.slice (some ⟨b, o, none⟩) N c) N (ics ds)) (k : Nat) (hk : k < N) : w.cell? ⟨b, o + k, none⟩ = some (.int .i64 ((ds.getD k 0 : Nat) : Int)) := by
  have hl := h.1
  rw [ics_length, Nat.mul_one] at hl
  obtain ⟨b', o', e, f⟩ := (IA.of_owns h).addr (by omega)
  simp only [Option.some.injEq, Addr.mk.injEq, and_true] at e
  obtain ⟨rfl, rfl⟩ := e
  exact f k _ (by rw [List.getD_eq_getElem?_getD, List.getElem?_eq_getElem (by omega)]; rfl)

end Go.Proofs.YtganajmhdpiipaaGreatDoor.Vf

namespace Go.Proofs.YtganajmhdpiipaaGreatDoor.Vf
open Go.RowKit

set_option maxRecDepth 100000 in
set_option maxHeartbeats 4000000 in
theorem rrec_in (n : Nat) (index : Int) (v u : Value) (ls : List (List UInt8)) (D : List UInt8) (w : World) (h : PA w v ls) (hD : HB w u D) (hs : D.length = n) (hc : canB n index = true) (hL : ls.length = 4 * n + 5) :
    Calls Tryz.prog 62 #[.int .i64 (n : Int), v, .int .i64 index, u] w fun e w' =>
      ((wholeB n ls = true → ∃ p c, e = .returned (.tuple #[.slice p (recW n ls index D).length c, .int .i64 0]) ∧ HB w' (.slice p (recW n ls index D).length c) (recW n ls index D)) ∧
       (wholeB n ls = false → e = .returned (.tuple #[.slice none 0 0, .int .i64 1]))) ∧ Below w.heap.size w w' := by
  have hc2 : rcanB n index 0 = true := by simp [rcanB, hc]
  obtain ⟨q1, q2, q3, q4, q5⟩ := rcanB_true hc2
  obtain ⟨p, c, rfl⟩ := h.shape
  obtain ⟨q, d, rfl⟩ := hD.shape
  have hC := fun w' => rcan_any n index none 0 0 w' (by omega)
  rw [hc2] at hC
  have HdL : Hid ((digF D).length = 4 * n + 5) := by
    show (digF D).length = _
    rw [digF_length, hs]
    omega
  have hDg := fun w' h' => rdigits_any (.slice q n d) D w' h' (by omega)
  rw [HdL.out] at hDg
  rw [hs] at hD ⊢
  have hd3 := digF_le D
  have HW : Hid (wholeB n ls = ls.all fun l => decide (l.length = n)) := by
    show wholeB n ls = _
    simp [wholeB, hL]
  have hKh := fun v w' h' => rkeyh_any n index v (endsF (endR n ls (digF D) index) (4 * n + 5)) w' h'
  have HKh : Hid (∀ v w', HB w' v (endsF (endR n ls (digF D) index) (4 * n + 5)) → Calls Tryz.prog 81 #[.int .i64 (n : Int), .int .i64 index, v] w' fun e w'' => ∃ p c, e = .returned (.slice p (recW n ls index D).length c) ∧ HB w'' (.slice p (recW n ls index D).length c) (recW n ls index D) ∧ Below w'.heap.size w' w'') := hKh
  generalize recW n ls index D = K at *
  clear hs hKh hc hc2
  generalize digF D = ds at *
  have HL : Hid (ls.length = 4 * n + 5) := hL
  rw [hL] at h ⊢
  clear hL
  have HCh : Hid (∀ (i : Nat) (l : List UInt8) v w', ls[i]? = some l → l.length = n → HB w' v l → (Calls Tryz.prog 80 #[.int .i64 (n : Int), v, .int .i64 index, .int .i64 (i : Int), .int .i64 ((ds.getD i 0 : Nat) : Int), .int .i64 3] w' fun e w'' => ∃ p c, e = .returned (.slice p (endR n ls ds index i).length c) ∧ HB w'' (.slice p (endR n ls ds index i).length c) (endR n ls ds index i) ∧ Below w'.heap.size w' w'') ∧ (endR n ls ds index i).length ≤ n) := by
    intro i l v w' hg hl h'
    have e : endR n ls ds index i = chainF n l index i ((ds.getD i 0 : Nat) : Int) 3 := by
      unfold endR
      rw [show ls.getD i [] = l by rw [List.getD_eq_getElem?_getD, hg]; rfl]
    have hdd : ds.getD i 0 ≤ 3 := by
      rw [List.getD_eq_getElem?_getD]
      cases hg : ds[i]? with
      | none => simp
      | some d => exact hd3 d (List.mem_of_getElem? hg)
    rw [e]
    refine ⟨rchain_any n index i _ 3 v l w' h' (by omega) (by omega), ?_⟩
    unfold chainF
    exact chainN_le n (by omega) _ _ _ _ _ (by omega)
  have HE1 : Hid (∀ k, endsF (endR n ls ds index) (k + 1) = endsF (endR n ls ds index) k ++ endR n ls ds index k) := fun _ => rfl
  have HE0 : Hid (endsF (endR n ls ds index) 0 = []) := rfl
  generalize endsF (endR n ls ds index) = EE at *
  generalize endR n ls ds index = E at *
  generalize wholeB n ls = WB at *
  go_enter Tryz.func62, Tryz.ntmps62
  go_wp2_with fail
  refine (hC _).mono ?_
  rintro e w1 ⟨rfl, hw1⟩
  have hw2 := hw1.symm
  clear hw1
  subst hw2
  go_wp2_with fail
  refine (hDg _ hD).mono ?_
  rintro e w2 ⟨v2, rfl, o2, hb2⟩
  obtain ⟨p2, c2, hv2⟩ := (IA.of_owns o2).shape
  rw [HdL.out] at hv2
  subst hv2
  obtain ⟨bd, od, rfl, _⟩ := (IA.of_owns o2).addr (by omega)
  clear hDg hC hD
  go_wp2
  go_loopw [10, 36] (fun v i wr => ∃ k : Nat, k ≤ 4 * n + 5 ∧ i = .int .i64 k ∧ Hid (∀ l ∈ ls.take k, l.length = n) ∧ (EE k).length ≤ k * n ∧ wr.ownsRow w.heap.size 5 1 v (EE k).length (bcs (EE k)) ∧ wr.ownsRow w.heap.size 3 1 (.slice (some ⟨bd, od, none⟩) (4 * n + 5) c2) (4 * n + 5) (ics ds) ∧ Below w.heap.size w wr) (fun _ i _ => 4 * n + 5 - (intOf i).toNat)
  case atStart => exact ⟨0, Nat.zero_le _, rfl, (by intro l hl; simp at hl), by rw [HE0.out]; simp, by rw [HE0.out]; exact World.ownsRow_nil _ _ _ _, o2, hb2⟩
  case round =>
    obtain ⟨k, hk, rfl, HA, hEk, hown, hds, hbe⟩ := hrel
    clear o2 hb2
    by_cases hlt : k < 4 * n + 5
    · obtain ⟨b, o, rfl⟩ := h.addr (by omega)
      obtain ⟨q6, k6, l, g, ec, hl⟩ := (h.later hbe).get k hlt
      have hlt2 : (k : Int) < 4 * (n : Int) + 5 := by omega
      have hlm := hl.len.2
      unfold maxLen at hlm
      by_cases hln : l.length = n
      · have HA2 : Hid (∀ l ∈ ls.take (k + 1), l.length = n) := by
          intro x hx
          rw [List.take_add_one, g.out] at hx
          rcases List.mem_append.1 hx with hx | hx
          · exact HA.out x hx
          · simp at hx; subst hx; exact hln
        obtain ⟨hCh, hEn⟩ := HCh.out k l _ wr g.out hln hl
        rw [hln] at ec hl hCh
        clear hln
        have ck := ics_at hds k hlt
        have hkn : k * n ≤ 5000 := by
          have := Nat.mul_le_mul (show k ≤ 133 by omega) (show n ≤ 32 by omega)
          omega
        have HZ : Hid (EE (k + 1) = EE k ++ E k) := HE1.out k
        have hEk2 : (EE (k + 1)).length ≤ (k + 1) * n := by
          rw [HZ.out, List.length_append, Nat.succ_mul]
          omega
        generalize E k = Z at *
        generalize hX : EE k = X at *
        have HX : Hid (EE k = X) := hX
        clear hX
        have hsz := hbe.size
        go_wp2_with fail
        refine hCh.mono ?_
        rintro e w3 ⟨p3, c3, rfl, h3, hb3⟩
        have hown3 := owns_later hown hb3
        have hds3 := owns_later hds hb3
        have hb03 := hbe.trans (hb3.mono hsz)
        have hsz3 := hb03.size
        clear hown hds hb3 hCh
        go_wp2_with (first | (at_builtin; refine wpList_append_hb rfl (.tmp 45) (.tmp 54) 22 rfl w.heap.size 5 Tryz.underlying22 i_u8 _ _ _ rfl hown3 _ _ _ Z rfl h3 ?sa ?sb ?_))
        case sa => omega
        case sb => omega
        intro v5 w5 hown5 hgrow5
        have hb5 : Below w.heap.size w w5 := hb03.grown hgrow5 hsz3 (fun k hk => (hown3.lt k hk).1)
        have hds5 := hds3.kept hgrow5 (owns_apart hds3 hown3 (by decide))
        have hown6 : w5.ownsRow w.heap.size 5 1 v5 (EE (k + 1)).length (bcs (EE (k + 1))) := by
          rw [HZ.out, List.length_append, bcs_append]
          exact hown5
        clear hown3 hown5 hgrow5 hds3 hb03 h3 HA ck
        go_wp2
        go_roundw
        case rel => first | exact ⟨k + 1, by omega, by go_num, HA2, hEk2, hown6, hds5, hb5⟩ | ((repeat apply Exists.intro); exact ⟨⟨k + 1, by omega, by go_num, HA2, hEk2, hown6, hds5, hb5⟩, rfl⟩)
        case measure => simp [intOf]; omega
      · have e1 : WB = false := by
          rw [HW.out]
          simp only [List.all_eq_false]
          exact ⟨l, List.mem_of_getElem? g.out, by simpa using hln⟩
        subst e1
        have hln2 : ¬ (l.length : Int) = (n : Int) := by omega
        go_wp2
        go_ret2
        exact ⟨rfl, hbe⟩
    · obtain rfl : k = 4 * n + 5 := by omega
      have e1 : WB = true := by
        rw [HW.out]
        have := HA.out
        rw [List.take_of_length_le (by rw [HL.out]; omega)] at this
        simp only [List.all_eq_true, decide_eq_true_eq]
        exact this
      subst e1
      have h2 := HB.of_owns hown
      obtain ⟨p2, c2, rfl⟩ := h2.shape
      have hKh := HKh.out
      generalize EE (4 * n + 5) = Z at *
      clear hown
      go_wp2_with fail
      refine (hKh _ _ h2).mono ?_
      rintro e w3 ⟨p3, c3, rfl, h3, hb3⟩
      have hb03 := hbe.trans (hb3.mono hbe.size)
      go_wp2
      go_ret2
      exact ⟨⟨_, _, rfl, h3⟩, hb03⟩

set_option maxRecDepth 100000 in
set_option maxHeartbeats 1000000 in
theorem rrec_err (size index : Int) (v u : Value) (ls : List (List UInt8)) (D : List UInt8) (w : World) (h : PA w v ls) (hD : HB w u D) (hbad : canB size index = false ∨ (D.length : Int) ≠ size ∨ (ls.length : Int) ≠ 4 * size + 5) :
    Calls Tryz.prog 62 #[.int .i64 size, v, .int .i64 index, u] w fun e w' => e = .returned (.tuple #[.slice none 0 0, .int .i64 1]) ∧ w' = w := by
  have hm2 := hD.len_le
  obtain ⟨p, c, rfl⟩ := h.shape
  obtain ⟨q, d, rfl⟩ := hD.shape
  have hm := h.len.2
  unfold maxLen at hm hm2
  have hC := fun w' => rcan_any size index none 0 0 w' (by omega)
  have er : rcanB size index 0 = canB size index := by simp [rcanB]
  rw [er] at hC
  clear er
  cases hb : canB size index with
  | false =>
    rw [hb] at hC
    clear hbad
    go_enter Tryz.func62, Tryz.ntmps62
    go_wp2_with fail
    refine (hC _).mono ?_
    rintro e w1 ⟨rfl, hw1⟩
    subst hw1
    go_wp2
    go_ret2
    exact ⟨rfl, rfl⟩
  | true =>
    rw [hb] at hC
    have hcan : 1 ≤ size ∧ size ≤ 32 ∧ 0 ≤ index ∧ index < 256 := by simpa [canB] using hb
    obtain ⟨n, rfl⟩ : ∃ n : Nat, size = (n : Int) := ⟨size.toNat, by omega⟩
    by_cases hdl : D.length = n
    · have hll : ¬ (ls.length : Int) = 4 * (n : Int) + 5 := by
        rcases hbad with h | h | h
        · rw [hb] at h; cases h
        · exact absurd (by rw [hdl]) h
        · exact h
      rw [hdl] at hD ⊢
      clear hbad hb hdl
      go_enter Tryz.func62, Tryz.ntmps62
      go_wp2_with fail
      refine (hC _).mono ?_
      rintro e w1 ⟨rfl, hw1⟩
      subst hw1
      go_wp2
      go_ret2
      exact ⟨rfl, rfl⟩
    · have hdl2 : ¬ (D.length : Int) = (n : Int) := by omega
      clear hbad hb
      go_enter Tryz.func62, Tryz.ntmps62
      go_wp2_with fail
      refine (hC _).mono ?_
      rintro e w1 ⟨rfl, hw1⟩
      subst hw1
      go_wp2
      go_ret2
      exact ⟨rfl, rfl⟩

end Go.Proofs.YtganajmhdpiipaaGreatDoor.Vf

namespace Go.Proofs.YtganajmhdpiipaaGreatDoor.Vf
open Go.RowKit

set_option maxRecDepth 100000 in
set_option maxHeartbeats 1000000 in
theorem rpair_any (size level place : Int) (a b : Value) (x y : List UInt8) (w : World) (ha : HB w a x) (hb : HB w b y) :
    Calls Tryz.prog 63 #[.int .i64 size, .int .i64 level, .int .i64 place, a, b] w fun e w' => ∃ p c, e = .returned (.slice p (hashF size 9 [numB level, numB place, x, y]).length c) ∧ HB w' (.slice p (hashF size 9 [numB level, numB place, x, y]).length c) (hashF size 9 [numB level, numB place, x, y]) ∧ Below w.heap.size w w' := by
  obtain ⟨p, c, rfl⟩ := ha.shape
  obtain ⟨q, d, rfl⟩ := hb.shape
  obtain ⟨F, hF⟩ : ∃ F, F = hashF size 9 [numB level, numB place, x, y] := ⟨_, rfl⟩
  have HF : Hid (F = hashF size 9 [numB level, numB place, x, y]) := hF
  rw [← hF]
  clear hF
  have hA := fun w' => rnumber_to level w'
  have hB := fun w' => rnumber_to place w'
  generalize numB level = A at *
  generalize numB place = B at *
  go_enter Tryz.func63, Tryz.ntmps63
  go_wp2_with fail
  refine (hA _).mono ?_
  rintro e w1 ⟨p1, c1, rfl, h1, hb1⟩
  go_wp2_with fail
  refine (hB _).mono ?_
  rintro e w2 ⟨p2, c2, rfl, h2, hb2⟩
  have hb02 := hb1.trans (hb2.mono hb1.size)
  have ka := ha.later hb02
  have kb := hb.later hb02
  have k1 := h1.later hb2
  clear ha hb h1 hb1 hb2 hA hB
  go_wp2_with fail
  have hbA : Below w.heap.size w (w2.alloc (.cells #[.slice p1 8 c1, .slice p2 8 c2, .slice p x.length c, .slice q y.length d] 22)) := hb02.alloc hb02.size _
  refine (rhash_to size 9 _ [A, B, x, y] _ (by simp) (by decide) (PA.lit w2 22 [_, _, _, _] _ 4 rfl rfl (by decide) (four_hb k1 h2 ka kb))).mono ?_
  rintro e w3 ⟨p3, c3, rfl, h3, hb3⟩
  rw [← HF.out] at h3 ⊢
  have hb03 : Below w.heap.size w w3 := hbA.trans (hb3.mono hbA.size)
  go_wp2
  go_ret
  exact ⟨_, _, rfl, h3, hb03⟩

end Go.Proofs.YtganajmhdpiipaaGreatDoor.Vf

namespace Go.Proofs.YtganajmhdpiipaaGreatDoor.Vf
open Go.RowKit

set_option maxRecDepth 100000 in
set_option maxHeartbeats 4000000 in
theorem rver_err1 (size height idx : Int) (pv dv ca pa : Value) (ls ps : List (List UInt8)) (D pub : List UInt8) (w : World) (hpv : HB w pv pub) (hdv : HB w dv D) (hc : PA w ca ls) (hp : PA w pa ps)
    (hbad : ¬ (0 ≤ height ∧ height ≤ 8 ∧ withinB idx height.toNat = true ∧ ps.length = height.toNat)) :
    Calls Tryz.prog 34 #[.int .i64 size, pv, .int .i64 height, dv, .agg #[.int .i64 idx, ca, pa]] w fun e w' => e = .returned (.bool false) ∧ Below w.heap.size w w' := by
  have hpm := hp.shape
  obtain ⟨p, c, rfl⟩ := hc.shape
  obtain ⟨q, d, rfl⟩ := hp.shape
  obtain ⟨p1, c1, rfl⟩ := hpv.shape
  obtain ⟨p2, c2, rfl⟩ := hdv.shape
  have hpl := hp.len.2
  unfold maxLen at hpl
  have b1 := (Below.refl _ w).alloc (Nat.le_refl _) (.cells #[.int .i64 idx, .slice p ls.length c, .slice q ps.length d] 27)
  have s0 : (w.alloc (.cells #[.int .i64 idx, .slice p ls.length c, .slice q ps.length d] 27)).cell? ⟨w.heap.size, 0, none⟩ = some (.int .i64 idx) := by
    rw [cell_of_row _ _ 0 _ _ _ (heap_alloc_new w _)]
    rfl
  have s2 : (w.alloc (.cells #[.int .i64 idx, .slice p ls.length c, .slice q ps.length d] 27)).cell? ⟨w.heap.size, 2, none⟩ = some (.slice q ps.length d) := by
    rw [cell_of_row _ _ 2 _ _ _ (heap_alloc_new w _)]
    rfl
  go_enter Tryz.func34, Tryz.ntmps34
  by_cases h1 : height < 0
  · have hd1 : decide (height < 0) = true := by simpa using h1
    clear hbad
    go_wp2
    go_region
    all_goals (go_wp2; go_ret; exact ⟨rfl, b1.drew⟩)
  · have hd1 : decide (height < 0) = false := by simpa using h1
    by_cases h2 : 8 < height
    · have hd2 : decide (8 < height) = true := by simpa using h2
      clear hbad
      go_wp2
      go_region
      all_goals (go_wp2; go_ret; exact ⟨rfl, b1.drew⟩)
    · have hd2 : decide (8 < height) = false := by simpa using h2
      obtain ⟨h, rfl⟩ : ∃ h : Nat, height = (h : Int) := ⟨height.toNat, by omega⟩
      have hPW := pow_wrap h (by omega)
      have hN : 1 ≤ 2 ^ h := Nat.one_le_two_pow
      have hle : h ≤ 8 := by omega
      have hN2 : 2 ^ h ≤ 256 := Nat.pow_le_pow_right (by decide) hle (n := 2)
      simp only [withinB, decide_eq_true_eq, Int.toNat_natCast] at hbad
      have hh8 : (h : Int) ≤ 8 := by omega
      by_cases h3 : idx < 0
      · have hd3 : decide (idx < 0) = true := by simpa using h3
        clear hbad
        go_wp2
        go_region
        all_goals (go_wp2; go_ret; exact ⟨rfl, b1.drew⟩)
      · have hd3 : decide (idx < 0) = false := by simpa using h3
        by_cases h4 : ((2 ^ h : Nat) : Int) ≤ idx
        · clear hbad
          generalize 2 ^ h = N at *
          have hd4 : decide ((N : Int) ≤ idx) = true := by simpa using h4
          have hd4b : decide (wrap64 ((2 : Int) ^ h) ≤ idx) = true := by rw [hPW]; exact hd4
          go_wp2
          go_region
          all_goals (go_wp2; go_ret; exact ⟨rfl, b1.drew⟩)
        · have h5 : ps.length ≠ h := by
            intro e
            exact hbad ⟨by omega, by omega, by omega, e⟩
          generalize 2 ^ h = N at *
          have hd4 : decide ((N : Int) ≤ idx) = false := by simpa using h4
          have hd4b : decide (wrap64 ((2 : Int) ^ h) ≤ idx) = false := by rw [hPW]; exact hd4
          have hd5 : decide ((ps.length : Int) = (h : Int)) = false := by
            rw [decide_eq_false_iff_not]
            omega
          clear hbad
          go_wp2
          go_region
          all_goals (go_wp2; go_ret; exact ⟨rfl, b1.drew⟩)

end Go.Proofs.YtganajmhdpiipaaGreatDoor.Vf
