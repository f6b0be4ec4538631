/- What this text proves: the walks of wots.Secret and wots.Chain over this program: a chain's beginning, and any walk along a chain, in new memory. -/
import Derived.Test.YtdjaemobfbbkoaaDoorJHashC
import Derived.Test.YtdjaemobfbbkoaaDoorJNum
namespace Go.Proofs.YtdjaemobfbbkoaaDoor
open Go.RowKit

theorem hid {p : Prop} (h : p) : Hid p := h

/-- A number in eight bytes. -/
def numB (n : Int) : List UInt8 := be64 (IntKind.u64.wrap n).toNat
def secretF (size : Int) (seed : List UInt8) (index i : Int) : List UInt8 := hashF size 6 [seed, numB index, numB i]
def stepF (size index i k : Int) (x : List UInt8) : List UInt8 := hashF size 7 [numB index, numB i, numB k, x]
/-- n steps from step k on. -/
def chainN (size index i : Int) : Nat → Int → List UInt8 → List UInt8
  | 0, _, x => x
  | n + 1, k, x => chainN size index i n (k + 1) (stepF size index i k x)
def chainF (size : Int) (x : List UInt8) (index i fr to : Int) : List UInt8 := chainN size index i (min to 3 - max fr 0).toNat (max fr 0) x

theorem chainN_end (size index i k T : Int) (x : List UInt8) (h : T ≤ k) : chainN size index i (T - k).toNat k x = x := by
  rw [show (T - k).toNat = 0 by omega]
  rfl
theorem chainN_go (size index i k T : Int) (x : List UInt8) (h : k < T) : chainN size index i (T - k).toNat k x = chainN size index i (T - (k + 1)).toNat (k + 1) (stepF size index i k x) := by
  rw [show (T - k).toNat = (T - (k + 1)).toNat + 1 by omega]
  rfl

theorem number_to (n : Int) (w : World) :
    Calls Tryd.prog 60 #[.int .i64 n] w fun e w' => ∃ p c, e = .returned (.slice p 8 c) ∧ HB w' (.slice p 8 c) (numB n) ∧ Below w.heap.size w w' := by
  obtain ⟨U, hU, _⟩ := u64_nat n
  have e : numB n = be64 U := by unfold numB; rw [hU]; simp
  rw [e]
  exact number_any n U hU w

/-- A literal of rows of bytes in a new block. -/
theorem PA.lit (w : World) (e : TypeId) (vs : List Value) (ls : List (List UInt8)) (n : Nat) (hn : n = ls.length) (hv : vs.length = ls.length) (hm : n ≤ maxLen)
    (h : ∀ (i : Nat) x l, vs[i]? = some x → ls[i]? = some l → HB w x l) : PA (w.alloc (.cells vs.toArray e)) (.slice (some ⟨w.heap.size, 0, none⟩) n n) ls := by
  subst hn
  refine ⟨_, ls.length, vs, rfl, Nat.le_refl _, hm, (fun h => by cases h), hv, fun _ => ⟨_, 0, rfl, fun i x hx => ?_⟩, fun i x l hx hl => ?_⟩
  · rw [Nat.zero_add, cell_of_row _ _ i _ _ _ (heap_alloc_new w _)]
    simp [hx]
  · exact (h i x l hx hl).later ((Below.refl _ w).alloc (Nat.le_refl _) _)

theorem four_hb {w : World} {a b c d : Value} {la lb lc ld : List UInt8} (ha : HB w a la) (hb : HB w b lb) (hc : HB w c lc) (hd : HB w d ld) :
    ∀ (i : Nat) x l, [a, b, c, d][i]? = some x → [la, lb, lc, ld][i]? = some l → HB w x l := by
  intro i x l h1 h2
  match i with
  | 0 => simp at h1 h2; subst h1; subst h2; exact ha
  | 1 => simp at h1 h2; subst h1; subst h2; exact hb
  | 2 => simp at h1 h2; subst h1; subst h2; exact hc
  | 3 => simp at h1 h2; subst h1; subst h2; exact hd
  | n + 4 => simp at h1

theorem three_hb {w : World} {a b c : Value} {la lb lc : List UInt8} (ha : HB w a la) (hb : HB w b lb) (hc : HB w c lc) :
    ∀ (i : Nat) x l, [a, b, c][i]? = some x → [la, lb, lc][i]? = some l → HB w x l := by
  intro i x l h1 h2
  match i with
  | 0 => simp at h1 h2; subst h1; subst h2; exact ha
  | 1 => simp at h1 h2; subst h1; subst h2; exact hb
  | 2 => simp at h1 h2; subst h1; subst h2; exact hc
  | n + 3 => simp at h1

theorem two_hb {w : World} {a b : Value} {la lb : List UInt8} (ha : HB w a la) (hb : HB w b lb) :
    ∀ (i : Nat) x l, [a, b][i]? = some x → [la, lb][i]? = some l → HB w x l := by
  intro i x l h1 h2
  match i with
  | 0 => simp at h1 h2; subst h1; subst h2; exact ha
  | 1 => simp at h1 h2; subst h1; subst h2; exact hb
  | n + 2 => simp at h1

set_option maxRecDepth 100000 in
set_option maxHeartbeats 1000000 in
theorem secret_any (size index i : Int) (v : Value) (seed : List UInt8) (w : World) (h : HB w v seed) (hT : Tabs w) :
    Calls Tryd.prog 48 #[.int .i64 size, v, .int .i64 index, .int .i64 i] w fun e w' => ∃ p c, e = .returned (.slice p (secretF size seed index i).length c) ∧ HB w' (.slice p (secretF size seed index i).length c) (secretF size seed index i) ∧ Below w.heap.size w w' := by
  obtain ⟨p, c, rfl⟩ := h.shape
  have HF : Hid (secretF size seed index i = hashF size 6 [seed, numB index, numB i]) := rfl
  generalize secretF size seed index i = F at *
  have hA := fun w' => number_to index w'
  have hB := fun w' => number_to i w'
  generalize numB index = A at *
  generalize numB i = B at *
  go_enter Tryd.func48, Tryd.ntmps48
  go_wp2_with fail
  refine (hA _).mono ?_
  rintro e w1 ⟨p1, c1, rfl, h1, hb1⟩
  go_wp2_with fail
  refine (hB _).mono ?_
  rintro e w2 ⟨p2, c2, rfl, h2, hb2⟩
  have hb02 := hb1.trans (hb2.mono hb1.size)
  have h02 := h.later hb02
  have h12 := h1.later hb2
  have hT2 := hT.later hb02
  clear h h1 hb1 hb2 hA hB hT
  go_wp2_with fail
  have hbA : Below w.heap.size w (w2.alloc (.cells #[.slice p seed.length c, .slice p1 8 c1, .slice p2 8 c2] 22)) := hb02.alloc hb02.size _
  refine (hash_to size 6 _ [seed, A, B] _ (by simp) (by decide) (PA.lit w2 22 [_, _, _] _ 3 rfl rfl (by decide) (three_hb h02 h12 h2)) (hT2.later ((Below.refl _ w2).alloc (Nat.le_refl _) _))).mono ?_
  rintro e w3 ⟨p3, c3, rfl, h3, hb3⟩
  rw [← HF.out] at h3 ⊢
  have hb03 : Below w.heap.size w w3 := hbA.trans (hb3.mono hbA.size)
  go_wp2
  go_ret
  exact ⟨_, _, rfl, h3, hb03⟩

set_option maxRecDepth 100000 in
set_option maxHeartbeats 4000000 in
theorem chain_any (size index i fr to : Int) (v : Value) (x : List UInt8) (w : World) (h : HB w v x) (hl : x.length ≤ 140737488355328) (hT : Tabs w) (hfr : -9223372036854775808 ≤ fr ∧ fr ≤ 9223372036854775807) :
    Calls Tryd.prog 47 #[.int .i64 size, v, .int .i64 index, .int .i64 i, .int .i64 fr, .int .i64 to] w fun e w' => ∃ p c, e = .returned (.slice p (chainF size x index i fr to).length c) ∧ HB w' (.slice p (chainF size x index i fr to).length c) (chainF size x index i fr to) ∧ Below w.heap.size w w' := by
  obtain ⟨p, c, rfl⟩ := h.shape
  have HF : Hid (chainF size x index i fr to = chainN size index i (min to 3 - max fr 0).toNat (max fr 0) x) := rfl
  generalize chainF size x index i fr to = F at *
  have hA := fun w' => number_to index w'
  have hB := fun w' => number_to i w'
  have hS : ∀ k y, stepF size index i k y = hashF size 7 [numB index, numB i, numB k, y] := fun k y => rfl
  have hGo := fun k T y => chainN_go size index i k T y
  have hEnd := fun k T y => chainN_end size index i k T y
  generalize numB index = A at *
  generalize numB i = B at *
  generalize chainN size index i = CN at *
  generalize stepF size index i = SF at *
  have HH : Hid (∀ (k : Int) y, SF k y = hashF size 7 [A, B, numB k, y]) := hS
  have HGo : Hid (∀ (k T : Int) y, k < T → CN (T - k).toNat k y = CN (T - (k + 1)).toNat (k + 1) (SF k y)) := hGo
  have HEnd : Hid (∀ (k T : Int) y, T ≤ k → CN (T - k).toNat k y = y) := hEnd
  clear hS hGo hEnd
  go_enter Tryd.func47, Tryd.ntmps47
  go_wp2_with (first | (at_builtin; refine wpList_append_hb rfl (.const (.slice none 0 0)) (.tmp 14) 22 rfl w.heap.size 5 Tryd.underlying22 i_u8 _ 0 [] rfl (World.ownsRow_nil _ _ _ _) _ _ _ x rfl h ?sa ?sb ?_))
  case sa => omega
  case sb => exact Nat.le_refl _
  intro v1 w1 hown1 hgrow1
  have h1 := HB.of_owns hown1
  obtain ⟨p1, c1, rfl⟩ := h1.shape
  have hb1 : Below w.heap.size w w1 := (Below.refl _ w).grown hgrow1 (Nat.le_refl _) (by intro k hk; cases hk)
  clear hown1 hgrow1 h
  obtain ⟨K, hK⟩ : ∃ K : Int, K = max fr 0 := ⟨_, rfl⟩
  obtain ⟨T, hTo⟩ : ∃ T : Int, T = min to 3 := ⟨_, rfl⟩
  rw [← hK, ← hTo] at HF
  have hT3 : T ≤ 3 := by omega
  have hTs : Hid (T = min to 3) := hTo
  have hK0 : 0 ≤ K := by omega
  have hK9 : K ≤ 9223372036854775807 := by omega
  have hcase : (fr < 0 ∧ K = 0 ∨ 0 ≤ fr ∧ fr = K) := by omega
  have hcase2 : (to ≤ 3 ∧ to = T) ∨ (3 < to ∧ T = 3) := by omega
  clear hK hTo
  rcases hcase with ⟨k1, k2⟩ | ⟨k1, k2⟩
  all_goals
    rcases hcase2 with ⟨t1, t2⟩ | ⟨t1, t2⟩
  all_goals
    have K2 := hid k2
    clear t2 k2
    go_wp2
    go_loopw [1, 13] (fun s q wr => ∃ (k : Int) (y : List UInt8) (p2 : Option Addr) (c2 : Nat), q = .int .i64 k ∧ 0 ≤ k ∧ k ≤ 9223372036854775807 ∧ s = .slice p2 y.length c2 ∧ HB wr (.slice p2 y.length c2) y ∧ Hid (CN (T - k).toNat k y = F) ∧ Below w.heap.size w wr) (fun _ q _ => (3 - intOf q).toNat)
    case atStart => exact ⟨K, x, p1, c1, by rw [K2.out], by omega, by omega, rfl, h1, HF.out.symm, hb1⟩
    case round =>
      obtain ⟨k, y, p2, c2, rfl, hk0, hk9, rfl, h2, HC, hbe⟩ := hrel
      clear hb1 h1
      by_cases hlt : k < T
      · have hTm := hTs.out
        have hlt2 : k < 3 := by omega
        have hlt4 : k < to := by omega
        clear hTm
        have hK := fun w' => number_to k w'
        have HS := HH.out k y
        have HG := HGo.out k T y hlt
        generalize numB k = C at *
        generalize SF k y = Z at *
        have HZ : Hid (Z = hashF size 7 [A, B, C, y]) := HS
        have HC2 : Hid (CN (T - (k + 1)).toNat (k + 1) Z = F) := HG.symm.trans HC.out
        clear HS HG HC
        have hTr := hT.later hbe
        go_wp2_with fail
        refine (hA _).mono ?_
        rintro e w3 ⟨p3, c3, rfl, h3, hb3⟩
        go_wp2_with fail
        refine (hB _).mono ?_
        rintro e w4 ⟨p4, c4, rfl, h4, hb4⟩
        go_wp2_with fail
        refine (hK _).mono ?_
        rintro e w5 ⟨p5, c5, rfl, h5, hb5⟩
        have hb45 := hb4.trans (hb5.mono hb4.size)
        have hb35 := hb3.trans (hb45.mono hb3.size)
        have g2 := h2.later hb35
        have g3 := h3.later hb45
        have g4 := h4.later hb5
        have hT5 := hTr.later hb35
        have hb05 := hbe.trans (hb35.mono hbe.size)
        clear h2 h3 h4 hb3 hb4 hb5 hb45 hb35 hTr hbe
        go_wp2_with fail
        have hbA : Below w.heap.size w (w5.alloc (.cells #[.slice p3 8 c3, .slice p4 8 c4, .slice p5 8 c5, .slice p2 y.length c2] 22)) := hb05.alloc hb05.size _
        refine (hash_to size 7 _ [A, B, C, y] _ (by simp) (by decide) (PA.lit w5 22 [_, _, _, _] _ 4 rfl rfl (by decide) (four_hb g3 g4 h5 g2)) (hT5.later ((Below.refl _ w5).alloc (Nat.le_refl _) _))).mono ?_
        rintro e w6 ⟨p6, c6, rfl, h6, hb6⟩
        rw [← HZ.out] at h6 ⊢
        have hb06 : Below w.heap.size w w6 := hbA.trans (hb6.mono hbA.size)
        clear hb6 hbA g2 g3 g4 h5 hT5
        go_wp2
        go_roundw
        case rel => first | exact ⟨k + 1, Z, p6, c6, rfl, by omega, by omega, rfl, h6, HC2, hb06⟩ | ((repeat apply Exists.intro); exact ⟨⟨k + 1, Z, p6, c6, rfl, by omega, by omega, rfl, h6, HC2, hb06⟩, rfl⟩)
        case measure => simp [intOf]; omega
      · have hTm := hTs.out
        have hx1 : to ≤ 3 → to ≤ k := by omega
        have hx2 : 3 < to → 3 ≤ k := by omega
        clear hTm
        first | have hx := hx1 t1 | have hx := hx2 t1
        have e1 : y = F := (HEnd.out k T y (by omega)).symm.trans HC.out
        rw [e1] at h2 ⊢
        clear hx1 hx2 HC e1
        go_wp2
        go_ret
        exact ⟨_, _, rfl, h2, hbe⟩

end Go.Proofs.YtdjaemobfbbkoaaDoor
