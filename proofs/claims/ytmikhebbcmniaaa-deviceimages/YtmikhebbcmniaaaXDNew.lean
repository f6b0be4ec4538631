/- What this text proves: the walk of annalsref07.New over this program. -/
import Derived.Test.YtmikhebbcmniaaaXDOf
namespace Go.Proofs.Ytmikhebbcmniaaa
open Go.RowKit

theorem RO.pa {W : World} {base n : Nat} {v : Value} {sig : Nat → List UInt8} (h : RO W base v n sig) : PA W v ((List.range n).map sig) := by
  obtain ⟨vs, h1, h3⟩ := h
  have hl := h1.1
  rw [Nat.mul_one] at hl
  obtain ⟨_, q⟩ := h1
  have hel : ∀ (i : Nat) x l, vs[i]? = some x → ((List.range n).map sig)[i]? = some l → HB W x l := by
    intro i x l hx hl'
    have hi : i < vs.length := (List.getElem?_eq_some_iff.1 hx).1
    have e2 : l = sig i := by
      rw [List.getElem?_map, List.getElem?_range (by omega)] at hl'
      simpa using hl'.symm
    rw [e2]
    exact (h3 i x hx).1
  rcases q with ⟨rfl, h0⟩ | ⟨g, cap, cur, rfl, hb, hg, hle, hm, hsz, ht⟩
  · subst h0
    exact PA.nil W
  · refine ⟨_, cap, vs, by simp, by simpa using hle, hm, (fun h => by cases h), by simp [hl], fun _ => ⟨g, 0, rfl, fun i x hx => ?_⟩, hel⟩
    rw [Nat.zero_add, cell_of_row W g i cur 31 (0, 0) hg]
    have hi : i < vs.length := (List.getElem?_eq_some_iff.1 hx).1
    rw [← ht, List.getElem?_take, if_pos (by omega)] at hx
    simpa using hx

theorem range_nulls (n : Nat) : (List.range n).map (fun _ => nulls) = List.replicate n nulls := by
  rw [List.map_const', List.length_range]

set_option maxHeartbeats 400000 in
theorem rnew_bad (n : Int) (w : World) (h : ¬ (1 ≤ n ∧ n ≤ 16384)) : Calls Try.prog 9 #[.int .i64 n] w fun e w' => e = .returned (.tuple #[.pointer none, .int .i64 1]) ∧ w' = w := by
  by_cases h1 : n < 1
  · go_enter Try.func9, Try.ntmps9
    go_wp2
    go_ret2
    exact ⟨rfl, rfl⟩
  · have h2 : (16384 : Int) < n := by omega
    clear h
    go_enter Try.func9, Try.ntmps9
    go_wp2
    go_ret2
    exact ⟨rfl, rfl⟩

set_option maxRecDepth 10000 in
set_option maxHeartbeats 1600000 in
theorem rnew_any (n : Nat) (w : World) (h0 : 1 ≤ n) (hn : n ≤ 16384) :
    Calls Try.prog 9 #[.int .i64 (n : Int)] w fun e w' => Below w.heap.size w w' ∧ ∃ bx bl bk bw cl ck cw, e = .returned (.tuple #[.pointer (some ⟨bx, 0, none⟩), .int .i64 0]) ∧ XDev w' bx bl bk bw cl ck cw (DevS.new n) ∧ w.heap.size ≤ bx ∧ w.heap.size ≤ bl ∧ w.heap.size ≤ bk ∧ w.heap.size ≤ bw := by
  obtain ⟨i1, hi1, hy0, hy1, hy2⟩ := info_parts i_u8
  obtain ⟨i0, hi0, hz0, hz1, hz2⟩ := info_parts i_byt
  have hm := made_bcs 64
  have hnl : List.replicate 64 (0 : UInt8) = nulls := rfl
  rw [hnl] at hm
  clear hnl
  have hby : i1.bytes * 64 ≤ 281474976710656 := by rw [hy2]; omega
  have hn1 : ¬ (n : Int) < 1 := by omega
  have hn2 : ¬ (16384 : Int) < (n : Int) := by omega
  go_enter Try.func9, Try.ntmps9
  go_wp2
  go_loopw [12, 4] (fun i v wr => ∃ k : Nat, k ≤ n ∧ i = .int .i64 k ∧ RO wr w.heap.size v k (fun _ => nulls) ∧ Below w.heap.size w wr) (fun i _ _ => n - (RowKit.intOf i).toNat)
  case atStart => exact ⟨0, Nat.zero_le _, rfl, ⟨[], World.ownsRow_nil _ _ _ _, fun j u hu => by simp at hu⟩, Below.refl _ _⟩
  case round =>
    obtain ⟨k, hk, rfl, hro, hbe⟩ := hrel
    by_cases hlt : k < n
    · have hlt2 : (k : Int) < (n : Int) := by omega
      go_wp2_with (first
        | (at_make; refine wpList_make_full _ rfl _ _ 31 rfl wr.heap.size 5 i1 (.int .u8 0) 1 Try.underlying31 hi1 hy0 hy1 .i64 .i64 _ _ 64 rfl rfl rfl rfl hby (by unfold maxLen; omega) (Nat.le_refl _) ?_; intro w2 how hgr; have b2 : Below wr.heap.size wr w2 := (Below.refl _ _).grown hgr (Nat.le_refl _) (fun _ e => by cases e); have hx2 : HBT w2 (.slice (some ⟨wr.heap.size, 0, none⟩) 64 64) nulls := HBT.of_owns (n := 64) (by rw [← hm]; exact how); have bA := (Below.refl w2.heap.size w2).alloc (Nat.le_refl _) (.cells #[.slice (some ⟨wr.heap.size, 0, none⟩) 64 64] 31); have gA := heap_alloc_new w2 (.cells #[.slice (some ⟨wr.heap.size, 0, none⟩) 64 64] 31); have hxA := hx2.sty (Sty.of_below bA); obtain ⟨vs, r1, r2⟩ := (hro.later b2).later bA; have hszA : w.heap.size ≤ (w2.alloc (.cells #[.slice (some ⟨wr.heap.size, 0, none⟩) 64 64] 31)).heap.size := Nat.le_trans (Nat.le_trans hbe.size b2.size) bA.size; have bAll : Below w.heap.size w (w2.alloc (.cells #[.slice (some ⟨wr.heap.size, 0, none⟩) 64 64] 31)) := (hbe.trans (b2.mono hbe.size)).trans (bA.mono (Nat.le_trans hbe.size b2.size)))
        | (at_builtin; refine wpList_append_own _ rfl _ _ 36 rfl w.heap.size 31 i0 (.slice none 0 0) 1 24 Try.underlying36 hi0 hz0 hz1 hz2 rfl (by decide) _ _ _ rfl r1 ⟨w2.heap.size, 0, none⟩ 1 1 [.slice (some ⟨wr.heap.size, 0, none⟩) 64 64] rfl rfl (World.news_of_block gA) (by simp [Value.oneCell']) (by unfold maxLen; omega) (by omega) hszA ?_; intro v' w3 ow gr _; obtain ⟨p3, c3, rfl⟩ := owns_shape ow))
      have hro3 : RO w3 w.heap.size (.slice p3 (k + 1) c3) (k + 1) (fun _ => nulls) := RO.snoc r1 r2 hxA gr ow
      have b3 : Below w.heap.size w w3 := bAll.grown gr hszA (fun q hq => (r1.lt q hq).1)
      clear r1 r2 hxA gr ow gA bA hx2 how hgr hro b2 bAll
      go_wp2
      go_roundw
      case rel => first | exact ⟨k + 1, by omega, by go_num, hro3, b3⟩ | ((repeat apply Exists.intro); exact ⟨⟨k + 1, by omega, by go_num, hro3, b3⟩, rfl⟩)
      case measure => simp [RowKit.intOf]; omega
    · obtain rfl : k = n := by omega
      have hpa := hro.pa
      rw [range_nulls] at hpa
      obtain ⟨pv, cv, rfl⟩ := hpa.shape
      have hC := rof_any _ _ wr hpa
      have hg : goodImg (List.replicate k nulls) := ⟨by simpa using h0, by simpa using hn, fun r hr => by rw [(List.mem_replicate.1 hr).2]; exact nulls_len⟩
      have hnew : DevS.made (List.replicate k nulls) = DevS.new k := rfl
      rw [hnew] at hC
      generalize goodImg (List.replicate k nulls) = GG at *
      rw [List.length_replicate] at hC ⊢
      clear hpa hro hnew hm
      go_wp2_with (go_at_call 14; refine hC.mono ?_; rintro e w5 ⟨b5, (⟨_, bx, bl, bk, bw, cl, ck, cw, rfl, x1, x2, x3, x4, x5⟩ | ⟨hb, _⟩)⟩ <;> first | exact absurd hg hb | skip)
      go_ret2
      have hs := hbe.size
      exact ⟨hbe.trans (b5.mono hs), bx, bl, bk, bw, cl, ck, cw, rfl, x1, by omega, by omega, by omega, by omega⟩

end Go.Proofs.Ytmikhebbcmniaaa
