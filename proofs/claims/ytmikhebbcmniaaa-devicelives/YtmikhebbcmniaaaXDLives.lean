/- What this text proves: the walk of annalslaw07.DeviceLives over this program: it answers true. -/
import Derived.Test.YtmikhebbcmniaaaXDDo
import Derived.Test.YtmikhebbcmniaaaDAwake
namespace Go.Proofs.Ytmikhebbcmniaaa
open Go.RowKit

set_option maxRecDepth 100000 in
set_option maxHeartbeats 1600000 in
theorem lives_small (sectors : Int) (v1 : Value) (ss : List (Int × Int × List UInt8)) (w : World) (h1 : SA w v1 ss) (hbad : 1 ≤ sectors ∧ sectors ≤ 16384) (h40 : sectors ≤ 40) :
    Calls Try.prog 3 #[.int .i64 sectors, v1] w fun e w' => e = .returned (.bool true) ∧ Below w.heap.size w w' := by
  obtain ⟨p1, c1, rfl⟩ := h1.shape
  have hsl := h1.len_le
  unfold maxLen at hsl
  obtain ⟨N, rfl⟩ : ∃ N : Nat, sectors = (N : Int) := ⟨sectors.toNat, by omega⟩
  have hN := new_any N w (by omega) (by omega)
  have hXN := fun w1 => rnew_any N w1 (by omega) (by omega)
  have h41 : ¬ (40 : Int) < (N : Int) := by omega
  have hch0 : (DevS.new N).ch = 0 := rfl
  have hln0 : (DevS.new N).now.length = N := new_len N
  generalize DevS.new N = T0 at *
  go_enter Try.func3, Try.ntmps3
  go_wp2_with (first
    | (go_at_call 8; refine hN.mono ?_; rintro e w1 ⟨bd, bn, bm, rfl, hd1, e1, e2, e3, b1⟩; have hX := hXN w1)
    | (go_at_call 9; refine hX.mono ?_; rintro e w2 ⟨b2, bx, bl, bk, bw, cl, ck, cw, rfl, hx2, e4, e5, e6, e7⟩))
  have s1 := b1.size
  have hT : Two w2 w.heap.size bd bn bm bx bl bk bw cl ck cw T0 := ⟨hd1.later b2, hx2, e1, e2, e3, by omega, by omega, by omega, by omega⟩
  have hB2 : Below w.heap.size w w2 := b1.trans (b2.mono s1)
  clear hN hX hXN hd1 hx2 e1 e2 e3 e4 e5 e6 e7 b1 b2
  go_loopw [45] (fun i wr => ∃ (k bm : Nat) (t : DevS), k ≤ ss.length ∧ i = .int .i64 k ∧ Two wr w.heap.size bd bn bm bx bl bk bw cl ck cw t ∧ t.ch ≤ 40 ∧ (t.ch ≤ k) ∧ Below w.heap.size w wr) (fun i _ => ss.length - (RowKit.intOf i).toNat)
  case atStart => exact ⟨0, bm, T0, Nat.zero_le _, rfl, hT, by omega, by omega, hB2⟩
  case round =>
    obtain ⟨k, bm, t, hk, rfl, h2, hc1, hc2, hbe⟩ := hrel
    clear hT hB2
    by_cases hlt : k < ss.length
    · obtain ⟨x, hx⟩ : ∃ x, ss[k]? = some x := ⟨_, List.getElem?_eq_getElem hlt⟩
      obtain ⟨b, o, rfl, hcs⟩ := (h1.later hbe).addr (by omega)
      obtain ⟨_, _, e3, hcw⟩ := h1.addr (by omega)
      cases e3
      obtain ⟨q1, q2, q3, q4, u, q5, q6⟩ := hcs k x hx
      obtain ⟨_, _, _, _, u', q5', q6'⟩ := hcw k x hx
      have hub : x.2.2 ≠ [] → ∀ a n c, u = .slice (some a) n c → a.block < w.heap.size := by
        have e := cell_later hbe q5'
        rw [q5] at e
        cases e
        exact fun hl => q6'.blk hl
      obtain ⟨op, I, lb⟩ := x
      simp only at q1 q2 q3 q4 q6 hub
      obtain ⟨pu, cu, rfl⟩ := q6.shape
      clear hcs hcw q5' q6'
      have hlt2 : (k : Int) < (ss.length : Int) := by omega
      have bA := (Below.refl wr.heap.size wr).alloc (Nat.le_refl _) (.cells #[.int .i64 op, .int .i64 I, .slice pu lb.length cu] 33)
      have hbA : Below w.heap.size w (wr.alloc (.cells #[.int .i64 op, .int .i64 I, .slice pu lb.length cu] 33)) := hbe.trans (bA.mono hbe.size)
      have h2A := h2.later bA
      by_cases hk40 : k < 40
      · have hk2 : (k : Int) < 40 := by omega
        have hD := do_any h2A (by omega) op I q4.2 _ lb (q6.later bA) hub
        unfold DoIs at hD
        clear h2 q6 bA hub hx
        go_wp2_with (first
          | (go_at_call 11; refine hD.mono ?_; rintro e w5 ⟨rfl, bm5, t5, h5, hc5, hl5, b5⟩; have hS := dsame_any h5.d h5.x)
          | (go_at_call 12; refine hS.mono ?_; rintro e w6 ⟨rfl, b6⟩))
        have h6 := h5.later b6
        have hb6 : Below w.heap.size w w6 := (hbA.trans b5).trans (b6.mono (Nat.le_trans hbA.size b5.size))
        clear hD hS h5 b5 b6 hbA hbe q1 q2 q5
        go_roundw
        case rel => first | exact ⟨k + 1, bm5, t5, by omega, by go_num, h6, by omega, by omega, hb6⟩ | ((repeat apply Exists.intro); exact ⟨⟨k + 1, bm5, t5, by omega, by go_num, h6, by omega, by omega, hb6⟩, rfl⟩)
        case measure => simp [RowKit.intOf]; omega
      · have hk2 : ¬ (k : Int) < 40 := by omega
        clear h2 q6 bA hub hx
        go_wp2
        go_roundw
        case rel => first | exact ⟨k + 1, bm, t, by omega, by go_num, h2A, by omega, by omega, hbA⟩ | ((repeat apply Exists.intro); exact ⟨⟨k + 1, bm, t, by omega, by go_num, h2A, by omega, by omega, hbA⟩, rfl⟩)
        case measure => simp [RowKit.intOf]; omega
    · have hAw := awake_any wr
      clear h2 h1
      go_wp2_with (go_at_call 10; refine hAw.mono ?_; rintro e w7 ⟨rfl, b7⟩)
      go_ret
      exact ⟨rfl, hbe.trans (b7.mono hbe.size)⟩

set_option maxRecDepth 100000 in
set_option maxHeartbeats 1600000 in
theorem lives_big (sectors : Int) (v1 : Value) (ss : List (Int × Int × List UInt8)) (w : World) (h1 : SA w v1 ss) (hbad : 1 ≤ sectors ∧ sectors ≤ 16384) (h40 : ¬ sectors ≤ 40) :
    Calls Try.prog 3 #[.int .i64 sectors, v1] w fun e w' => e = .returned (.bool true) ∧ Below w.heap.size w w' := by
  obtain ⟨p1, c1, rfl⟩ := h1.shape
  have hsl := h1.len_le
  unfold maxLen at hsl
  obtain ⟨N, hNe⟩ : ∃ N : Nat, 1 + sectors % 40 = (N : Int) := ⟨(1 + sectors % 40).toNat, by omega⟩
  have hN := new_any N w (by omega) (by omega)
  have hXN := fun w1 => rnew_any N w1 (by omega) (by omega)
  have h41 : (40 : Int) < sectors := by omega
  have h42 : sectors ≤ 16384 := hbad.2
  have hle : N ≤ 40 := by omega
  clear hbad
  have hch0 : (DevS.new N).ch = 0 := rfl
  have hln0 : (DevS.new N).now.length = N := new_len N
  generalize DevS.new N = T0 at *
  go_enter Try.func3, Try.ntmps3
  go_wp2_with (first
    | (go_at_call 8; refine hN.mono ?_; rintro e w1 ⟨bd, bn, bm, rfl, hd1, e1, e2, e3, b1⟩; have hX := hXN w1)
    | (go_at_call 9; refine hX.mono ?_; rintro e w2 ⟨b2, bx, bl, bk, bw, cl, ck, cw, rfl, hx2, e4, e5, e6, e7⟩))
  have s1 := b1.size
  have hT : Two w2 w.heap.size bd bn bm bx bl bk bw cl ck cw T0 := ⟨hd1.later b2, hx2, e1, e2, e3, by omega, by omega, by omega, by omega⟩
  have hB2 : Below w.heap.size w w2 := b1.trans (b2.mono s1)
  clear hN hX hXN hd1 hx2 e1 e2 e3 e4 e5 e6 e7 b1 b2
  go_loopw [45] (fun i wr => ∃ (k bm : Nat) (t : DevS), k ≤ ss.length ∧ i = .int .i64 k ∧ Two wr w.heap.size bd bn bm bx bl bk bw cl ck cw t ∧ t.ch ≤ 40 ∧ (t.ch ≤ k) ∧ Below w.heap.size w wr) (fun i _ => ss.length - (RowKit.intOf i).toNat)
  case atStart => exact ⟨0, bm, T0, Nat.zero_le _, rfl, hT, by omega, by omega, hB2⟩
  case round =>
    obtain ⟨k, bm, t, hk, rfl, h2, hc1, hc2, hbe⟩ := hrel
    clear hT hB2
    by_cases hlt : k < ss.length
    · obtain ⟨x, hx⟩ : ∃ x, ss[k]? = some x := ⟨_, List.getElem?_eq_getElem hlt⟩
      obtain ⟨b, o, rfl, hcs⟩ := (h1.later hbe).addr (by omega)
      obtain ⟨_, _, e3, hcw⟩ := h1.addr (by omega)
      cases e3
      obtain ⟨q1, q2, q3, q4, u, q5, q6⟩ := hcs k x hx
      obtain ⟨_, _, _, _, u', q5', q6'⟩ := hcw k x hx
      have hub : x.2.2 ≠ [] → ∀ a n c, u = .slice (some a) n c → a.block < w.heap.size := by
        have e := cell_later hbe q5'
        rw [q5] at e
        cases e
        exact fun hl => q6'.blk hl
      obtain ⟨op, I, lb⟩ := x
      simp only at q1 q2 q3 q4 q6 hub
      obtain ⟨pu, cu, rfl⟩ := q6.shape
      clear hcs hcw q5' q6'
      have hlt2 : (k : Int) < (ss.length : Int) := by omega
      have bA := (Below.refl wr.heap.size wr).alloc (Nat.le_refl _) (.cells #[.int .i64 op, .int .i64 I, .slice pu lb.length cu] 33)
      have hbA : Below w.heap.size w (wr.alloc (.cells #[.int .i64 op, .int .i64 I, .slice pu lb.length cu] 33)) := hbe.trans (bA.mono hbe.size)
      have h2A := h2.later bA
      by_cases hk40 : k < 40
      · have hk2 : (k : Int) < 40 := by omega
        have hD := do_any h2A (by omega) op I q4.2 _ lb (q6.later bA) hub
        unfold DoIs at hD
        clear h2 q6 bA hub hx
        go_wp2_with (first
          | (go_at_call 11; refine hD.mono ?_; rintro e w5 ⟨rfl, bm5, t5, h5, hc5, hl5, b5⟩; have hS := dsame_any h5.d h5.x)
          | (go_at_call 12; refine hS.mono ?_; rintro e w6 ⟨rfl, b6⟩))
        have h6 := h5.later b6
        have hb6 : Below w.heap.size w w6 := (hbA.trans b5).trans (b6.mono (Nat.le_trans hbA.size b5.size))
        clear hD hS h5 b5 b6 hbA hbe q1 q2 q5
        go_roundw
        case rel => first | exact ⟨k + 1, bm5, t5, by omega, by go_num, h6, by omega, by omega, hb6⟩ | ((repeat apply Exists.intro); exact ⟨⟨k + 1, bm5, t5, by omega, by go_num, h6, by omega, by omega, hb6⟩, rfl⟩)
        case measure => simp [RowKit.intOf]; omega
      · have hk2 : ¬ (k : Int) < 40 := by omega
        clear h2 q6 bA hub hx
        go_wp2
        go_roundw
        case rel => first | exact ⟨k + 1, bm, t, by omega, by go_num, h2A, by omega, by omega, hbA⟩ | ((repeat apply Exists.intro); exact ⟨⟨k + 1, bm, t, by omega, by go_num, h2A, by omega, by omega, hbA⟩, rfl⟩)
        case measure => simp [RowKit.intOf]; omega
    · have hAw := awake_any wr
      clear h2 h1
      go_wp2_with (go_at_call 10; refine hAw.mono ?_; rintro e w7 ⟨rfl, b7⟩)
      go_ret
      exact ⟨rfl, hbe.trans (b7.mono hbe.size)⟩

set_option maxRecDepth 100000 in
set_option maxHeartbeats 1600000 in
theorem lives_bad (sectors : Int) (v1 : Value) (ss : List (Int × Int × List UInt8)) (w : World) (h1 : SA w v1 ss) (hbad : ¬ (1 ≤ sectors ∧ sectors ≤ 16384)) :
    Calls Try.prog 3 #[.int .i64 sectors, v1] w fun e w' => e = .returned (.bool true) ∧ Below w.heap.size w w' := by
  obtain ⟨p1, c1, rfl⟩ := h1.shape
  have hsl := h1.len_le
  unfold maxLen at hsl
  have hN := new_bad sectors w hbad
  have hX := rnew_bad sectors w hbad
  have hAw := awake_any w
  by_cases h40 : (40 : Int) < sectors
  · have h2 : ¬ sectors ≤ 16384 := by omega
    clear hbad h1
    go_enter Try.func3, Try.ntmps3
    go_wp2_with (first
      | (go_at_call 8; refine hN.mono ?_; rintro e w1 ⟨rfl, hw⟩; have hw2 := hw.symm; clear hw; subst hw2)
      | (go_at_call 9; refine hX.mono ?_; rintro e w1 ⟨rfl, hw⟩; have hw2 := hw.symm; clear hw; subst hw2)
      | (go_at_call 10; refine hAw.mono ?_; rintro e w7 ⟨rfl, b7⟩))
    go_ret
    exact ⟨rfl, b7⟩
  · clear hbad h1
    go_enter Try.func3, Try.ntmps3
    go_wp2_with (first
      | (go_at_call 8; refine hN.mono ?_; rintro e w1 ⟨rfl, hw⟩; have hw2 := hw.symm; clear hw; subst hw2)
      | (go_at_call 9; refine hX.mono ?_; rintro e w1 ⟨rfl, hw⟩; have hw2 := hw.symm; clear hw; subst hw2)
      | (go_at_call 10; refine hAw.mono ?_; rintro e w7 ⟨rfl, b7⟩))
    go_ret
    exact ⟨rfl, b7⟩


theorem livesWalk (sectors : Int) (v1 : Value) (ss : List (Int × Int × List UInt8)) (w : World) (h1 : SA w v1 ss) :
    Calls Try.prog 3 #[.int .i64 sectors, v1] w fun e w' => e = .returned (.bool true) ∧ Below w.heap.size w w' := by
  by_cases hbad : 1 ≤ sectors ∧ sectors ≤ 16384
  · by_cases h40 : sectors ≤ 40
    · exact lives_small sectors v1 ss w h1 hbad h40
    · exact lives_big sectors v1 ss w h1 hbad h40
  · exact lives_bad sectors v1 ss w h1 hbad

end Go.Proofs.Ytmikhebbcmniaaa
