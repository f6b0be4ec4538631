/- What this text proves: the walk of annalsplain.Devices over this program: two devices side by side, with steps done on both. -/
import Derived.Test.YtmikhebbcmniaaaXDDo
import Derived.Test.YtmikhebbcmniaaaXDCopy
namespace Go.Proofs.Ytmikhebbcmniaaa
open Go.RowKit

set_option maxRecDepth 100000 in
set_option maxHeartbeats 3200000 in
theorem devices_any (N : Nat) (hN1 : 1 ≤ N) (hN2 : N ≤ 16384) (v1 : Value) (ss : List (Int × Int × List UInt8)) (w : World) (h1 : SA w v1 ss) :
    Calls Try.prog 26 #[.int .i64 (N : Int), v1] w fun e w' => ∃ bd bn bm bx bl bk bw cl ck cw t, e = .returned (.tuple #[.pointer (some ⟨bd, 0, none⟩), .pointer (some ⟨bx, 0, none⟩), .bool true]) ∧ Two w' w.heap.size bd bn bm bx bl bk bw cl ck cw t ∧ t.ch ≤ 40 ∧ t.now.length = N ∧ Below w.heap.size w w' := by
  obtain ⟨p1, c1, rfl⟩ := h1.shape
  have hsl := h1.len_le
  unfold maxLen at hsl
  have hN := new_any N w hN1 hN2
  have hXN := fun w1 => rnew_any N w1 hN1 hN2
  have hch0 : (DevS.new N).ch = 0 := rfl
  have hln0 : (DevS.new N).now.length = N := new_len N
  generalize DevS.new N = T0 at *
  go_enter Try.func26, Try.ntmps26
  go_wp2_with (first
    | (go_at_call 8; refine hN.mono ?_; rintro e w1 ⟨bd, bn, bm, rfl, hd1, e1, e2, e3, b1⟩; have hX := hXN w1)
    | (go_at_call 9; refine hX.mono ?_; rintro e w2 ⟨b2, bx, bl, bk, bw, cl, ck, cw, rfl, hx2, e4, e5, e6, e7⟩))
  have s1 := b1.size
  have hT : Two w2 w.heap.size bd bn bm bx bl bk bw cl ck cw T0 := ⟨hd1.later b2, hx2, e1, e2, e3, by omega, by omega, by omega, by omega⟩
  have hB2 : Below w.heap.size w w2 := b1.trans (b2.mono s1)
  clear hN hX hXN hd1 hx2 e1 e2 e3 e4 e5 e6 e7 b1 b2
  go_loopw [38] (fun i wr => ∃ (k bm : Nat) (t : DevS), k ≤ ss.length ∧ i = .int .i64 k ∧ Two wr w.heap.size bd bn bm bx bl bk bw cl ck cw t ∧ t.ch ≤ 40 ∧ t.ch ≤ k ∧ t.now.length = N ∧ Below w.heap.size w wr) (fun i _ => ss.length - (RowKit.intOf i).toNat)
  case atStart => exact ⟨0, bm, T0, Nat.zero_le _, rfl, hT, by omega, by omega, hln0, hB2⟩
  case round =>
    obtain ⟨k, bm, t, hk, rfl, h2, hc1, hc2, hln, hbe⟩ := hrel
    clear hT hB2
    by_cases hlt : k < ss.length
    · obtain ⟨x, hx⟩ : ∃ x, ss[k]? = some x := ⟨_, List.getElem?_eq_getElem hlt⟩
      obtain ⟨b, o, rfl, hcs⟩ := (h1.later hbe).addr (by omega)
      obtain ⟨_, _, e3, hcw⟩ := h1.addr (by omega)
      cases e3
      obtain ⟨q1, q2, q3, q4, u, q5, q6⟩ := hcs k x hx
      obtain ⟨_, _, _, _, u', q5', q6'⟩ := hcw k x hx
      have hub : x.2.2 ≠ [] → ∀ a n c, u = .slice (some a) n c → a.block < w.heap.size := by
        have e := cell_later hbe q5'
        rw [q5] at e
        cases e
        exact fun hl => q6'.blk hl
      obtain ⟨op, I, lb⟩ := x
      simp only at q1 q2 q3 q4 q6 hub
      obtain ⟨pu, cu, rfl⟩ := q6.shape
      clear hcs hcw q5' q6'
      have hlt2 : (k : Int) < (ss.length : Int) := by omega
      have bA := (Below.refl wr.heap.size wr).alloc (Nat.le_refl _) (.cells #[.int .i64 op, .int .i64 I, .slice pu lb.length cu] 33)
      have hbA : Below w.heap.size w (wr.alloc (.cells #[.int .i64 op, .int .i64 I, .slice pu lb.length cu] 33)) := hbe.trans (bA.mono hbe.size)
      have h2A := h2.later bA
      by_cases hk40 : k < 40
      · have hk2 : (k : Int) < 40 := by omega
        have hD := do_any h2A (by omega) op I q4.2 _ lb (q6.later bA) hub
        unfold DoIs at hD
        rw [hln] at hD
        clear h2 q6 bA hub hx
        go_wp2_with (first
          | (go_at_call 11; refine hD.mono ?_; rintro e w5 ⟨rfl, bm5, t5, h5, hc5, hl5, b5⟩))
        have hb5 : Below w.heap.size w w5 := hbA.trans b5
        clear hD b5 hbA hbe q1 q2 q5
        go_roundw
        case rel => first | exact ⟨k + 1, bm5, t5, by omega, by go_num, h5, by omega, by omega, hl5, hb5⟩ | ((repeat apply Exists.intro); exact ⟨⟨k + 1, bm5, t5, by omega, by go_num, h5, by omega, by omega, hl5, hb5⟩, rfl⟩)
        case measure => simp [RowKit.intOf]; omega
      · have hk2 : ¬ (k : Int) < 40 := by omega
        clear h2 q6 bA hub hx
        go_wp2
        go_roundw
        case rel => first | exact ⟨k + 1, bm, t, by omega, by go_num, h2A, by omega, by omega, hln, hbA⟩ | ((repeat apply Exists.intro); exact ⟨⟨k + 1, bm, t, by omega, by go_num, h2A, by omega, by omega, hln, hbA⟩, rfl⟩)
        case measure => simp [RowKit.intOf]; omega
    · have hS := dsame_any h2.d h2.x
      clear h1
      go_wp2_with (go_at_call 12; refine hS.mono ?_; rintro e w7 ⟨rfl, b7⟩)
      have h7 := h2.later b7
      clear hS h2
      go_ret3
      exact ⟨bd, bn, bm, bx, bl, bk, bw, cl, ck, cw, t, rfl, h7, hc1, hln, hbe.trans (b7.mono hbe.size)⟩

theorem IMG.kept {W W' : World} {base g n k : Nat} {now : Nat → List UInt8} (h : IMG W base g n k now) (hk : ∀ q, base ≤ q → q < W.heap.size → W'.heap[q]? = W.heap[q]?) : IMG W' base g n k now := by
  obtain ⟨vs, h1, h2⟩ := h
  refine ⟨vs, ⟨h1.1, ?_⟩, fun j u hj hu => ?_⟩
  · rcases h1.2 with h0 | ⟨g', cap, cur, he, hb, hg, rest⟩
    · exact .inl h0
    · exact .inr ⟨g', cap, cur, he, hb, (hk g' hb (Array.getElem?_eq_some_iff.1 hg).1).trans hg, rest⟩
  · obtain ⟨b, e1, e2, e3⟩ := h2 j u hj hu
    exact ⟨b, e1, e2, (hk b e2 (Array.getElem?_eq_some_iff.1 e3).1).trans e3⟩

/-- An image lies between base and top, and the second world has that part as the first one. -/
def Span (base top : Nat) (W W' : World) : Prop := ∀ q, base ≤ q → q < top → W'.heap[q]? = W.heap[q]?
theorem Span.trans {base top : Nat} {A B C : World} (h1 : Span base top A B) (h2 : Span base top B C) : Span base top A C := fun q hb ht => (h2 q hb ht).trans (h1 q hb ht)
theorem Span.of_below {base top B : Nat} {W W' : World} (h : Below B W W') (ht : top ≤ B) : Span base top W W' := fun q _ hq => h.block q (by omega)
theorem Span.of_part {base top : Nat} {S : Nat → Prop} {W W' : World} (h : Part S W W') (ht : top ≤ W.heap.size) (hS : ∀ q, S q → q < base ∨ top ≤ q) : Span base top W W' := fun q hb hq => h.2 q (by omega) (fun s => by rcases hS q s with e | e <;> omega)

/-- What the writes behind a crash keep: each sector as it was. -/
structure KI (t : DevS) (A : Nat → List UInt8) : Prop where
  len : t.now.length = 8
  kept : ∀ j, j < 8 → keptF t j = A j
  fuse : t.fuse = -1
  dead : t.dead = false
theorem KI.stops {t : DevS} {A : Nat → List UInt8} (h : KI t A) : t.stops = false := by simp [DevS.stops, h.dead, h.fuse]
theorem KI.first {t : DevS} (hok : t.Ok) (hl : t.now.length = 8) (keep : List UInt8) : KI (t.crash keep) (nowF (t.crash keep)) :=
  ⟨by rw [crash_len hok]; exact hl, fun j _ => rfl, rfl, rfl⟩
theorem KI.write {t : DevS} {A : Nat → List UInt8} (h : KI t A) (i : Nat) (hi : i < 8) (l : List UInt8) : KI (t.write i l) A := by
  have hs := h.stops
  have hi' : i < t.now.length := by rw [h.len]; exact hi
  refine ⟨by rw [xw_now hs, List.length_set]; exact h.len, fun j hj => ?_, write_fuse hs h.fuse i l, write_dead hs h.dead i l⟩
  rw [← h.kept j hj]
  unfold keptF
  rw [write_old t i l hs, xw_now hs]
  unfold oldW
  by_cases hji : j = i
  · subst hji
    rw [if_pos rfl]
    cases hso : t.old j with
    | some m => rfl
    | none =>
      simp only [Option.getD_none]
      simp [List.getD_eq_getElem?_getD, List.getElem?_eq_getElem hi']
  · rw [if_neg hji]
    cases t.old j with
    | some m => rfl
    | none =>
      simp only [Option.getD_none]
      rw [List.getD_eq_getElem?_getD, List.getD_eq_getElem?_getD, List.getElem?_set_ne (fun e => hji e.symm)]
theorem KI.left {t : DevS} {A : Nat → List UInt8} (h : KI t A) (hok : t.Ok) (keep : List UInt8) (j : Nat) (hj : j < 8) : nowF (t.crash keep) j = nowF t j ∨ nowF (t.crash keep) j = A j := by
  rw [crash_nowF hok keep j (by rw [h.len]; exact hj)]
  unfold leftF
  split
  · exact .inr (h.kept j hj)
  · exact .inl rfl
theorem KI.all {t : DevS} {A : Nat → List UInt8} (h : KI t A) (hok : t.Ok) (cp j : Nat) (hj : j < 8) : nowF ((t.room cp).crash (List.replicate 9 1)) j = nowF t j := by
  have hl : j < (t.room cp).now.length := by show j < t.now.length; rw [h.len]; exact hj
  rw [crash_nowF (room_ok hok cp) _ j hl]
  unfold leftF
  have hr := rank_le (t.room cp) j
  have hk : keeps (List.replicate 9 (1 : UInt8)) (rank (t.room cp) j) = true := by
    unfold keeps
    rw [List.getElem?_replicate, if_pos (by omega)]
    decide
  rw [hk]
  simp only [Bool.true_eq_false, and_false, if_false]
  rfl

end Go.Proofs.Ytmikhebbcmniaaa
