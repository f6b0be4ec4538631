/- What this text proves: the walk of annalslaw07.DeviceImages over this program: it answers true. -/
import Derived.Test.YtmikhebbcmniaaaXDDevs
import Derived.Test.YtmikhebbcmniaaaXDRead2
import Derived.Test.YtmikhebbcmniaaaXDPOf
import Derived.Test.YtmikhebbcmniaaaDAwake
namespace Go.Proofs.Ytmikhebbcmniaaa
open Go.RowKit

theorem IMG.rows {W : World} {base g n : Nat} {now : Nat → List UInt8} (h : IMG W base g n n now) (hl : ∀ j, j < n → (now j).length = 64) : RowsB W base g n := by
  obtain ⟨vs, h1, h2⟩ := h
  intro j hj
  have hv := h1.1
  rw [Nat.mul_one] at hv
  have hc := h1.cellAt j (by omega)
  rw [List.getElem?_eq_getElem (by omega)] at hc
  obtain ⟨b, e1, e2, e3⟩ := h2 j _ hj (List.getElem?_eq_getElem (by omega))
  rw [e1] at hc
  refine ⟨b, hc, e2, ?_, ⟨_, _, e3, by rw [List.size_toArray, bcs_length, hl j hj], fun i hi => ?_⟩⟩
  · rintro rfl
    rcases h1.2 with ⟨h0, _⟩ | ⟨g', cap, cur, he, _, hg, _⟩
    · cases h0
    · simp only [Value.slice.injEq, Option.some.injEq, Addr.mk.injEq, and_true, true_and] at he
      obtain ⟨rfl, _⟩ := he
      rw [e3] at hg
      simp at hg
  · obtain ⟨x, hx⟩ : ∃ x, (now j)[i]? = some x := ⟨_, List.getElem?_eq_getElem (by rw [hl j hj]; exact hi)⟩
    exact ⟨_, by rw [List.getElem?_toArray, bcs_get, hx]; rfl⟩

/-- The document's device serves any room of the program's. -/
theorem XDev.room {w : World} {bx bl bk bw cl ck cw : Nat} {s : DevS} (h : XDev w bx bl bk bw cl ck cw s) (cp : Nat) : XDev w bx bl bk bw cl ck cw (s.room cp) := ⟨room_ok h.ok cp, h.g⟩

set_option maxRecDepth 100000 in
set_option maxHeartbeats 3200000 in
theorem imagesWalk (v0 v1 : Value) (I0 : Int) (ls : List (List UInt8)) (ss : List (Int × Int × List UInt8)) (w : World) (h0 : PA w v0 ls) (h1 : SA w v1 ss) :
    Calls Try.prog 4 #[v0, v1, .int .i64 I0] w fun e w' => e = .returned (.bool true) ∧ Below w.heap.size w w' := by
  obtain ⟨p0, c0, rfl⟩ := h0.shape
  obtain ⟨p1, c1, rfl⟩ := h1.shape
  have hsl := h1.len_le
  unfold maxLen at hsl
  have hml := h0.len.2
  unfold maxLen at hml
  have hAw := awake_any
  by_cases h100 : (100 : Int) < (ls.length : Int)
  · have hA0 := hAw w
    clear h0 h1
    go_enter Try.func4, Try.ntmps4
    go_wp2_with (go_at_call 10; refine hA0.mono ?_; rintro e w7 ⟨rfl, b7⟩)
    go_ret
    exact ⟨rfl, b7⟩
  · have hO := of_any _ ls w h0
    by_cases hg : goodImg ls
    · have hO' : Calls Try.prog 13 #[.slice p0 ls.length c0] w fun e w' => ∃ bd bn bm, e = .returned (.tuple #[.pointer (some ⟨bd, 0, none⟩), .int .i64 0]) ∧ Dev w' bd bn bm (DevS.made ls) ∧ w.heap.size ≤ bd ∧ w.heap.size ≤ bn ∧ w.heap.size ≤ bm ∧ Below w.heap.size w w' := by
        refine hO.mono ?_
        rintro e w' ⟨b, (⟨_, bd, bn, bm, rfl, hd, e1, e2, e3⟩ | ⟨hn, _⟩)⟩
        · exact ⟨bd, bn, bm, rfl, hd, e1, e2, e3, b⟩
        · exact absurd hg hn
      have hX : ∀ w1, Below w.heap.size w w1 → Calls Try.prog 14 #[.slice p0 ls.length c0] w1 fun e w' => ∃ bx bl bk bw cl ck cw, e = .returned (.tuple #[.pointer (some ⟨bx, 0, none⟩), .int .i64 0]) ∧ XDev w' bx bl bk bw cl ck cw (DevS.made ls) ∧ w1.heap.size ≤ bx ∧ w1.heap.size ≤ bl ∧ w1.heap.size ≤ bk ∧ w1.heap.size ≤ bw ∧ Below w1.heap.size w1 w' := by
        intro w1 b1
        refine (rof_any _ ls w1 (h0.later b1)).mono ?_
        rintro e w' ⟨b, (⟨_, bx, bl, bk, bw, cl, ck, cw, rfl, hd, e1, e2, e3, e4⟩ | ⟨hn, _⟩)⟩
        · exact ⟨bx, bl, bk, bw, cl, ck, cw, rfl, hd, e1, e2, e3, e4, b⟩
        · exact absurd hg hn
      have hch0 : (DevS.made ls).ch = 0 := rfl
      have hok0 : (DevS.made ls).Ok := DevS.Ok.made ls hg.1 hg.2.1 hg.2.2
      obtain ⟨E, lr, hR1, hR2⟩ := reads_two2 hok0 I0
      clear hO hg
      generalize DevS.made ls = T0 at *
      have hln : T0.now.length ≤ 16384 := hok0.most
      have hrow0 := fun j (hj : j < T0.now.length) => (nowF_row hok0 j hj).2
      go_enter Try.func4, Try.ntmps4
      go_wp2_with (first
        | (go_at_call 13; refine hO'.mono ?_; rintro e w1 ⟨bd, bn, bm, rfl, hd1, e1, e2, e3, b1⟩; have hXo := hX w1 b1)
        | (go_at_call 14; refine hXo.mono ?_; rintro e w2 ⟨bx, bl, bk, bw, cl, ck, cw, rfl, hx2, e4, e5, e6, e7, b2⟩; have hT : Two w2 w.heap.size bd bn bm bx bl bk bw cl ck cw T0 := ⟨hd1.later b2, hx2, e1, e2, e3, Nat.le_trans b1.size e4, Nat.le_trans b1.size e5, Nat.le_trans b1.size e6, Nat.le_trans b1.size e7⟩; have bw2 : Below w.heap.size w w2 := b1.trans (b2.mono b1.size); have hIm := image_any hT.d)
        | (go_at_call 16; refine hIm.mono ?_; rintro e w3 ⟨gI, rfl, hI3, b3⟩; have hSp := spoil_any w2.heap.size gI T0.now.length T0.now.length hln (hI3.rows hrow0))
        | (go_at_call 15; refine hSp.mono ?_; rintro e w4 ⟨rfl, b4⟩; have b24 : Below w2.heap.size w2 w4 := b3.trans b4; have hT4 := hT.later b24; have bw4 : Below w.heap.size w w4 := bw2.trans (b24.mono bw2.size); have hRd := hR1 w4 bd bn bm hT4.d)
        | (go_at_call 17; refine hRd.mono ?_; rintro e w5 ⟨va, rfl, hva, b5⟩; obtain ⟨pa, ca, rfl⟩ := hva.shape; have hT5 := hT4.later b5; have bw5 : Below w.heap.size w w5 := bw4.trans (b5.mono bw4.size); have hRx := hR2 w5 bx bl bk bw cl ck cw hT5.x)
        | (go_at_call 18; refine hRx.mono ?_; rintro e w6 ⟨vb, rfl, hvb, b6⟩; obtain ⟨pb, cb, rfl⟩ := hvb.shape; have hT6 := hT5.later b6; have bw6 : Below w.heap.size w w6 := bw5.trans (b6.mono bw5.size); have hCp := copy_any hT6.d)
        | (go_at_call 19; refine hCp.mono ?_; rintro e w7 ⟨gd, gn, gm, cp, rfl, hc7, f1, f2, f3, b7⟩; have hT7 := hT6.later b7; have bw7 : Below w.heap.size w w7 := bw6.trans (b7.mono bw6.size); have hCx := rcopy_any hT7.x)
        | (go_at_call 20; refine hCx.mono ?_; rintro e w8 ⟨gz, g1, g2, g3, k1, k2, k3, rfl, hz8, f4, f5, f6, f7, b8⟩))
      have s7 : w6.heap.size ≤ w7.heap.size := b7.size
      have b68 : Below w6.heap.size w6 w8 := b7.trans (b8.mono s7)
      have hCC : Two w8 w6.heap.size gd gn gm gz g1 g2 g3 k1 k2 k3 (T0.room cp) := ⟨hc7.later b8, hz8.room cp, f1, f2, f3, Nat.le_trans s7 f4, Nat.le_trans s7 f5, Nat.le_trans s7 f6, Nat.le_trans s7 f7⟩
      have hva6 := hva.later b6
      have hcc0 : (T0.room cp).ch = 0 := hch0
      have hsw : w.heap.size ≤ w6.heap.size := bw6.size
      clear hO' hX hXo hIm hSp hRd hRx hCp hCx hT hT4 hT5 hT7 hI3 b1 b2 b3 b4 b24 b5 b6 b7 b8 hd1 hx2 hc7 hz8 e1 e2 e3 e4 e5 e6 e7 f1 f2 f3 f4 f5 f6 f7 hva bw2 bw4 bw5 bw7 hR1 hR2 h0
      go_loopw [66] (fun i wr => ∃ (k gm : Nat) (t : DevS), k ≤ ss.length ∧ i = .int .i64 k ∧ Two wr w6.heap.size gd gn gm gz g1 g2 g3 k1 k2 k3 t ∧ t.ch ≤ 20 ∧ t.ch ≤ k ∧ Below w6.heap.size w6 wr) (fun i _ => ss.length - (RowKit.intOf i).toNat)
      case atStart => exact ⟨0, gm, T0.room cp, Nat.zero_le _, rfl, hCC, by omega, by omega, b68⟩
      case round =>
        obtain ⟨k, gm, t, hk, rfl, h2, hc1, hc2, hbe⟩ := hrel
        clear hCC b68
        by_cases hlt : k < ss.length
        · obtain ⟨x, hx⟩ : ∃ x, ss[k]? = some x := ⟨_, List.getElem?_eq_getElem hlt⟩
          have bwr : Below w.heap.size w wr := bw6.trans (hbe.mono hsw)
          obtain ⟨b, o, rfl, hcs⟩ := (h1.later bwr).addr (by omega)
          obtain ⟨_, _, e3, hcw⟩ := h1.addr (by omega)
          cases e3
          obtain ⟨q1, q2, q3, q4, u, q5, q6⟩ := hcs k x hx
          obtain ⟨_, _, _, _, u', q5', q6'⟩ := hcw k x hx
          have hub : x.2.2 ≠ [] → ∀ a n c, u = .slice (some a) n c → a.block < w6.heap.size := by
            have e := cell_later bwr q5'
            rw [q5] at e
            cases e
            exact fun hl a n c e => Nat.lt_of_lt_of_le (q6'.blk hl a n c e) hsw
          obtain ⟨op, I, lb⟩ := x
          simp only at q1 q2 q3 q4 q6 hub
          obtain ⟨pu, cu, rfl⟩ := q6.shape
          clear hcs hcw q5' q6' bwr
          have hlt2 : (k : Int) < (ss.length : Int) := by omega
          have bA := (Below.refl wr.heap.size wr).alloc (Nat.le_refl _) (.cells #[.int .i64 op, .int .i64 I, .slice pu lb.length cu] 33)
          have hbA : Below w6.heap.size w6 (wr.alloc (.cells #[.int .i64 op, .int .i64 I, .slice pu lb.length cu] 33)) := hbe.trans (bA.mono hbe.size)
          have h2A := h2.later bA
          by_cases hk20 : k < 20
          · have hk2 : (k : Int) < 20 := by omega
            have hD := do_any h2A (by omega) op I q4.2 _ lb (q6.later bA) hub
            unfold DoIs at hD
            clear h2 q6 bA hub hx
            go_wp2_with (first
              | (go_at_call 11; refine hD.mono ?_; rintro e w9 ⟨rfl, gm9, t9, h9, hc9, hl9, b9⟩))
            have hb9 : Below w6.heap.size w6 w9 := hbA.trans b9
            clear hD b9 hbA hbe q1 q2 q5
            go_roundw
            case rel => first | exact ⟨k + 1, gm9, t9, by omega, by go_num, h9, by omega, by omega, hb9⟩ | ((repeat apply Exists.intro); exact ⟨⟨k + 1, gm9, t9, by omega, by go_num, h9, by omega, by omega, hb9⟩, rfl⟩)
            case measure => simp [RowKit.intOf]; omega
          · have hk2 : ¬ (k : Int) < 20 := by omega
            clear h2 q6 bA hub hx
            go_wp2
            go_roundw
            case rel => first | exact ⟨k + 1, gm, t, by omega, by go_num, h2A, by omega, by omega, hbA⟩ | ((repeat apply Exists.intro); exact ⟨⟨k + 1, gm, t, by omega, by go_num, h2A, by omega, by omega, hbA⟩, rfl⟩)
            case measure => simp [RowKit.intOf]; omega
        · have hTr := hT6.later hbe
          have hE := equal_t _ _ _ _ wr (hva6.later hbe) (hvb.later hbe) rfl
          have hS1 := dsame_any hTr.d hTr.x
          have bwr : Below w.heap.size w wr := bw6.trans (hbe.mono hsw)
          have hSecond : ∀ wx, Below wr.heap.size wr wx → Calls Try.prog 12 #[.pointer (some ⟨gd, 0, none⟩), .pointer (some ⟨gz, 0, none⟩)] wx fun e w' => e = .returned (.bool true) ∧ Below wx.heap.size wx w' := fun wx bx' => dsame_any (h2.later bx').d (h2.later bx').x
          clear hT6 hTr h2 hva6 hvb h1
          go_wp2_with (first | (go_at_call 21; refine hE.mono ?_; rintro e wq ⟨rfl, hwq⟩; have hwq2 := hwq.symm; clear hwq; subst hwq2))
          refine hS1.mono ?_
          rintro e wx ⟨rfl, bX⟩
          have hS2 := hSecond wx bX
          clear hS1 hSecond hE
          go_wp2_with (with_reducible fail)
          refine hS2.mono ?_
          rintro e wy ⟨rfl, bY⟩
          have hA2 := hAw wy
          clear hS2
          go_wp2_with (go_at_call 10; refine hA2.mono ?_; rintro e wz ⟨rfl, bZ⟩)
          go_ret
          have r1 : Below w.heap.size w wx := bwr.trans (bX.mono bwr.size)
          have r2 : Below w.heap.size w wy := r1.trans (bY.mono r1.size)
          exact ⟨by simp, r2.trans (bZ.mono r2.size)⟩
    · have hO' : Calls Try.prog 13 #[.slice p0 ls.length c0] w fun e w' => e = .returned (.tuple #[.pointer none, .int .i64 1]) ∧ Below w.heap.size w w' := by
        refine hO.mono ?_
        rintro e w' ⟨b, (⟨hn, _⟩ | ⟨_, rfl⟩)⟩
        · exact absurd hn hg
        · exact ⟨rfl, b⟩
      have hX : ∀ w1, Below w.heap.size w w1 → Calls Try.prog 14 #[.slice p0 ls.length c0] w1 fun e w' => e = .returned (.tuple #[.pointer none, .int .i64 1]) ∧ Below w1.heap.size w1 w' := by
        intro w1 b1
        refine (rof_any _ ls w1 (h0.later b1)).mono ?_
        rintro e w' ⟨b, (⟨hn, _⟩ | ⟨_, rfl⟩)⟩
        · exact absurd hn hg
        · exact ⟨rfl, b⟩
      clear hO hg h0 h1
      go_enter Try.func4, Try.ntmps4
      go_wp2_with (first
        | (go_at_call 13; refine hO'.mono ?_; rintro e w1 ⟨rfl, b1⟩; have hXo := hX w1 b1)
        | (go_at_call 14; refine hXo.mono ?_; rintro e w2 ⟨rfl, b2⟩; have hA2 := hAw w2)
        | (go_at_call 10; refine hA2.mono ?_; rintro e w3 ⟨rfl, b3⟩))
      go_ret
      have r1 : Below w.heap.size w w2 := b1.trans (b2.mono b1.size)
      exact ⟨rfl, r1.trans (b3.mono r1.size)⟩

end Go.Proofs.Ytmikhebbcmniaaa
