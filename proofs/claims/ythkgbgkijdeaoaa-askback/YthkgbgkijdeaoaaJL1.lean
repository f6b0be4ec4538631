/- What this text proves: the walk of annalslaw25.AskBack over this program: it answers true of any request and any bytes. (By program: mkaklaw.py.) What this text proves: the statement AskBack: a request that may be is read as it was written, and bytes that are one are written as they were, whatever the request and the bytes; no condition beyond those of the row. -/
import Derived.Test.YthkgbgkijdeaoaaJP1
import Derived.Test.YthkgbgkijdeaoaaJS1
import Derived.Test.YthkgbgkijdeaoaaOpenB
import Derived.Test.YthkgbgkijdeaoaaJO1
namespace Go.Proofs.Ythkgbgkijdeaoaa
open Go.RowKit

/-- Encode, told by its error. -/
theorem encode_told (k fr to ti ep ix li : Int) (so : Bool) (p q : Option Addr) (c d : Nat) (id : List UInt8) (bs : List (List UInt8 × List UInt8)) (w : World) (hid : HB w (.slice p id.length c) id) (hba : BA w (.slice q bs.length d) bs) (hbn : bs.length ≤ 1000) :
    Calls Try.prog 8 #[.agg #[.int .i64 k, .slice p id.length c, .int .i64 fr, .int .i64 to, .int .i64 ti, .bool so, .int .i64 ep, .int .i64 ix, .int .i64 li, .slice q bs.length d]] w fun x w' => ∃ u n r, ∃ e : Int, x = .returned (.tuple #[.slice u n r, .int .i64 e]) ∧ Below w.heap.size w w' ∧
      ((e = 0 ∧ (k ≤ 10 ∧ 1 ≤ k) ∧ okE k fr to ti ep ix li so id bs = true ∧ HB w' (.slice u n r) (numL (clampN k) ++ wrE k fr to ti ep ix li so id bs)) ∨ (e ≠ 0 ∧ ¬ ((k ≤ 10 ∧ 1 ≤ k) ∧ okE k fr to ti ep ix li so id bs = true))) := by
  refine (encode_any k fr to ti ep ix li so p q c d id bs w hid hba hbn).mono ?_
  rintro x w' (⟨h1, h2, hb, h3, h4⟩ | ⟨h1, rfl, hb⟩)
  · cases hok : okE k fr to ti ep ix li so id bs with
    | true =>
      obtain ⟨v, rfl, hv⟩ := h3 hok
      obtain ⟨u, r, rfl⟩ := hv.shape
      exact ⟨u, _, r, 0, rfl, hb, .inl ⟨rfl, ⟨h1, h2⟩, rfl, hv⟩⟩
    | false =>
      obtain rfl := h4 hok
      exact ⟨none, 0, 0, 1, rfl, hb, .inr ⟨by decide, fun h => by simp at h⟩⟩
  · exact ⟨none, 0, 0, 87, rfl, hb, .inr ⟨by decide, fun h => h1 h.1⟩⟩

/-- Decode, told by its error. -/
theorem decode_told (v : Value) (b : List UInt8) (w : World) (hv : HB w v b) (hsz : b.length ≤ 140737488351232) :
    Calls Try.prog 10 #[v] w fun x w' => ∃ (k fr to ti ep ix li : Nat) (so : Bool) (p q : Option Addr) (n c m d : Nat) (e : Int), x = .returned (.tuple #[.agg #[.int .i64 (k : Int), .slice p n c, .int .i64 (fr : Int), .int .i64 (to : Int), .int .i64 (ti : Int), .bool so, .int .i64 (ep : Int), .int .i64 (ix : Int), .int .i64 (li : Int), .slice q m d], .int .i64 e]) ∧ Below w.heap.size w w' ∧ e = (decF b).1 ∧
      (e = 0 → k = (decF b).2.1 ∧ fr = (decF b).2.2.fr ∧ to = (decF b).2.2.to ∧ ti = (decF b).2.2.ti ∧ so = (decF b).2.2.so ∧ ep = (decF b).2.2.ep ∧ ix = (decF b).2.2.ix ∧ li = (decF b).2.2.li ∧ HB w' (.slice p n c) (decF b).2.2.id ∧ BA w' (.slice q m d) (decF b).2.2.bs ∧ n = (decF b).2.2.id.length ∧ m = (decF b).2.2.bs.length) := by
  refine (decode_any v b w hv hsz).mono ?_
  rintro x w' ⟨hb, h1, h2⟩
  by_cases he : (decF b).1 = 0
  · obtain ⟨idv, bav, rfl, hi, hba⟩ := h1 he
    obtain ⟨p, c, rfl⟩ := hi.shape
    obtain ⟨q, d, rfl⟩ := hba.shape
    exact ⟨_, _, _, _, _, _, _, _, p, q, _, c, _, d, 0, rfl, hb, he.symm, fun _ => ⟨rfl, rfl, rfl, rfl, rfl, rfl, rfl, rfl, hi, hba, rfl, rfl⟩⟩
  · obtain rfl := h2 he
    exact ⟨0, 0, 0, 0, 0, 0, 0, false, none, none, 0, 0, 0, 0, _, rfl, hb, rfl, fun h => absurd h he⟩

theorem decF_bs (b : List UInt8) (h : (decF b).1 = 0) : (decF b).2.2.bs.length ≤ 1000 := by
  obtain ⟨hk, hok, _⟩ := back_all b h
  generalize (decF b).2.1 = k at *
  rcases dec_kinds k hk with rfl | rfl | rfl | rfl | rfl | rfl | rfl | rfl | rfl | rfl
  · have hb := (Bool.not_or_false (show (!(false || badB (decF b).2.2.bs) && _) = true from hok)).1
    have := badB_false (show badB (decF b).2.2.bs = false from hb)
    omega
  · have := blank_zero (Bool.not_or_false (show (!_ && blankB _ _ _ _ _ _ _ _ _) = true from hok)).2
    omega
  · have := blank_zero (Bool.not_or_false (show (!_ && blankB _ _ _ _ _ _ _ _ _) = true from hok)).2
    omega
  · have := blank_zero (Bool.not_or_false (show (!_ && blankB _ _ _ _ _ _ _ _ _) = true from hok)).2
    omega
  · have := blank_zero (Bool.not_or_false (show (!_ && blankB _ _ _ _ _ _ _ _ _) = true from hok)).2
    omega
  · have hok' : (if (decF b).2.2.so = true then _ else _) = true := hok
    split at hok'
    · have := blank_zero (Bool.not_or_false hok').2
      omega
    · have := blank_zero (Bool.not_or_false hok').2
      omega
  · have := blank_zero (Bool.not_or_false (show (!_ && blankB _ _ _ _ _ _ _ _ _) = true from hok)).2
    omega
  · have := blank_zero (show blankB _ _ _ _ _ _ _ _ _ = true from hok)
    omega
  · have := blank_zero (show blankB _ _ _ _ _ _ _ _ _ = true from hok)
    omega
  · have := blank_zero (Bool.not_or_false (show (!_ && blankB _ _ _ _ _ _ _ _ _) = true from hok)).2
    omega

set_option maxRecDepth 100000 in
set_option maxHeartbeats 8000000 in
theorem askBack_walk (k fr to ti ep ix li : Int) (so : Bool) (id : List UInt8) (bs : List (List UInt8 × List UInt8)) (idv bav v : Value) (b : List UInt8) (w : World) (hid : HB w idv id) (hba : BA w bav bs) (hv : HB w v b) (hsz : b.length ≤ 140737488351232) :
    Calls Try.prog 4 #[.agg #[.int .i64 k, idv, .int .i64 fr, .int .i64 to, .int .i64 ti, .bool so, .int .i64 ep, .int .i64 ix, .int .i64 li, bav], v] w fun e w' => e = .returned (.bool true) ∧ Below w.heap.size w w' := by
  obtain ⟨pi, ci, rfl⟩ := hid.shape
  obtain ⟨pb, cb, rfl⟩ := hba.shape
  obtain ⟨pv, cv, rfl⟩ := hv.shape
  have a0 : AB (w.alloc (.cells #[.int .i64 k, .slice pi id.length ci, .int .i64 fr, .int .i64 to, .int .i64 ti, .bool so, .int .i64 ep, .int .i64 ix, .int .i64 li, .slice pb bs.length cb] 25)) w.heap.size #[.int .i64 k, .slice pi id.length ci, .int .i64 fr, .int .i64 to, .int .i64 ti, .bool so, .int .i64 ep, .int .i64 ix, .int .i64 li, .slice pb bs.length cb] := heap_alloc_new w _
  have bA := (Below.refl w.heap.size w).alloc (Nat.le_refl _) (.cells #[.int .i64 k, .slice pi id.length ci, .int .i64 fr, .int .i64 to, .int .i64 ti, .bool so, .int .i64 ep, .int .i64 ix, .int .i64 li, .slice pb bs.length cb] 25)
  have hAw := fun W => akAwake_any W
  by_cases h60 : 60 < bs.length
  · have h60' : (60 : Int) < (bs.length : Int) := by omega
    have hA1 := hAw (w.alloc (.cells #[.int .i64 k, .slice pi id.length ci, .int .i64 fr, .int .i64 to, .int .i64 ti, .bool so, .int .i64 ep, .int .i64 ix, .int .i64 li, .slice pb bs.length cb] 25))
    clear hAw
    go_enter Try.func4, Try.ntmps4
    go_wp2_with fail
    go_at_call 6
    refine hA1.mono ?_
    rintro e w1 ⟨rfl, hb⟩
    have hF := bA.trans (hb.mono bA.size)
    clear hA1 bA hb a0
    go_wp2
    go_ret
    exact ⟨rfl, hF⟩
  have h60' : ¬ (60 : Int) < (bs.length : Int) := by omega
  have hE := encode_told k fr to ti ep ix li so pi pb ci cb id bs _ (hid.later bA) (hba.later bA) (by omega)
  obtain ⟨wA, hWA⟩ : ∃ x, x = w.alloc (.cells #[.int .i64 k, .slice pi id.length ci, .int .i64 fr, .int .i64 to, .int .i64 ti, .bool so, .int .i64 ep, .int .i64 ix, .int .i64 li, .slice pb bs.length cb] 25) := ⟨_, rfl⟩
  rw [← hWA] at a0 bA
  have HWA : Hid (wA = w.alloc (.cells #[.int .i64 k, .slice pi id.length ci, .int .i64 fr, .int .i64 to, .int .i64 ti, .bool so, .int .i64 ep, .int .i64 ix, .int .i64 li, .slice pb bs.length cb] 25)) := hWA
  clear hWA
  go_enter Try.func4, Try.ntmps4
  go_wp2_with fail
  refine hE.mono ?_
  clear hE
  rintro x w1 ⟨u1, n1, r1, e1, rfl, hb1, hx1⟩
  rw [← HWA.out] at hb1
  have a1 := a0.later hb1
  have b1 := bA.trans (hb1.mono bA.size)
  clear hb1 a0 bA HWA
  by_cases he1 : e1 = 0
  · subst he1
    obtain ⟨hk1, hok1, hX⟩ : (k ≤ 10 ∧ 1 ≤ k) ∧ okE k fr to ti ep ix li so id bs = true ∧ HB w1 (.slice u1 n1 r1) (numL (clampN k) ++ wrE k fr to ti ep ix li so id bs) := by
      rcases hx1 with h | h
      · exact h.2
      · exact absurd rfl h.1
    obtain ⟨hd1, ⟨y1, y2, y3, y4, y5, y6⟩, hl1⟩ := put_all k fr to ti ep ix li so id bs hk1 hok1
    have hk9 := numL9 k
    have hD := decode_told (.slice u1 n1 r1) _ w1 hX (by rw [List.length_append]; omega)
    rw [hd1] at hD
    clear hd1 hX hl1 hx1 hok1 hk9
    go_wp2_with fail
    refine hD.mono ?_
    clear hD
    rintro x w2 ⟨k2, fr2, to2, ti2, ep2, ix2, li2, so2, p2, q2, n2, c2, m2, d2, e2, rfl, hb2, he2, hz⟩
    obtain rfl : e2 = 0 := he2
    obtain ⟨z1, z2, z3, z4, z5, z6, z7, z8, z9, z10, z11, z12⟩ := hz rfl
    have e1 : (k2 : Int) = k := by rw [z1]; show ((k.toNat : Nat) : Int) = k; omega
    have e3 : (fr2 : Int) = fr := by rw [z2]; show ((fr.toNat : Nat) : Int) = fr; omega
    have e4 : (to2 : Int) = to := by rw [z3]; show ((to.toNat : Nat) : Int) = to; omega
    have e5 : (ti2 : Int) = ti := by rw [z4]; show ((ti.toNat : Nat) : Int) = ti; omega
    have e6 : (ep2 : Int) = ep := by rw [z6]; show ((ep.toNat : Nat) : Int) = ep; omega
    have e7 : (ix2 : Int) = ix := by rw [z7]; show ((ix.toNat : Nat) : Int) = ix; omega
    have e8 : (li2 : Int) = li := by rw [z8]; show ((li.toNat : Nat) : Int) = li; omega
    obtain rfl : so2 = so := z5
    have i2 : HB w2 (.slice p2 id.length c2) id := by have := z9; rw [z11] at this; exact this
    have j2 : BA w2 (.slice q2 bs.length d2) bs := by have := z10; rw [z12] at this; exact this
    obtain rfl : n2 = id.length := z11
    obtain rfl : m2 = bs.length := z12
    rw [e1, e3, e4, e5, e6, e7, e8]
    have a2 := a1.later hb2
    have b2 := b1.trans (hb2.mono b1.size)
    clear z1 z2 z3 z4 z6 z7 z8 z9 z10 hz e1 e3 e4 e5 e6 e7 e8 hb2 a1 b1 y1 y2 y3 y4 y5 y6 hk1
    have bB := (Below.refl w2.heap.size w2).alloc (Nat.le_refl _) (.cells #[.int .i64 k, .slice p2 id.length c2, .int .i64 fr, .int .i64 to, .int .i64 ti, .bool so2, .int .i64 ep, .int .i64 ix, .int .i64 li, .slice q2 bs.length d2] 25)
    have a3 := a2.later bB
    have bC := b2.trans (bB.mono b2.size)
    have hS := aksame_true k fr to ti ep ix li so2 p2 pi c2 ci id _ _ bs _ (i2.later bB) (hid.later bC) (j2.later bB) (hba.later bC)
    obtain ⟨d0, d1, d2', d3, d4, d5, d6, d7, d8, d9⟩ := ask_cells a3
    clear a2 b2 bB i2 j2 a3
    go_wp2_with fail
    refine hS.mono ?_
    clear hS
    rintro x w3 ⟨rfl, hb3⟩
    have bD := bC.trans (hb3.mono bC.size)
    clear hb3 bC d0 d1 d2' d3 d4 d5 d6 d7 d8 d9
    have hv3 := hv.later bD
    have hD := decode_told (.slice pv b.length cv) b _ hv3 hsz
    clear hv3
    go_wp2_with fail
    refine hD.mono ?_
    clear hD
    rintro x w4 ⟨k2, fr2, to2, ti2, ep2, ix2, li2, so2, p2, q2, n2, c2, m2, d2, e2, rfl, hb4, he2, hz⟩
    have bE := bD.trans (hb4.mono bD.size)
    clear bD hb4
    by_cases he : e2 = 0
    · subst he
      obtain ⟨z1, z2, z3, z4, z5, z6, z7, z8, z9, z10, z11, z12⟩ := hz rfl
      obtain ⟨hk4, hok4, hwr4⟩ := back_all b he2.symm
      have hbs4 := decF_bs b he2.symm
      rw [← z1, ← z2, ← z3, ← z4, ← z5, ← z6, ← z7, ← z8] at hok4 hwr4
      rw [← z1] at hk4
      clear z1 z2 z3 z4 z5 z6 z7 z8 hz he2
      generalize (decF b).2.2.id = id4 at *
      generalize (decF b).2.2.bs = bs4 at *
      subst z11 z12
      have bB := (Below.refl w4.heap.size w4).alloc (Nat.le_refl _) (.cells #[.int .i64 (k2 : Int), .slice p2 id4.length c2, .int .i64 (fr2 : Int), .int .i64 (to2 : Int), .int .i64 (ti2 : Int), .bool so2, .int .i64 (ep2 : Int), .int .i64 (ix2 : Int), .int .i64 (li2 : Int), .slice q2 bs4.length d2] 25)
      have bF := bE.trans (bB.mono bE.size)
      have hE5 := encode_told k2 fr2 to2 ti2 ep2 ix2 li2 so2 p2 q2 c2 d2 id4 bs4 _ (z9.later bB) (z10.later bB) hbs4
      clear z9 z10 bB bE
      go_wp2_with fail
      refine hE5.mono ?_
      clear hE5
      rintro x w5 ⟨u5, n5, r5, e5, rfl, hb5, hx5⟩
      have bG := bF.trans (hb5.mono bF.size)
      obtain ⟨rfl, hX5⟩ : e5 = 0 ∧ HB w5 (.slice u5 n5 r5) b := by
        rcases hx5 with ⟨h1, _, _, h2⟩ | ⟨_, h2⟩
        · exact ⟨h1, hwr4 ▸ h2⟩
        · exact absurd ⟨by omega, hok4⟩ h2
      have hQ := equal_t _ _ b b w5 hX5 (hv.later bG) rfl
      clear hx5 hX5 hb5 bF hk4 hok4 hwr4 hbs4
      go_wp2_with fail
      refine hQ.mono ?_
      clear hQ
      rintro x w6 ⟨rfl, rfl⟩
      have hA6 := hAw w6
      clear hAw
      go_wp2_with fail
      go_at_call 6
      refine hA6.mono ?_
      rintro x w7 ⟨rfl, hb7⟩
      have bH := bG.trans (hb7.mono bG.size)
      clear hA6 bG hb7
      go_wp2
      go_ret
      exact ⟨rfl, bH⟩
    · have bB := (Below.refl w4.heap.size w4).alloc (Nat.le_refl _) (.cells #[.int .i64 (k2 : Int), .slice p2 n2 c2, .int .i64 (fr2 : Int), .int .i64 (to2 : Int), .int .i64 (ti2 : Int), .bool so2, .int .i64 (ep2 : Int), .int .i64 (ix2 : Int), .int .i64 (li2 : Int), .slice q2 m2 d2] 25)
      have bF := bE.trans (bB.mono bE.size)
      have hA6 := hAw (w4.alloc (.cells #[.int .i64 (k2 : Int), .slice p2 n2 c2, .int .i64 (fr2 : Int), .int .i64 (to2 : Int), .int .i64 (ti2 : Int), .bool so2, .int .i64 (ep2 : Int), .int .i64 (ix2 : Int), .int .i64 (li2 : Int), .slice q2 m2 d2] 25))
      clear hAw hz he2 bB bE
      go_wp2_with fail
      go_at_call 6
      refine hA6.mono ?_
      rintro x w7 ⟨rfl, hb7⟩
      have bH := bF.trans (hb7.mono bF.size)
      clear hA6 bF hb7
      go_wp2
      go_ret
      exact ⟨rfl, bH⟩
  · have hv3 := hv.later b1
    have bD := b1
    clear b1 a1 hx1
    have hD := decode_told (.slice pv b.length cv) b _ hv3 hsz
    clear hv3
    go_wp2_with fail
    refine hD.mono ?_
    clear hD
    rintro x w4 ⟨k2, fr2, to2, ti2, ep2, ix2, li2, so2, p2, q2, n2, c2, m2, d2, e2, rfl, hb4, he2, hz⟩
    have bE := bD.trans (hb4.mono bD.size)
    clear bD hb4
    by_cases he : e2 = 0
    · subst he
      obtain ⟨z1, z2, z3, z4, z5, z6, z7, z8, z9, z10, z11, z12⟩ := hz rfl
      obtain ⟨hk4, hok4, hwr4⟩ := back_all b he2.symm
      have hbs4 := decF_bs b he2.symm
      rw [← z1, ← z2, ← z3, ← z4, ← z5, ← z6, ← z7, ← z8] at hok4 hwr4
      rw [← z1] at hk4
      clear z1 z2 z3 z4 z5 z6 z7 z8 hz he2
      generalize (decF b).2.2.id = id4 at *
      generalize (decF b).2.2.bs = bs4 at *
      subst z11 z12
      have bB := (Below.refl w4.heap.size w4).alloc (Nat.le_refl _) (.cells #[.int .i64 (k2 : Int), .slice p2 id4.length c2, .int .i64 (fr2 : Int), .int .i64 (to2 : Int), .int .i64 (ti2 : Int), .bool so2, .int .i64 (ep2 : Int), .int .i64 (ix2 : Int), .int .i64 (li2 : Int), .slice q2 bs4.length d2] 25)
      have bF := bE.trans (bB.mono bE.size)
      have hE5 := encode_told k2 fr2 to2 ti2 ep2 ix2 li2 so2 p2 q2 c2 d2 id4 bs4 _ (z9.later bB) (z10.later bB) hbs4
      clear z9 z10 bB bE
      go_wp2_with fail
      refine hE5.mono ?_
      clear hE5
      rintro x w5 ⟨u5, n5, r5, e5, rfl, hb5, hx5⟩
      have bG := bF.trans (hb5.mono bF.size)
      obtain ⟨rfl, hX5⟩ : e5 = 0 ∧ HB w5 (.slice u5 n5 r5) b := by
        rcases hx5 with ⟨h1, _, _, h2⟩ | ⟨_, h2⟩
        · exact ⟨h1, hwr4 ▸ h2⟩
        · exact absurd ⟨by omega, hok4⟩ h2
      have hQ := equal_t _ _ b b w5 hX5 (hv.later bG) rfl
      clear hx5 hX5 hb5 bF hk4 hok4 hwr4 hbs4
      go_wp2_with fail
      refine hQ.mono ?_
      clear hQ
      rintro x w6 ⟨rfl, rfl⟩
      have hA6 := hAw w6
      clear hAw
      go_wp2_with fail
      go_at_call 6
      refine hA6.mono ?_
      rintro x w7 ⟨rfl, hb7⟩
      have bH := bG.trans (hb7.mono bG.size)
      clear hA6 bG hb7
      go_wp2
      go_ret
      exact ⟨rfl, bH⟩
    · have bB := (Below.refl w4.heap.size w4).alloc (Nat.le_refl _) (.cells #[.int .i64 (k2 : Int), .slice p2 n2 c2, .int .i64 (fr2 : Int), .int .i64 (to2 : Int), .int .i64 (ti2 : Int), .bool so2, .int .i64 (ep2 : Int), .int .i64 (ix2 : Int), .int .i64 (li2 : Int), .slice q2 m2 d2] 25)
      have bF := bE.trans (bB.mono bE.size)
      have hA6 := hAw (w4.alloc (.cells #[.int .i64 (k2 : Int), .slice p2 n2 c2, .int .i64 (fr2 : Int), .int .i64 (to2 : Int), .int .i64 (ti2 : Int), .bool so2, .int .i64 (ep2 : Int), .int .i64 (ix2 : Int), .int .i64 (li2 : Int), .slice q2 m2 d2] 25))
      clear hAw hz he2 bB bE
      go_wp2_with fail
      go_at_call 6
      refine hA6.mono ?_
      rintro x w7 ⟨rfl, hb7⟩
      have bH := bF.trans (hb7.mono bF.size)
      clear hA6 bF hb7
      go_wp2
      go_ret
      exact ⟨rfl, bH⟩
end Go.Proofs.Ythkgbgkijdeaoaa

namespace Go.Proofs.Ythkgbgkijdeaoaa
open Go.ChangeShapes Go.WideShapes Go.ChangeAt Go.RowKit

set_option maxRecDepth 100000 in
theorem askBackContract (H : Type) (enc : TypeId × Value → H) (W : World) (base : Nat) (args : Array Value) (ds gs : List (DataW H)) (before : List MemPlace)
    (hval : ∀ (j : Nat) t v, Try.f4.params[j]? = some t → args[j]? = some v → Value.okWide Try.prog W .any base t v)
    (hW : DataW.Whole enc Try.prog Try.f4.params.toList Rows.askBackSpec.vars false W args.toList ds gs before) (hsz0 : (DataW.weightsEach Try.prog (Try.f4.params.toList ++ Rows.askBackSpec.plain.varTypes Try.prog) (ds ++ gs)).all (· ≤ reachBytes) = true) :
    Calls Try.prog 4 args W fun e W' => ∃ v, e = .returned v ∧ Rows.askBackSpec.post enc Try.prog Try.f4 false true false false W args v W' := by
  have hW' := hW
  obtain ⟨p, q, hA0, hV, rfl, hfz, hnd⟩ := hW
  have hA : DataW.TrodAll enc Try.prog W 0 (fun _ => true) true Try.f4.params.toList args.toList ds p := hA0
  rw [Try.params4] at hA hval hsz0
  obtain ⟨v0, vs0, d0, ds0, p0, q0, hargs, rfl, rfl, h0, r0⟩ := trodAll_cons hA
  obtain ⟨v1, vs1, d1, ds1, p1, q1, rfl, rfl, rfl, h1, r1⟩ := trodAll_cons r0
  obtain ⟨rfl, rfl, rfl⟩ := trodAll_nil r1
  obtain rfl : args = #[v0, v1] := by cases args; simp_all
  obtain ⟨rfl, rfl⟩ := trodVars_none hV
  have k0 := h0
  have lt0 : ∀ x ∈ p0, x.block < W.heap.size := by obtain ⟨m, hm⟩ := k0; exact DataW.trod_lt m _ _ _ hm
  obtain ⟨qk0, qf0, qt0, qi0, qe0, qx0, ql0, qs0, qd0, qb0, ll0, bs0, rfl, hl0, hz0⟩ := open_askF (hval 0 25 v0 rfl rfl) h0
  have k1 := h1
  have lt1 : ∀ x ∈ p1, x.block < W.heap.size := by obtain ⟨m, hm⟩ := k1; exact DataW.trod_lt m _ _ _ hm
  obtain ⟨l1, hl1, he1⟩ := open_hb (hval 1 22 v1 rfl rfl) h1
  have hr1 : l1.length ≤ 140737488351232 := hb_reach hsz0 1 rfl rfl he1
  clear hA0
  simp only [List.append_nil] at hW'
  refine (askBack_walk qk0 qf0 qt0 qi0 qe0 qx0 ql0 qs0 ll0 bs0 qd0 qb0 v1 l1 W hl0 hz0 hl1 (by omega)).mono fun e W' ⟨he, bel⟩ => ?_
  subst he
  exact ⟨_, rfl, _, _, _, [], _, [], hW', trodAll_mk1 (shut_bool Try.underlying4 _), (trodAll_cons_mk (Below.trod laidOut (by kernel_rfl) (of_decide_eq_true (by kernel_rfl)) k0 bel lt0) (trodAll_cons_mk (Below.trod laidOut (by kernel_rfl) (of_decide_eq_true (by kernel_rfl)) k1 bel lt1) trodAll_mk0)), rfl, bel.frame _, fun h => by cases h⟩

set_option maxRecDepth 100000 in
theorem askBackLifted (os : Os) (started : os.Started) (H : Type) (enc : TypeId × Value → H) :
    ReturnsInHanded {} Try.checked os 4 .any (Rows.askBackSpec.pre6 enc Try.prog Try.f4 Rows.askBackRow.domain false) (Rows.askBackSpec.post enc Try.prog Try.f4 false true false false) := by
  refine returnsInHanded_of_change_sized (C := Try.checked) own started (by kernel_rfl) Try.func4
    (ChangeSpec.witness6 (enc := enc) (C := Try.checked) false ⟨#[], #[.agg #[.int .i64 0, .slice none 0 0, .int .i64 0, .int .i64 0, .int .i64 0, .bool false, .int .i64 0, .int .i64 0, .int .i64 0, .slice none 0 0], .slice none 0 0], []⟩ 8 (by kernel_rfl) (by kernel_rfl) (by kernel_rfl) (by kernel_rfl)) ?_
  intro W base args ds gs before hval hW _ hsz _
  exact askBackContract H enc W base args ds gs before hval hW hsz

theorem askBack_holds : Rows.AskBackSaid :=
  OpenClaim.holds_of_wide 4 Try.f4 rfl rfl rfl rfl rfl rfl rfl ⟨rfl, rfl, rfl, rfl, rfl⟩ rfl rfl rfl rfl rfl (by kernel_rfl) Try.func4 (by kernel_rfl)
    (of_decide_eq_true (by kernel_rfl)) (by unfold Func.isWrapper; first | (rw [if_pos (by decide +kernel)]; kernel_rfl) | (rw [if_neg (by decide +kernel)]; exact ⟨rfl, rfl⟩))
    (fun os started H enc _ => askBackLifted os started H enc)

#print axioms askBack_holds
end Go.Proofs.Ythkgbgkijdeaoaa
