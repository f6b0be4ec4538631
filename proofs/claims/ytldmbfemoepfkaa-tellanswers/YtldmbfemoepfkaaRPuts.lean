/- What this text proves: the walks of the document's Uint, Bytes, Flag (annalsref04) over this program: bytes, and a number, a text, a yes or no behind them, in new memory. -/
import Derived.Test.YtldmbfemoepfkaaCPuts
namespace Go.Proofs.Ytldmbfemoepfkaa
open Go.RowKit

def natOf : Value → Nat | .int _ i => i.toNat | _ => 0

/-- One byte in a new block is a row that the call owns. -/
theorem owns_one (w : World) (base : Nat) (e : TypeId) (y : UInt8) (V : Value) (hV : V = bc y) (hb : base ≤ w.heap.size) : (w.alloc (.cells #[V] e)).ownsRow base e 1 (.slice (some ⟨w.heap.size, 0, none⟩) 1 1) 1 (bcs [y]) := by
  subst hV
  exact ⟨rfl, .inr ⟨w.heap.size, 1, #[bc y], rfl, hb, heap_alloc_new w _, Nat.le_refl _, by unfold maxLen; omega, rfl, rfl⟩⟩

theorem low_byte (m : Nat) : Value.int .u8 ((m : Int) % 256) = bc (UInt8.ofNat m) := by
  unfold bc
  rw [show (m : Int) % 256 = ((m % 256 : Nat) : Int) by omega]
  simp

set_option maxHeartbeats 2000000 in
theorem ruint_any (v : Value) (l : List UInt8) (n : Int) (w : World) (h : HB w v l) (hbig : l.length ≤ 140737488355300) :
    Calls Try.prog 24 #[v, .int .i64 n] w fun e w' => ∃ p c, e = .returned (.slice p (l ++ numL (clampN n)).length c) ∧ w'.ownsRow w.heap.size 5 1 (.slice p (l ++ numL (clampN n)).length c) (l ++ numL (clampN n)).length (bcs (l ++ numL (clampN n))) ∧ Below w.heap.size w w' := by
  obtain ⟨p, c, rfl⟩ := h.shape
  obtain ⟨i0, hi, hz0, hz1, hz2⟩ := info_parts i_u8
  have hNle := clampN_le n
  have hcl : max 0 (min n 4611686018427387904) = (clampN n : Int) := by unfold clampN; omega
  generalize clampN n = N at *
  have hc8 := cnt_le8 N (by omega)
  have HNL : Hid (numL N = UInt8.ofNat (ndigs N).length :: ndigs N) := by show _ = _; unfold numL; rw [ndigs_length]
  have hdl : (ndigs N).length ≤ 8 := by rw [ndigs_length]; exact hc8
  go_enter Try.func24, Try.ntmps24
  go_wp2
  go_loopw [1, 5] (fun i v wr => ∃ (m : Nat) (L : List UInt8) (p5 : Option Addr) (c5 : Nat), m ≤ N ∧ i = .int .i64 (m : Int) ∧ v = .slice p5 L.length c5 ∧ HB wr (.slice p5 L.length c5) L ∧ ndigs N = ndigs m ++ L ∧ Below w.heap.size w wr)
    (fun i _ _ => natOf i)
  case atStart => exact ⟨N, [], none, 0, Nat.le_refl _, rfl, rfl, HB.nil _, by simp, Below.refl _ _⟩
  case round =>
    obtain ⟨m, L, p5, c5, hmN, rfl, rfl, hL, hdig, hbe⟩ := hrel
    have hsz := hbe.size
    have hLl : L.length ≤ 8 := by
      have := congrArg List.length hdig
      rw [List.length_append] at this
      omega
    by_cases hm : 0 < m
    · have HD : Hid (ndigs N = ndigs (m / 256) ++ (UInt8.ofNat m :: L)) := by
        show _ = _
        rw [hdig, ndigs_step m (by omega) (by omega)]
        simp
      have hm2 : (0 : Int) < (m : Int) := by omega
      have hown0 := owns_one wr w.heap.size 5 (UInt8.ofNat m) _ (low_byte m) hsz
      have hL0 := hL.later ((Below.refl _ wr).alloc (Nat.le_refl _) (.cells #[Value.int .u8 ((m : Int) % 256)] 5))
      clear hdig hL h HNL
      go_wp2_with (first | (at_builtin; refine wpList_append_hb rfl (.tmp 14) (.tmp 15) 22 rfl w.heap.size 5 Try.underlying22 i_u8 _ _ _ rfl hown0 _ _ _ L rfl hL0 ?sa ?sb ?_))
      case sa => omega
      case sb => simp; omega
      intro v2 w2 hown2 hgrow2
      have hb2 : Below w.heap.size w w2 := (hbe.alloc hsz _).grown hgrow2 (by simp; omega) (by intro k hk; cases hk; exact hsz)
      have hh : HB w2 v2 (UInt8.ofNat m :: L) := by
        rw [← bcs_append] at hown2
        exact HB.of_owns hown2
      obtain ⟨p2, c2, rfl⟩ := hh.shape
      have HH : Hid (HB w2 (.slice p2 (UInt8.ofNat m :: L).length c2) (UInt8.ofNat m :: L)) := hh
      clear hgrow2 hown2 hown0 hL0 hbe hh
      go_wp2
      exact ⟨⟨m / 256, UInt8.ofNat m :: L, p2, c2, by omega, by rw [show ((m / 256 : Nat) : Int) = (m : Int) / 256 by omega], rfl, HH.out, HD.out, hb2⟩, by simp [natOf]; omega⟩
    · obtain rfl : m = 0 := by omega
      rw [ndigs_zero, List.nil_append] at hdig
      rw [hdig] at HNL
      have hl1 := h.later hbe
      have h2 : HB (wr.alloc (.cells #[] 5)) (.slice p l.length c) l := hl1.later ((Below.refl _ wr).alloc (Nat.le_refl _) _)
      have hb1 : Below w.heap.size w (wr.alloc (.cells #[] 5)) := hbe.alloc hsz _
      have hL1 : HB (wr.alloc (.cells #[] 5)) (.slice p5 L.length c5) L := hL.later ((Below.refl _ wr).alloc (Nat.le_refl _) _)
      clear hdig h hl1 hmN
      go_wp2_with (first | (at_builtin; refine wpList_append_hb rfl (.tmp 19) (.tmp 20) 22 rfl wr.heap.size 5 Try.underlying22 i_u8 _ 0 [] rfl (World.ownsRow_made wr #[] 0 (Nat.le_refl _) (Nat.zero_le _) rfl) _ _ _ l rfl h2 ?qa ?qb ?_))
      case qa => omega
      case qb => simp
      intro v3 w3 hown3 hgrow3
      have hbr3 : Below wr.heap.size wr w3 := ((Below.refl _ wr).alloc (Nat.le_refl _) _).grown hgrow3 (by simp) (by intro k hk; cases hk; exact Nat.le_refl _)
      have hb3 : Below w.heap.size w w3 := hbe.trans (hbr3.mono hsz)
      have hs3 := hb3.size
      have hown3' : w3.ownsRow wr.heap.size 5 1 v3 l.length (bcs l) := by simpa using hown3
      obtain ⟨p3, c3, rfl⟩ := owns_shape hown3'
      have hsr3 := hbr3.size
      clear hown3 hgrow3 h2 hL1 hb1
      have HV : Hid (Value.int .u8 (L.length : Int) = bc (UInt8.ofNat L.length)) := by show Value.int .u8 (L.length : Int) = bc (UInt8.ofNat L.length); simp [bc]; omega
      go_wp2_with (first | (at_builtin; refine wpList_append_own _ rfl (.tmp 21) (.tmp 25) 22 rfl wr.heap.size 5 i0 (.int .u8 0) 1 1 Try.underlying22 hi hz0 hz1 hz2 rfl (by decide) _ _ _ rfl (hown3'.alloc _) ⟨w3.heap.size, 0, none⟩ 1 1 [.int .u8 (L.length : Int)] rfl rfl ?ua ?ub ?uc ?ud ?ue ?_))
      case ua => exact cell_one_new _ _ _
      case ub => intro u hu; simp at hu; subst hu; rfl
      case uc => unfold maxLen; omega
      case ud => omega
      case ue => simp; omega
      intro v4 w4 hown4 hgrow4 _
      have hbr4 : Below wr.heap.size wr w4 := (hbr3.alloc hsr3 _).grown hgrow4 (by simp; omega) (fun k hk => (hown3'.lt k hk).1)
      have hL4 := hL.later hbr4
      have hb4 : Below w.heap.size w w4 := hbe.trans (hbr4.mono hsz)
      have hsr4 := hbr4.size
      have hs4 := hb4.size
      rw [HV.out, show bcs l ++ [bc (UInt8.ofNat L.length)] = bcs (l ++ [UInt8.ofNat L.length]) by simp [bcs]] at hown4
      obtain ⟨p4, c4, rfl⟩ := owns_shape hown4
      clear hgrow4 hown3' hbr3 hb3 hs3 HV hL hbe
      go_wp2_with (first | (at_builtin; refine wpList_append_hb rfl (.tmp 27) (.tmp 28) 22 rfl wr.heap.size 5 Try.underlying22 i_u8 _ _ _ rfl hown4 _ _ _ L rfl hL4 ?ra ?rb ?_))
      case ra => omega
      case rb => exact hsr4
      intro v5 w5 hown5 hgrow5
      have hb5 : Below w.heap.size w w5 := hb4.grown hgrow5 hs4 (fun k hk => Nat.le_trans hsz (hown4.lt k hk).1)
      have HE : Hid (l ++ [UInt8.ofNat L.length] ++ L = l ++ numL N) := by show _ = _; rw [HNL.out]; simp
      have HQ : Hid ((l ++ numL N).length = l.length + 1 + L.length) := by show _ = _; rw [← HE.out]; simp; omega
      rw [← bcs_append, HE.out, ← HQ.out] at hown5
      have hown6 := owns_mono hown5 hsz
      obtain ⟨p6, c6, rfl⟩ := owns_shape hown6
      have H6 : Hid (w5.ownsRow w.heap.size 5 1 (.slice p6 (l ++ numL N).length c6) (l ++ numL N).length (bcs (l ++ numL N))) := hown6
      clear hgrow5 hown4 hown5 hown6 hL4 hb4 HE HQ
      go_wp2
      go_ret
      exact ⟨_, _, rfl, H6.out, hb5⟩

set_option maxHeartbeats 1000000 in
theorem rbytes_any (v u : Value) (l s : List UInt8) (w : World) (h : HB w v l) (hs : HB w u s) (hbig : l.length + s.length ≤ 140737488355200) :
    Calls Try.prog 27 #[v, u] w fun e w' => ∃ p c, e = .returned (.slice p (l ++ bytesL s).length c) ∧ w'.ownsRow w.heap.size 5 1 (.slice p (l ++ bytesL s).length c) (l ++ bytesL s).length (bcs (l ++ bytesL s)) ∧ Below w.heap.size w w' := by
  obtain ⟨p, c, rfl⟩ := h.shape
  obtain ⟨q, d, rfl⟩ := hs.shape
  have hc9 := cnt_le8 s.length (by omega)
  have HR : Hid ((l ++ numL s.length) ++ s = l ++ bytesL s) := by show _ = _; unfold bytesL; simp
  have HRL : Hid ((l ++ numL s.length).length ≤ l.length + 9) := by show _ ≤ _; rw [List.length_append, numL_length]; omega
  have HQ : Hid ((l ++ bytesL s).length = (l ++ numL s.length).length + s.length) := by show _ = _; rw [← HR.out, List.length_append]
  have hc := ruint_any _ l (s.length : Int) w h (by omega)
  rw [clampN_nat s.length (by omega)] at hc
  generalize hM : l ++ bytesL s = M at HR HQ ⊢
  generalize l ++ numL s.length = R at *
  clear hM h hc9
  go_enter Try.func27, Try.ntmps27
  go_wp2_with fail
  refine hc.mono ?_
  rintro e w2 ⟨p2, c2, rfl, hown2, hb02⟩
  have hs2 := hs.later hb02
  have hsz := hb02.size
  clear hc hs
  go_wp2_with (first | (at_builtin; refine wpList_append_hb rfl (.tmp 8) (.tmp 9) 22 rfl w.heap.size 5 Try.underlying22 i_u8 _ _ _ rfl hown2 _ _ _ s rfl hs2 ?sa ?sb ?_))
  case sa => have := HRL.out; omega
  case sb => exact hsz
  intro v3 w3 hown3 hgrow3
  have hb3 : Below w.heap.size w w3 := hb02.grown hgrow3 hsz (fun k hk => (hown2.lt k hk).1)
  rw [← bcs_append, HR.out, ← HQ.out] at hown3
  obtain ⟨p3, c3, rfl⟩ := owns_shape hown3
  clear hgrow3 hown2 hs2 hb02
  go_wp2
  go_ret
  exact ⟨_, _, rfl, hown3, hb3⟩

set_option maxHeartbeats 1000000 in
theorem rflag_any (v : Value) (l : List UInt8) (b : Bool) (w : World) (h : HB w v l) (hbig : l.length ≤ 140737488355300) :
    Calls Try.prog 26 #[v, .bool b] w fun e w' => ∃ p c, e = .returned (.slice p (l ++ flagL b).length c) ∧ w'.ownsRow w.heap.size 5 1 (.slice p (l ++ flagL b).length c) (l ++ flagL b).length (bcs (l ++ flagL b)) ∧ Below w.heap.size w w' := by
  obtain ⟨p, c, rfl⟩ := h.shape
  obtain ⟨i0, hi, hz0, hz1, hz2⟩ := info_parts i_u8
  have HQ : Hid ((l ++ flagL b).length = l.length + 1) := by show _ = _; unfold flagL; simp
  have h2 : HB (w.alloc (.cells #[] 5)) (.slice p l.length c) l := h.later ((Below.refl _ w).alloc (Nat.le_refl _) _)
  clear h
  cases b with
  | true =>
    have HR : Hid (bcs l ++ [.int .u8 1] = bcs (l ++ flagL true)) := by show _ = _; simp [flagL, bcs, bc]
    generalize l ++ flagL true = R at *
    go_enter Try.func26, Try.ntmps26
    go_wp2_with (first | (at_builtin; refine wpList_append_hb rfl (.tmp 7) (.tmp 8) 22 rfl w.heap.size 5 Try.underlying22 i_u8 _ 0 [] rfl (World.ownsRow_made w #[] 0 (Nat.le_refl _) (Nat.zero_le _) rfl) _ _ _ l rfl h2 ?qa ?qb ?_))
    case qa => omega
    case qb => simp
    intro v3 w3 hown3 hgrow3
    have hb3 : Below w.heap.size w w3 := ((Below.refl _ w).alloc (Nat.le_refl _) _).grown hgrow3 (by simp) (by intro k hk; cases hk; exact Nat.le_refl _)
    have hown3' : w3.ownsRow w.heap.size 5 1 v3 l.length (bcs l) := by simpa using hown3
    obtain ⟨p3, c3, rfl⟩ := owns_shape hown3'
    have hs3 := hb3.size
    clear hown3 hgrow3 h2
    go_wp2_with (first | (at_builtin; refine wpList_append_own _ rfl (.tmp 9) (.tmp 11) 22 rfl w.heap.size 5 i0 (.int .u8 0) 1 1 Try.underlying22 hi hz0 hz1 hz2 rfl (by decide) _ _ _ rfl (hown3'.alloc _) ⟨w3.heap.size, 0, none⟩ 1 1 [.int .u8 1] rfl rfl ?ua ?ub ?uc ?ud ?ue ?_))
    case ua => exact cell_one_new _ _ _
    case ub => intro u hu; simp at hu; subst hu; rfl
    case uc => unfold maxLen; omega
    case ud => omega
    case ue => simp; omega
    intro v4 w4 hown4 hgrow4 _
    have hb4 : Below w.heap.size w w4 := (hb3.alloc hs3 _).grown hgrow4 (by simp; omega) (fun k hk => (hown3'.lt k hk).1)
    rw [HR.out, ← HQ.out] at hown4
    obtain ⟨p4, c4, rfl⟩ := owns_shape hown4
    clear hgrow4 hown3' hb3
    go_wp2
    go_ret
    exact ⟨_, _, rfl, hown4, hb4⟩
  | false =>
    have HR : Hid (bcs l ++ [.int .u8 0] = bcs (l ++ flagL false)) := by show _ = _; simp [flagL, bcs, bc]
    generalize l ++ flagL false = R at *
    go_enter Try.func26, Try.ntmps26
    go_wp2_with (first | (at_builtin; refine wpList_append_hb rfl (.tmp 7) (.tmp 8) 22 rfl w.heap.size 5 Try.underlying22 i_u8 _ 0 [] rfl (World.ownsRow_made w #[] 0 (Nat.le_refl _) (Nat.zero_le _) rfl) _ _ _ l rfl h2 ?qa ?qb ?_))
    case qa => omega
    case qb => simp
    intro v3 w3 hown3 hgrow3
    have hb3 : Below w.heap.size w w3 := ((Below.refl _ w).alloc (Nat.le_refl _) _).grown hgrow3 (by simp) (by intro k hk; cases hk; exact Nat.le_refl _)
    have hown3' : w3.ownsRow w.heap.size 5 1 v3 l.length (bcs l) := by simpa using hown3
    obtain ⟨p3, c3, rfl⟩ := owns_shape hown3'
    have hs3 := hb3.size
    clear hown3 hgrow3 h2
    go_wp2_with (first | (at_builtin; refine wpList_append_own _ rfl (.tmp 9) (.tmp 11) 22 rfl w.heap.size 5 i0 (.int .u8 0) 1 1 Try.underlying22 hi hz0 hz1 hz2 rfl (by decide) _ _ _ rfl (hown3'.alloc _) ⟨w3.heap.size, 0, none⟩ 1 1 [.int .u8 0] rfl rfl ?ua ?ub ?uc ?ud ?ue ?_))
    case ua => exact cell_one_new _ _ _
    case ub => intro u hu; simp at hu; subst hu; rfl
    case uc => unfold maxLen; omega
    case ud => omega
    case ue => simp; omega
    intro v4 w4 hown4 hgrow4 _
    have hb4 : Below w.heap.size w w4 := (hb3.alloc hs3 _).grown hgrow4 (by simp; omega) (fun k hk => (hown3'.lt k hk).1)
    rw [HR.out, ← HQ.out] at hown4
    obtain ⟨p4, c4, rfl⟩ := owns_shape hown4
    clear hgrow4 hown3' hb3
    go_wp2
    go_ret
    exact ⟨_, _, rfl, hown4, hb4⟩

end Go.Proofs.Ytldmbfemoepfkaa
