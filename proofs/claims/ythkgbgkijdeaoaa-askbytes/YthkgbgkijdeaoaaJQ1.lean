/- What this text proves: the walks of the document's Uint, Bytes, Flag (annalsref04) over this program: bytes, and a number, a text, a yes or no behind them, in new memory. What this text proves: the walk of annalsref12.Write over this program: bytes, and a batch behind them. (By program: held.py, mkcrwrite.py.) What this text proves: the walks of annalsref04's Uint, Bytes and Flag and annalsref12's Write over this program, told alike. -/
import Derived.Test.YthkgbgkijdeaoaaJN1
import Derived.Test.YthkgbgkijdeaoaaJW1
import Derived.Test.YthkgbgkijdeaoaaJS1
namespace Go.Proofs.Ythkgbgkijdeaoaa
open Go.RowKit

def natOf : Value → Nat | .int _ i => i.toNat | _ => 0

/-- One byte in a new block is a row that the call owns. -/
theorem owns_one (w : World) (base : Nat) (e : TypeId) (y : UInt8) (V : Value) (hV : V = bc y) (hb : base ≤ w.heap.size) : (w.alloc (.cells #[V] e)).ownsRow base e 1 (.slice (some ⟨w.heap.size, 0, none⟩) 1 1) 1 (bcs [y]) := by
  subst hV
  exact ⟨rfl, .inr ⟨w.heap.size, 1, #[bc y], rfl, hb, heap_alloc_new w _, Nat.le_refl _, by unfold maxLen; omega, rfl, rfl⟩⟩

theorem low_byte (m : Nat) : Value.int .u8 ((m : Int) % 256) = bc (UInt8.ofNat m) := by
  unfold bc
  rw [show (m : Int) % 256 = ((m % 256 : Nat) : Int) by omega]
  simp

set_option maxRecDepth 100000 in
set_option maxHeartbeats 2000000 in
theorem ruint_any (v : Value) (l : List UInt8) (n : Int) (w : World) (h : HB w v l) (hbig : l.length ≤ 140737488355300) :
    Calls Try.prog 40 #[v, .int .i64 n] w fun e w' => ∃ p c, e = .returned (.slice p (l ++ numL (clampN n)).length c) ∧ w'.ownsRow w.heap.size 5 1 (.slice p (l ++ numL (clampN n)).length c) (l ++ numL (clampN n)).length (bcs (l ++ numL (clampN n))) ∧ Below w.heap.size w w' := by
  obtain ⟨p, c, rfl⟩ := h.shape
  obtain ⟨i0, hi, hz0, hz1, hz2⟩ := info_parts i_u8
  have hNle := clampN_le n
  have hcl : max 0 (min n 4611686018427387904) = (clampN n : Int) := by unfold clampN; omega
  generalize clampN n = N at *
  have hc8 := cnt_le8 N (by omega)
  have HNL : Hid (numL N = UInt8.ofNat (ndigs N).length :: ndigs N) := by show _ = _; unfold numL; rw [ndigs_length]
  have hdl : (ndigs N).length ≤ 8 := by rw [ndigs_length]; exact hc8
  go_enter Try.func40, Try.ntmps40
  go_wp2
  go_loopw [1, 5] (fun i v wr => ∃ (m : Nat) (L : List UInt8) (p5 : Option Addr) (c5 : Nat), m ≤ N ∧ i = .int .i64 (m : Int) ∧ v = .slice p5 L.length c5 ∧ HB wr (.slice p5 L.length c5) L ∧ ndigs N = ndigs m ++ L ∧ Below w.heap.size w wr)
    (fun i _ _ => natOf i)
  case atStart => exact ⟨N, [], none, 0, Nat.le_refl _, rfl, rfl, HB.nil _, by simp, Below.refl _ _⟩
  case round =>
    obtain ⟨m, L, p5, c5, hmN, rfl, rfl, hL, hdig, hbe⟩ := hrel
    have hsz := hbe.size
    have hLl : L.length ≤ 8 := by
      have := congrArg List.length hdig
      rw [List.length_append] at this
      omega
    by_cases hm : 0 < m
    · have HD : Hid (ndigs N = ndigs (m / 256) ++ (UInt8.ofNat m :: L)) := by
        show _ = _
        rw [hdig, ndigs_step m (by omega) (by omega)]
        simp
      have hm2 : (0 : Int) < (m : Int) := by omega
      have hown0 := owns_one wr w.heap.size 5 (UInt8.ofNat m) _ (low_byte m) hsz
      have hL0 := hL.later ((Below.refl _ wr).alloc (Nat.le_refl _) (.cells #[Value.int .u8 ((m : Int) % 256)] 5))
      clear hdig hL h HNL
      go_wp2_with (first | (at_builtin; refine wpList_append_hb rfl (.tmp 14) (.tmp 15) 22 rfl w.heap.size 5 Try.underlying22 i_u8 _ _ _ rfl hown0 _ _ _ L rfl hL0 ?sa ?sb ?_))
      case sa => omega
      case sb => simp; omega
      intro v2 w2 hown2 hgrow2
      have hb2 : Below w.heap.size w w2 := (hbe.alloc hsz _).grown hgrow2 (by simp; omega) (by intro k hk; cases hk; exact hsz)
      have hh : HB w2 v2 (UInt8.ofNat m :: L) := by
        rw [← bcs_append] at hown2
        exact HB.of_owns hown2
      obtain ⟨p2, c2, rfl⟩ := hh.shape
      have HH : Hid (HB w2 (.slice p2 (UInt8.ofNat m :: L).length c2) (UInt8.ofNat m :: L)) := hh
      clear hgrow2 hown2 hown0 hL0 hbe hh
      go_wp2
      exact ⟨⟨m / 256, UInt8.ofNat m :: L, p2, c2, by omega, by rw [show ((m / 256 : Nat) : Int) = (m : Int) / 256 by omega], rfl, HH.out, HD.out, hb2⟩, by simp [natOf]; omega⟩
    · obtain rfl : m = 0 := by omega
      rw [ndigs_zero, List.nil_append] at hdig
      rw [hdig] at HNL
      have hl1 := h.later hbe
      have h2 : HB (wr.alloc (.cells #[] 5)) (.slice p l.length c) l := hl1.later ((Below.refl _ wr).alloc (Nat.le_refl _) _)
      have hb1 : Below w.heap.size w (wr.alloc (.cells #[] 5)) := hbe.alloc hsz _
      have hL1 : HB (wr.alloc (.cells #[] 5)) (.slice p5 L.length c5) L := hL.later ((Below.refl _ wr).alloc (Nat.le_refl _) _)
      clear hdig h hl1 hmN
      go_wp2_with (first | (at_builtin; refine wpList_append_hb rfl (.tmp 19) (.tmp 20) 22 rfl wr.heap.size 5 Try.underlying22 i_u8 _ 0 [] rfl (World.ownsRow_made wr #[] 0 (Nat.le_refl _) (Nat.zero_le _) rfl) _ _ _ l rfl h2 ?qa ?qb ?_))
      case qa => omega
      case qb => simp
      intro v3 w3 hown3 hgrow3
      have hbr3 : Below wr.heap.size wr w3 := ((Below.refl _ wr).alloc (Nat.le_refl _) _).grown hgrow3 (by simp) (by intro k hk; cases hk; exact Nat.le_refl _)
      have hb3 : Below w.heap.size w w3 := hbe.trans (hbr3.mono hsz)
      have hs3 := hb3.size
      have hown3' : w3.ownsRow wr.heap.size 5 1 v3 l.length (bcs l) := by simpa using hown3
      obtain ⟨p3, c3, rfl⟩ := owns_shape hown3'
      have hsr3 := hbr3.size
      clear hown3 hgrow3 h2 hL1 hb1
      have HV : Hid (Value.int .u8 (L.length : Int) = bc (UInt8.ofNat L.length)) := by show Value.int .u8 (L.length : Int) = bc (UInt8.ofNat L.length); simp [bc]; omega
      go_wp2_with (first | (at_builtin; refine wpList_append_own _ rfl (.tmp 21) (.tmp 25) 22 rfl wr.heap.size 5 i0 (.int .u8 0) 1 1 Try.underlying22 hi hz0 hz1 hz2 rfl (by decide) _ _ _ rfl (hown3'.alloc _) ⟨w3.heap.size, 0, none⟩ 1 1 [.int .u8 (L.length : Int)] rfl rfl ?ua ?ub ?uc ?ud ?ue ?_))
      case ua => exact cell_one_new _ _ _
      case ub => intro u hu; simp at hu; subst hu; rfl
      case uc => unfold maxLen; omega
      case ud => omega
      case ue => simp; omega
      intro v4 w4 hown4 hgrow4 _
      have hbr4 : Below wr.heap.size wr w4 := (hbr3.alloc hsr3 _).grown hgrow4 (by simp; omega) (fun k hk => (hown3'.lt k hk).1)
      have hL4 := hL.later hbr4
      have hb4 : Below w.heap.size w w4 := hbe.trans (hbr4.mono hsz)
      have hsr4 := hbr4.size
      have hs4 := hb4.size
      rw [HV.out, show bcs l ++ [bc (UInt8.ofNat L.length)] = bcs (l ++ [UInt8.ofNat L.length]) by simp [bcs]] at hown4
      obtain ⟨p4, c4, rfl⟩ := owns_shape hown4
      clear hgrow4 hown3' hbr3 hb3 hs3 HV hL hbe
      go_wp2_with (first | (at_builtin; refine wpList_append_hb rfl (.tmp 27) (.tmp 28) 22 rfl wr.heap.size 5 Try.underlying22 i_u8 _ _ _ rfl hown4 _ _ _ L rfl hL4 ?ra ?rb ?_))
      case ra => omega
      case rb => exact hsr4
      intro v5 w5 hown5 hgrow5
      have hb5 : Below w.heap.size w w5 := hb4.grown hgrow5 hs4 (fun k hk => Nat.le_trans hsz (hown4.lt k hk).1)
      have HE : Hid (l ++ [UInt8.ofNat L.length] ++ L = l ++ numL N) := by show _ = _; rw [HNL.out]; simp
      have HQ : Hid ((l ++ numL N).length = l.length + 1 + L.length) := by show _ = _; rw [← HE.out]; simp; omega
      rw [← bcs_append, HE.out, ← HQ.out] at hown5
      have hown6 := owns_mono hown5 hsz
      obtain ⟨p6, c6, rfl⟩ := owns_shape hown6
      have H6 : Hid (w5.ownsRow w.heap.size 5 1 (.slice p6 (l ++ numL N).length c6) (l ++ numL N).length (bcs (l ++ numL N))) := hown6
      clear hgrow5 hown4 hown5 hown6 hL4 hb4 HE HQ
      go_wp2
      go_ret
      exact ⟨_, _, rfl, H6.out, hb5⟩

set_option maxRecDepth 100000 in
set_option maxHeartbeats 1000000 in
theorem rbytes_any (v u : Value) (l s : List UInt8) (w : World) (h : HB w v l) (hs : HB w u s) (hbig : l.length + s.length ≤ 140737488355200) :
    Calls Try.prog 42 #[v, u] w fun e w' => ∃ p c, e = .returned (.slice p (l ++ bytesL s).length c) ∧ w'.ownsRow w.heap.size 5 1 (.slice p (l ++ bytesL s).length c) (l ++ bytesL s).length (bcs (l ++ bytesL s)) ∧ Below w.heap.size w w' := by
  obtain ⟨p, c, rfl⟩ := h.shape
  obtain ⟨q, d, rfl⟩ := hs.shape
  have hc9 := cnt_le8 s.length (by omega)
  have HR : Hid ((l ++ numL s.length) ++ s = l ++ bytesL s) := by show _ = _; unfold bytesL; simp
  have HRL : Hid ((l ++ numL s.length).length ≤ l.length + 9) := by show _ ≤ _; rw [List.length_append, numL_length]; omega
  have HQ : Hid ((l ++ bytesL s).length = (l ++ numL s.length).length + s.length) := by show _ = _; rw [← HR.out, List.length_append]
  have hc := ruint_any _ l (s.length : Int) w h (by omega)
  rw [clampN_nat s.length (by omega)] at hc
  generalize hM : l ++ bytesL s = M at HR HQ ⊢
  generalize l ++ numL s.length = R at *
  clear hM h hc9
  go_enter Try.func42, Try.ntmps42
  go_wp2_with fail
  refine hc.mono ?_
  rintro e w2 ⟨p2, c2, rfl, hown2, hb02⟩
  have hs2 := hs.later hb02
  have hsz := hb02.size
  clear hc hs
  go_wp2_with (first | (at_builtin; refine wpList_append_hb rfl (.tmp 8) (.tmp 9) 22 rfl w.heap.size 5 Try.underlying22 i_u8 _ _ _ rfl hown2 _ _ _ s rfl hs2 ?sa ?sb ?_))
  case sa => have := HRL.out; omega
  case sb => exact hsz
  intro v3 w3 hown3 hgrow3
  have hb3 : Below w.heap.size w w3 := hb02.grown hgrow3 hsz (fun k hk => (hown2.lt k hk).1)
  rw [← bcs_append, HR.out, ← HQ.out] at hown3
  obtain ⟨p3, c3, rfl⟩ := owns_shape hown3
  clear hgrow3 hown2 hs2 hb02
  go_wp2
  go_ret
  exact ⟨_, _, rfl, hown3, hb3⟩

set_option maxRecDepth 100000 in
set_option maxHeartbeats 1000000 in
theorem rflag_any (v : Value) (l : List UInt8) (b : Bool) (w : World) (h : HB w v l) (hbig : l.length ≤ 140737488355300) :
    Calls Try.prog 43 #[v, .bool b] w fun e w' => ∃ p c, e = .returned (.slice p (l ++ flagL b).length c) ∧ w'.ownsRow w.heap.size 5 1 (.slice p (l ++ flagL b).length c) (l ++ flagL b).length (bcs (l ++ flagL b)) ∧ Below w.heap.size w w' := by
  obtain ⟨p, c, rfl⟩ := h.shape
  obtain ⟨i0, hi, hz0, hz1, hz2⟩ := info_parts i_u8
  have HQ : Hid ((l ++ flagL b).length = l.length + 1) := by show _ = _; unfold flagL; simp
  have h2 : HB (w.alloc (.cells #[] 5)) (.slice p l.length c) l := h.later ((Below.refl _ w).alloc (Nat.le_refl _) _)
  clear h
  cases b with
  | true =>
    have HR : Hid (bcs l ++ [.int .u8 1] = bcs (l ++ flagL true)) := by show _ = _; simp [flagL, bcs, bc]
    generalize l ++ flagL true = R at *
    go_enter Try.func43, Try.ntmps43
    go_wp2_with (first | (at_builtin; refine wpList_append_hb rfl (.tmp 7) (.tmp 8) 22 rfl w.heap.size 5 Try.underlying22 i_u8 _ 0 [] rfl (World.ownsRow_made w #[] 0 (Nat.le_refl _) (Nat.zero_le _) rfl) _ _ _ l rfl h2 ?qa ?qb ?_))
    case qa => omega
    case qb => simp
    intro v3 w3 hown3 hgrow3
    have hb3 : Below w.heap.size w w3 := ((Below.refl _ w).alloc (Nat.le_refl _) _).grown hgrow3 (by simp) (by intro k hk; cases hk; exact Nat.le_refl _)
    have hown3' : w3.ownsRow w.heap.size 5 1 v3 l.length (bcs l) := by simpa using hown3
    obtain ⟨p3, c3, rfl⟩ := owns_shape hown3'
    have hs3 := hb3.size
    clear hown3 hgrow3 h2
    go_wp2_with (first | (at_builtin; refine wpList_append_own _ rfl (.tmp 9) (.tmp 11) 22 rfl w.heap.size 5 i0 (.int .u8 0) 1 1 Try.underlying22 hi hz0 hz1 hz2 rfl (by decide) _ _ _ rfl (hown3'.alloc _) ⟨w3.heap.size, 0, none⟩ 1 1 [.int .u8 1] rfl rfl ?ua ?ub ?uc ?ud ?ue ?_))
    case ua => exact cell_one_new _ _ _
    case ub => intro u hu; simp at hu; subst hu; rfl
    case uc => unfold maxLen; omega
    case ud => omega
    case ue => simp; omega
    intro v4 w4 hown4 hgrow4 _
    have hb4 : Below w.heap.size w w4 := (hb3.alloc hs3 _).grown hgrow4 (by simp; omega) (fun k hk => (hown3'.lt k hk).1)
    rw [HR.out, ← HQ.out] at hown4
    obtain ⟨p4, c4, rfl⟩ := owns_shape hown4
    clear hgrow4 hown3' hb3
    go_wp2
    go_ret
    exact ⟨_, _, rfl, hown4, hb4⟩
  | false =>
    have HR : Hid (bcs l ++ [.int .u8 0] = bcs (l ++ flagL false)) := by show _ = _; simp [flagL, bcs, bc]
    generalize l ++ flagL false = R at *
    go_enter Try.func43, Try.ntmps43
    go_wp2_with (first | (at_builtin; refine wpList_append_hb rfl (.tmp 7) (.tmp 8) 22 rfl w.heap.size 5 Try.underlying22 i_u8 _ 0 [] rfl (World.ownsRow_made w #[] 0 (Nat.le_refl _) (Nat.zero_le _) rfl) _ _ _ l rfl h2 ?qa ?qb ?_))
    case qa => omega
    case qb => simp
    intro v3 w3 hown3 hgrow3
    have hb3 : Below w.heap.size w w3 := ((Below.refl _ w).alloc (Nat.le_refl _) _).grown hgrow3 (by simp) (by intro k hk; cases hk; exact Nat.le_refl _)
    have hown3' : w3.ownsRow w.heap.size 5 1 v3 l.length (bcs l) := by simpa using hown3
    obtain ⟨p3, c3, rfl⟩ := owns_shape hown3'
    have hs3 := hb3.size
    clear hown3 hgrow3 h2
    go_wp2_with (first | (at_builtin; refine wpList_append_own _ rfl (.tmp 9) (.tmp 11) 22 rfl w.heap.size 5 i0 (.int .u8 0) 1 1 Try.underlying22 hi hz0 hz1 hz2 rfl (by decide) _ _ _ rfl (hown3'.alloc _) ⟨w3.heap.size, 0, none⟩ 1 1 [.int .u8 0] rfl rfl ?ua ?ub ?uc ?ud ?ue ?_))
    case ua => exact cell_one_new _ _ _
    case ub => intro u hu; simp at hu; subst hu; rfl
    case uc => unfold maxLen; omega
    case ud => omega
    case ue => simp; omega
    intro v4 w4 hown4 hgrow4 _
    have hb4 : Below w.heap.size w w4 := (hb3.alloc hs3 _).grown hgrow4 (by simp; omega) (fun k hk => (hown3'.lt k hk).1)
    rw [HR.out, ← HQ.out] at hown4
    obtain ⟨p4, c4, rfl⟩ := owns_shape hown4
    clear hgrow4 hown3' hb3
    go_wp2
    go_ret
    exact ⟨_, _, rfl, hown4, hb4⟩

end Go.Proofs.Ythkgbgkijdeaoaa

namespace Go.Proofs.Ythkgbgkijdeaoaa
open Go.RowKit

set_option maxRecDepth 100000 in
set_option maxHeartbeats 4000000 in
theorem crwrite_any (v u : Value) (l : List UInt8) (bs : List (List UInt8 × List UInt8)) (w : World) (hv : HB w v l) (hu : BA w u bs) (hl : l.length ≤ 1048576) (hb : bulkB bs ≤ 1048576) (hn : bs.length ≤ 40) :
    Calls Try.prog 41 #[v, u] w fun x w' => ∃ v', x = .returned v' ∧ HB w' v' (l ++ wrL bs) ∧ Below w.heap.size w w' := by
  obtain ⟨p, c, rfl⟩ := hu.shape
  have hU := ruint_any v l (bs.length : Int) w hv (by omega)
  rw [clampN_nat bs.length (by omega)] at hU
  have hnl : (numL bs.length).length ≤ 9 := by
    rw [numL_length]
    have := cnt_le8 bs.length (by omega)
    omega
  have HW : Hid (l ++ wrL bs = l ++ numL bs.length ++ binL (bs.take bs.length)) := by show _ = _; rw [List.take_length]; simp [wrL]
  obtain ⟨F, hF⟩ : ∃ F, F = l ++ numL bs.length := ⟨_, rfl⟩
  rw [← hF] at hU HW
  have hFl : F.length ≤ 1048585 := by rw [hF, List.length_append]; omega
  clear hF hv
  go_enter Try.func41, Try.ntmps41
  go_wp2_with fail
  refine hU.mono ?_
  rintro x w1 ⟨p1, c1, rfl, o1, b1⟩
  have hh1 := HB.of_owns o1
  clear hU o1
  go_wp2
  go_loopw [5, 14] (fun v i wr => ∃ k : Nat, k ≤ bs.length ∧ i = .int .i64 (k : Int) ∧ HB wr v (F ++ binL (bs.take k)) ∧ Below w.heap.size w wr) (fun _ i _ => bs.length - (intOf i).toNat)
  case atStart => exact ⟨0, Nat.zero_le _, rfl, by simpa [binL] using hh1, b1⟩
  case round =>
    clear hh1
    obtain ⟨k, hk, rfl, hH, hbe⟩ := hrel
    by_cases hlt : k < bs.length
    · obtain ⟨bl, o, rfl⟩ := hu.addr (by omega)
      obtain ⟨x, q, kc, r, d, hx, c1', c2', h1, h2⟩ := hu.get k hlt
      have hlt2 : (k : Int) < (bs.length : Int) := by omega
      have hmem := List.mem_of_getElem? hx.out
      have hxb := bulkB_mem hmem
      have hbt2 := bulkB_take bs k
      have hbt := binL_len (bs.take k) (by omega)
      have htl : (bs.take k).length ≤ 40 := by simp; omega
      have HB1 : F ++ binL (bs.take (k + 1)) = F ++ binL (bs.take k) ++ bytesL x.1 ++ bytesL x.2 := by rw [binL_take bs k x hx.out]; simp
      have e1 := bytesL_big x.1 (by omega)
      have hGl : (F ++ binL (bs.take k)).length ≤ 2200000 := by rw [List.length_append]; omega
      have x1 := cell_later hbe c1'
      have x2 := cell_later hbe c2'
      have bA := (Below.refl wr.heap.size wr).alloc (Nat.le_refl _) (.cells #[.slice q x.1.length kc, .slice r x.2.length d] 92)
      have gA := heap_alloc_new wr (.cells #[.slice q x.1.length kc, .slice r x.2.length d] 92)
      obtain ⟨V, hV⟩ : ∃ V, V = wr.alloc (.cells #[.slice q x.1.length kc, .slice r x.2.length d] 92) := ⟨_, rfl⟩
      rw [← hV] at bA gA
      have bV0 := hbe.trans (bA.mono hbe.size)
      have hgl : wr.heap.size < V.heap.size := (Array.getElem?_eq_some_iff.1 gA).1
      have HC1 : Hid (∀ W, Below V.heap.size V W → Calls Try.prog 42 #[u5, .slice q x.1.length kc] W fun y w' => ∃ v2, y = .returned v2 ∧ HB w' v2 (F ++ binL (bs.take k) ++ bytesL x.1) ∧ Below W.heap.size W w') := fun W hB => (rbytes_any _ _ _ _ W ((hH.later bA).later hB) (h1.later (bV0.trans (hB.mono bV0.size))) (by omega)).mono fun y w' ⟨p2, c2, e, o2, b2⟩ => ⟨_, e, HB.of_owns o2, b2⟩
      have HC2 : Hid (∀ v W, Below V.heap.size V W → HB W v (F ++ binL (bs.take k) ++ bytesL x.1) → Calls Try.prog 42 #[v, .slice r x.2.length d] W fun y w' => ∃ v2, y = .returned v2 ∧ HB w' v2 (F ++ binL (bs.take (k + 1))) ∧ Below W.heap.size W w') := fun v W hB hv => by
        rw [HB1]
        exact (rbytes_any _ _ _ _ W hv (h2.later (bV0.trans (hB.mono bV0.size))) (by rw [List.length_append]; omega)).mono fun y w' ⟨p2, c2, e, o2, b2⟩ => ⟨_, e, HB.of_owns o2, b2⟩
      have hcells : ∀ W, Below V.heap.size V W → W.cell? ⟨wr.heap.size, 0, none⟩ = some (.slice q x.1.length kc) ∧ W.cell? ⟨wr.heap.size, 1, none⟩ = some (.slice r x.2.length d) := by
        intro W hB
        have g1 := (hB.block _ hgl).trans gA
        refine ⟨?_, ?_⟩ <;> (rw [cell_of_row _ _ _ _ _ _ g1]; rfl)
      clear hx hbt htl hbt2 h1 h2 hmem HW bA c1' c2' HB1 e1 hGl hH gA
      go_wp2
      rw [← hV]
      clear hV x1 x2
      have bD : Below V.heap.size V V.drew := (Below.refl _ V).drew
      have hHeld := hcells V.drew bD
      refine wp_region_heldN (by kernel_rfl) (fun W => W.cell? ⟨wr.heap.size, 0, none⟩ = some (.slice q x.1.length kc) ∧ W.cell? ⟨wr.heap.size, 1, none⟩ = some (.slice r x.2.length d)) 8 rfl ?_
      refine tkY 0 ⟨some 18, .move (.tmp 5), 22, "ref.go:55", #[], none⟩ ?v0z1 hHeld ?y0z1 ?r0z1
      case y0z1 => (intro w hSw; (try dsimp only at hSw); go_simp) <;> with_reducible rfl
      try simp only [Act.put, List.setIfInBounds_toArray, List.set_cons_zero, List.set_cons_succ]
      refine tkY 1 ⟨some 19, .fieldAddr 92 (.tmp 7) 0, 0, "ref.go:55", #[], none⟩ ?v1z2 hHeld ?y1z2 ?r1z2
      case y1z2 => (intro w hSw; (try dsimp only at hSw); go_simp) <;> with_reducible rfl
      try simp only [Act.put, List.setIfInBounds_toArray, List.set_cons_zero, List.set_cons_succ]
      refine tkY 2 ⟨some 20, .load 22 (.tmp 19), 22, "ref.go:55", #[⟨1, .data⟩], none⟩ ?v2z3 hHeld ?y2z3 ?r2z3
      case y2z3 => (intro w hSw; (try dsimp only at hSw); go_simp) <;> with_reducible rfl
      try simp only [Act.put, List.setIfInBounds_toArray, List.set_cons_zero, List.set_cons_succ]
      refine tkY 4 ⟨some 22, .fieldAddr 92 (.tmp 7) 1, 0, "ref.go:55", #[], none⟩ ?v4z4 hHeld ?y4z4 ?r4z4
      case y4z4 => (intro w hSw; (try dsimp only at hSw); go_simp) <;> with_reducible rfl
      try simp only [Act.put, List.setIfInBounds_toArray, List.set_cons_zero, List.set_cons_succ]
      refine tkY 5 ⟨some 23, .load 22 (.tmp 22), 22, "ref.go:55", #[⟨4, .data⟩], none⟩ ?v5z5 hHeld ?y5z5 ?r5z5
      case y5z5 => (intro w hSw; (try dsimp only at hSw); go_simp) <;> with_reducible rfl
      try simp only [Act.put, List.setIfInBounds_toArray, List.set_cons_zero, List.set_cons_succ]
      refine wpAnyH_ready (rs := [3]) (by kernel_rfl) (by simp) ?_
      refine AllReadyH.cons (o := ⟨some 21, .call { callee := .value (.func 42), args := #[.tmp 18, .tmp 20], argTypes := #[22, 22] }, 22, "ref.go:55", #[⟨0, .data⟩, ⟨2, .data⟩], none⟩) rfl (fun K hK => ?_) AllReadyH.nil
      go_simp
      refine (HC1.out _ bD).mono ?_
      rintro y w2 ⟨v2, rfl, hh2, b2'⟩
      have b2 := bD.trans (b2'.mono bD.size)
      replace hHeld := hcells w2 b2
      refine hK.out _ _ ?_ (fun _ => ?_)
      · exact hHeld
      clear hK K
      try simp only [Act.put, List.setIfInBounds_toArray, List.set_cons_zero, List.set_cons_succ]
      refine wpAnyH_ready (rs := [6]) (by kernel_rfl) (by simp) ?_
      refine AllReadyH.cons (o := ⟨some 24, .call { callee := .value (.func 42), args := #[.tmp 21, .tmp 23], argTypes := #[22, 22] }, 22, "ref.go:55", #[⟨3, .data⟩, ⟨5, .data⟩, ⟨3, .chain⟩], none⟩) rfl (fun K hK => ?_) AllReadyH.nil
      go_simp
      refine (HC2.out _ _ b2 hh2).mono ?_
      rintro y w3 ⟨v3, rfl, hh3, b3'⟩
      have b3 := b2.trans (b3'.mono b2.size)
      replace hHeld := hcells w3 b3
      refine hK.out _ _ ?_ (fun _ => ?_)
      · exact hHeld
      clear hK K
      try simp only [Act.put, List.setIfInBounds_toArray, List.set_cons_zero, List.set_cons_succ]
      refine tkY 7 ⟨some 5, .assign (.tmp 24), 22, "ref.go:55", #[⟨6, .data⟩, ⟨6, .chain⟩, ⟨0, .phase⟩, ⟨1, .phase⟩, ⟨2, .phase⟩, ⟨3, .phase⟩, ⟨4, .phase⟩, ⟨5, .phase⟩, ⟨6, .phase⟩], none⟩ ?v7z6 hHeld ?y7z6 ?r7z6
      case y7z6 => (intro w hSw; (try dsimp only at hSw); go_simp) <;> with_reducible rfl
      try simp only [Act.put, List.setIfInBounds_toArray, List.set_cons_zero, List.set_cons_succ]
      refine wpAnyH_done (by kernel_rfl) ?_ _
      have bF := bV0.trans (b3.mono bV0.size)
      clear hHeld hcells HC1 HC2
      go_wp2
      go_roundw
      case rel => first | exact ⟨k + 1, by omega, by go_num, hh3, bF⟩ | ((repeat apply Exists.intro); exact ⟨⟨k + 1, by omega, by go_num, hh3, bF⟩, rfl⟩)
      case measure => simp [intOf]; omega
    · obtain rfl : k = bs.length := by omega
      rw [← HW.out] at hH
      clear HW
      go_wp2
      go_ret
      exact ⟨_, rfl, hH, hbe⟩

end Go.Proofs.Ythkgbgkijdeaoaa

namespace Go.Proofs.Ythkgbgkijdeaoaa
open Go.RowKit

/-- A call that puts s behind l; of what is there then the length alone is told in the open. -/
def PutT (l s : List UInt8) (w : World) (e : Ending) (w' : World) : Prop := ∃ L p c, e = .returned (.slice p L.length c) ∧ HB w' (.slice p L.length c) L ∧ Hid (L = l ++ s) ∧ Below w.heap.size w w'

theorem PutT.of {l s : List UInt8} {w w' : World} {v : Value} (h : HB w' v (l ++ s)) (hb : Below w.heap.size w w') : PutT l s w (.returned v) w' := by
  obtain ⟨p, c, rfl⟩ := h.shape
  exact ⟨_, p, c, rfl, h, rfl, hb⟩

theorem put_uint (v : Value) (l : List UInt8) (n : Int) (w : World) (h : HB w v l) (hbig : l.length ≤ 140737488355300) : Calls Try.prog 40 #[v, .int .i64 n] w (PutT l (numL (clampN n)) w) := by
  refine (ruint_any v l n w h hbig).mono ?_
  rintro e w' ⟨p, c, rfl, ho, hb⟩
  exact PutT.of (HB.of_owns ho) hb
theorem put_bytes (v u : Value) (l s : List UInt8) (w : World) (h : HB w v l) (hs : HB w u s) (hbig : l.length + s.length ≤ 140737488355200) : Calls Try.prog 42 #[v, u] w (PutT l (bytesL s) w) := by
  refine (rbytes_any v u l s w h hs hbig).mono ?_
  rintro e w' ⟨p, c, rfl, ho, hb⟩
  exact PutT.of (HB.of_owns ho) hb
theorem put_flag (v : Value) (l : List UInt8) (b : Bool) (w : World) (h : HB w v l) (hbig : l.length ≤ 140737488355300) : Calls Try.prog 43 #[v, .bool b] w (PutT l (flagL b) w) := by
  refine (rflag_any v l b w h hbig).mono ?_
  rintro e w' ⟨p, c, rfl, ho, hb⟩
  exact PutT.of (HB.of_owns ho) hb
theorem put_batch (v u : Value) (l : List UInt8) (bs : List (List UInt8 × List UInt8)) (w : World) (h : HB w v l) (hu : BA w u bs) (hl : l.length ≤ 1048576) (hb : bulkB bs ≤ 1048576) (hn : bs.length ≤ 40) : Calls Try.prog 41 #[v, u] w (PutT l (wrL bs) w) := by
  refine (crwrite_any v u l bs w h hu hl hb hn).mono ?_
  rintro e w' ⟨v', rfl, hv, hb⟩
  exact PutT.of hv hb

theorem len_app {L l s : List UInt8} {N : Nat} (h : Hid (L = l ++ s)) (hl : l.length + s.length ≤ N) : L.length ≤ N := by
  rw [h.out, List.length_append]; exact hl

end Go.Proofs.Ythkgbgkijdeaoaa
