/- What this text proves: the walk of record.Encode over this program: a record's bytes, or the error. What this text proves: the walks of the document's Uint, Bytes, Flag (annalsref04) over this program: bytes, and a number, a text, a yes or no behind them, in new memory. What this text proves: the walk of annalsref13.Encode over this program: a record's bytes, or the error. (By program: held.py, mkrenc.py.) -/
import Derived.Test.YtpndpmkoegmbkaaDoorRcCan
import Derived.Test.YtpndpmkoegmbkaaDoorRcRLinks
import Derived.Test.YtpndpmkoegmbkaaDoorCUintT
import Derived.Test.YtpndpmkoegmbkaaDoorCPuts
import Derived.Test.YtpndpmkoegmbkaaDoorRcRCan
namespace Go.Proofs.YtpndpmkoegmbkaaDoor
open Go.RowKit

/-- A record's bytes. -/
def encL (r : Rc) : List UInt8 := numL (clampN r.e) ++ numL (clampN r.t) ++ bytesL r.tr ++ numL (clampN r.c) ++ bytesL r.li ++ putL r.lk

theorem numL_le (n : Int) : (numL (clampN n)).length ≤ 9 := by
  rw [numL_length]
  have h1 := clampN_le n
  have := cnt_le8 (clampN n) (by omega)
  omega

theorem cuint_hb (v : Value) (l : List UInt8) (n : Int) (w : World) (h : HB w v l) (hbig : l.length ≤ 1048576) :
    Calls Tryd.prog 57 #[v, .int .i64 n] w fun e w' => ∃ p c, e = .returned (.slice p (l ++ numL (clampN n)).length c) ∧ HB w' (.slice p (l ++ numL (clampN n)).length c) (l ++ numL (clampN n)) ∧ Below w.heap.size w w' :=
  (cuint_any v l n w h (by omega)).mono fun _ _ ⟨p, c, e1, e2, e3⟩ => ⟨p, c, e1, HB.of_owns e2, e3⟩

theorem PA.one' (w : World) (a : Value) (la : List UInt8) (ha : HB w a la) : PA (w.alloc (.cells #[a] 22)) (.slice (some ⟨w.heap.size, 0, none⟩) 1 1) [la] := by
  refine ⟨_, 1, [a], rfl, Nat.le_refl _, by decide, (fun h => by cases h), rfl, fun _ => ⟨_, 0, rfl, fun i x hx => ?_⟩, fun i x l hx hl => ?_⟩
  · rw [Nat.zero_add, cell_of_row _ _ i _ _ _ (heap_alloc_new w _)]
    simpa using hx
  · have hbe := (Below.refl w.heap.size w).alloc (Nat.le_refl _) (.cells #[a] 22)
    match i with
    | 0 => simp at hx hl; subst hx; subst hl; exact ha.later hbe
    | n + 1 => simp at hx

set_option maxRecDepth 100000 in
set_option maxHeartbeats 2000000 in
theorem encode_no (size e t c : Int) (tv lv kv : Value) (tr li : List UInt8) (lk : List (List UInt8)) (w : World) (h1 : HB w tv tr) (h2 : HB w lv li) (h3 : PA w kv lk) (hTD : TD w) (hcan : canB size ⟨e, t, c, tr, li, lk⟩ = false) :
    Calls Tryd.prog 51 #[.int .i64 size, .agg #[.int .i64 e, .int .i64 t, tv, .int .i64 c, lv, kv]] w fun x w' => x = .returned (.tuple #[.slice none 0 0, .int .i64 1]) ∧ Below w.heap.size w w' := by
  have bA := (Below.refl w.heap.size w).alloc (Nat.le_refl _) (.cells #[.int .i64 e, .int .i64 t, tv, .int .i64 c, lv, kv] 25)
  have hC := can_any size e t c tv lv kv tr li lk _ (h1.later bA) (h2.later bA) (h3.later bA) (hTD.later bA)
  rw [hcan] at hC
  obtain ⟨tp, tc, rfl⟩ := h1.shape
  obtain ⟨lp, lc, rfl⟩ := h2.shape
  obtain ⟨kp, kc, rfl⟩ := h3.shape
  clear h1 h2 h3 hTD hcan
  go_enter Tryd.func51, Tryd.ntmps51
  go_wp2_with fail
  refine hC.mono ?_
  rintro x w1 ⟨rfl, hb1⟩
  have hb := bA.trans (hb1.mono bA.size)
  clear hC bA hb1
  go_wp2
  go_ret2
  exact ⟨rfl, hb⟩

set_option maxRecDepth 100000 in
set_option maxHeartbeats 4000000 in
theorem encode_yes (size e t c : Int) (tv lv kv : Value) (tr li : List UInt8) (lk : List (List UInt8)) (w : World) (h1 : HB w tv tr) (h2 : HB w lv li) (h3 : PA w kv lk) (hTD : TD w) (hcan : canB size ⟨e, t, c, tr, li, lk⟩ = true) :
    Calls Tryd.prog 51 #[.int .i64 size, .agg #[.int .i64 e, .int .i64 t, tv, .int .i64 c, lv, kv]] w fun x w' => ∃ v, x = .returned (.tuple #[v, .int .i64 0]) ∧ HB w' v (encL ⟨e, t, c, tr, li, lk⟩) ∧ Below w.heap.size w w' := by
  have bA := (Below.refl w.heap.size w).alloc (Nat.le_refl _) (.cells #[.int .i64 e, .int .i64 t, tv, .int .i64 c, lv, kv] 25)
  have gA := heap_alloc_new w (.cells #[.int .i64 e, .int .i64 t, tv, .int .i64 c, lv, kv] 25)
  have hC := can_any size e t c tv lv kv tr li lk _ (h1.later bA) (h2.later bA) (h3.later bA) (hTD.later bA)
  rw [hcan] at hC
  obtain ⟨q1, q2, q3, q4, q5, q6, q7, q8, q9, q10, q11, q12⟩ := (canB_iff _ _).1 hcan
  dsimp only at q3 q4 q5 q6 q7 q8 q9 q10 q11 q12
  have hlk63 : lk.length ≤ 63 := by rw [q9]; exact linksL_len _ (by omega)
  have hlz := sized_le q12 q2
  have htr : tr.length ≤ 32 := by omega
  have hli : li.length ≤ 32 := by omega
  clear q9 q10 q11 q12 hcan
  obtain ⟨tp, tc, rfl⟩ := h1.shape
  obtain ⟨lp, lc, rfl⟩ := h2.shape
  obtain ⟨kp, kc, rfl⟩ := h3.shape
  obtain ⟨V, hV⟩ : ∃ V, V = w.alloc (.cells #[.int .i64 e, .int .i64 t, .slice tp tr.length tc, .int .i64 c, .slice lp li.length lc, .slice kp lk.length kc] 25) := ⟨_, rfl⟩
  rw [← hV] at bA gA hC
  have hg : w.heap.size < V.heap.size := (Array.getElem?_eq_some_iff.1 gA).1
  have hcells : ∀ W, Below V.heap.size V W → W.cell? ⟨w.heap.size, 0, none⟩ = some (.int .i64 e) ∧ W.cell? ⟨w.heap.size, 1, none⟩ = some (.int .i64 t) ∧ W.cell? ⟨w.heap.size, 2, none⟩ = some (.slice tp tr.length tc) ∧ W.cell? ⟨w.heap.size, 3, none⟩ = some (.int .i64 c) ∧ W.cell? ⟨w.heap.size, 4, none⟩ = some (.slice lp li.length lc) ∧ W.cell? ⟨w.heap.size, 5, none⟩ = some (.slice kp lk.length kc) := by
    intro W hB
    have g1 := (hB.block _ hg).trans gA
    refine ⟨?_, ?_, ?_, ?_, ?_, ?_⟩ <;> (rw [cell_of_row _ _ _ _ _ _ g1]; rfl)
  have k1 := h1.later bA
  have k2 := h2.later bA
  have k3 := h3.later bA
  have HE : Hid (∀ A, A = (((([] ++ numL (clampN e)) ++ numL (clampN t)) ++ putL [tr]) ++ numL (clampN c)) ++ putL [li] ++ putL lk → A = encL ⟨e, t, c, tr, li, lk⟩) := by
    intro A hA
    rw [hA]
    simp [encL, putL_one]
  have n1 := numL_le e
  have n2 := numL_le t
  have n3 := numL_le c
  have p1 := putL_len [tr] (by simpa using htr)
  have p2 := putL_len [li] (by simpa using hli)
  simp only [List.length_cons, List.length_nil] at p1 p2
  clear h1 h2 h3 hTD gA q1 q2 q3 q4 q5 q6 q7 q8
  go_enter Tryd.func51, Tryd.ntmps51
  go_wp2_with fail
  rw [← hV]
  refine hC.mono ?_
  rintro x w1 ⟨rfl, hb1⟩
  clear hC hV
  obtain ⟨c0, c1, c2, c3, c4, c5⟩ := hcells w1 hb1
  have hU := cuint_hb (.slice none 0 0) [] e w1 (HB.nil _) (by simp)
  go_wp2_with fail
  refine hU.mono ?_
  rintro x w2 ⟨p2', cc2, rfl, hh2, hb2'⟩
  have hb2 := hb1.trans (hb2'.mono hb1.size)
  clear hU c0 c1 c2 c3 c4 c5 hb1 hb2'
  obtain ⟨c0, c1, c2, c3, c4, c5⟩ := hcells w2 hb2
  have hl2 : ([] ++ numL (clampN e)).length ≤ 9 := by simpa using n1
  have HF2 : Hid ([] ++ numL (clampN e) = [] ++ numL (clampN e)) := rfl
  generalize hF2 : [] ++ numL (clampN e) = F2 at hh2 hl2 HE ⊢
  clear hF2 HF2 n1
  have hU := cuint_hb _ F2 t w2 hh2 (by omega)
  go_wp2_with fail
  refine hU.mono ?_
  rintro x w3 ⟨p3', cc3, rfl, hh3, hb3'⟩
  have hb3 := hb2.trans (hb3'.mono hb2.size)
  clear hU c0 c1 c2 c3 c4 c5 hb2 hb3' hh2
  obtain ⟨c0, c1, c2, c3, c4, c5⟩ := hcells w3 hb3
  have hl3 : (F2 ++ numL (clampN t)).length ≤ 18 := by rw [List.length_append]; omega
  generalize hF3 : F2 ++ numL (clampN t) = F3 at hh3 hl3 HE ⊢
  clear hF3 n2 hl2
  have bB3 := hb3.alloc hb3.size (.cells #[.slice tp tr.length tc] 22)
  have bC3 := (Below.refl w3.heap.size w3).alloc (Nat.le_refl _) (.cells #[.slice tp tr.length tc] 22)
  have hP := rput_any _ _ F3 [tr] _ (hh3.later bC3) (PA.one' w3 _ tr (k1.later hb3)) (by omega) (by simp) (by simpa using htr)
  go_wp2_with fail
  refine hP.mono ?_
  rintro x w4 ⟨v4, rfl, hh4, hb4'⟩
  have hb4 := bB3.trans (hb4'.mono bB3.size)
  clear hP c0 c1 c2 c3 c4 c5 hb3 hb4' hh3 bB3 bC3
  obtain ⟨c0, c1, c2, c3, c4, c5⟩ := hcells w4 hb4
  have hl4 : (F3 ++ putL [tr]).length ≤ 100 := by rw [List.length_append]; omega
  generalize hF4 : F3 ++ putL [tr] = F4 at hh4 hl4 HE ⊢
  clear hF4 p1 hl3
  have hU := cuint_hb _ F4 c w4 hh4 (by omega)
  go_wp2_with fail
  refine hU.mono ?_
  rintro x w5 ⟨p5', cc5, rfl, hh5, hb5'⟩
  have hb5 := hb4.trans (hb5'.mono hb4.size)
  clear hU c0 c1 c2 c3 c4 c5 hb4 hb5' hh4
  obtain ⟨c0, c1, c2, c3, c4, c5⟩ := hcells w5 hb5
  have hl5 : (F4 ++ numL (clampN c)).length ≤ 120 := by rw [List.length_append]; omega
  generalize hF5 : F4 ++ numL (clampN c) = F5 at hh5 hl5 HE ⊢
  clear hF5 n3 hl4
  have bB5 := hb5.alloc hb5.size (.cells #[.slice lp li.length lc] 22)
  have bC5 := (Below.refl w5.heap.size w5).alloc (Nat.le_refl _) (.cells #[.slice lp li.length lc] 22)
  have hP := rput_any _ _ F5 [li] _ (hh5.later bC5) (PA.one' w5 _ li (k2.later hb5)) (by omega) (by simp) (by simpa using hli)
  go_wp2_with fail
  refine hP.mono ?_
  rintro x w6 ⟨v6, rfl, hh6, hb6'⟩
  have hb6 := bB5.trans (hb6'.mono bB5.size)
  clear hP c0 c1 c2 c3 c4 c5 hb5 hb6' hh5 bB5 bC5
  obtain ⟨c0, c1, c2, c3, c4, c5⟩ := hcells w6 hb6
  have hl6 : (F5 ++ putL [li]).length ≤ 200 := by rw [List.length_append]; omega
  generalize hF6 : F5 ++ putL [li] = F6 at hh6 hl6 HE ⊢
  clear hF6 p2 hl5
  have hP := rput_any _ _ F6 lk _ hh6 (k3.later hb6) (by omega) (by omega) hlz
  go_wp2_with fail
  refine hP.mono ?_
  rintro x w7 ⟨v7, rfl, hh7, hb7'⟩
  have hb7 := bA.trans ((hb6.trans (hb7'.mono hb6.size)).mono bA.size)
  rw [HE.out _ rfl] at hh7
  clear hP c0 c1 c2 c3 c4 c5 hb6 hb7' hh6 hcells HE
  go_wp2
  go_ret2
  exact ⟨_, rfl, hh7, hb7⟩

end Go.Proofs.YtpndpmkoegmbkaaDoor

namespace Go.Proofs.YtpndpmkoegmbkaaDoor
open Go.RowKit

def natOf : Value → Nat | .int _ i => i.toNat | _ => 0

/-- One byte in a new block is a row that the call owns. -/
theorem owns_one (w : World) (base : Nat) (e : TypeId) (y : UInt8) (V : Value) (hV : V = bc y) (hb : base ≤ w.heap.size) : (w.alloc (.cells #[V] e)).ownsRow base e 1 (.slice (some ⟨w.heap.size, 0, none⟩) 1 1) 1 (bcs [y]) := by
  subst hV
  exact ⟨rfl, .inr ⟨w.heap.size, 1, #[bc y], rfl, hb, heap_alloc_new w _, Nat.le_refl _, by unfold maxLen; omega, rfl, rfl⟩⟩

theorem low_byte (m : Nat) : Value.int .u8 ((m : Int) % 256) = bc (UInt8.ofNat m) := by
  unfold bc
  rw [show (m : Int) % 256 = ((m % 256 : Nat) : Int) by omega]
  simp

set_option maxRecDepth 100000 in
set_option maxHeartbeats 2000000 in
theorem ruint_any (v : Value) (l : List UInt8) (n : Int) (w : World) (h : HB w v l) (hbig : l.length ≤ 140737488355300) :
    Calls Tryd.prog 43 #[v, .int .i64 n] w fun e w' => ∃ p c, e = .returned (.slice p (l ++ numL (clampN n)).length c) ∧ w'.ownsRow w.heap.size 5 1 (.slice p (l ++ numL (clampN n)).length c) (l ++ numL (clampN n)).length (bcs (l ++ numL (clampN n))) ∧ Below w.heap.size w w' := by
  obtain ⟨p, c, rfl⟩ := h.shape
  obtain ⟨i0, hi, hz0, hz1, hz2⟩ := info_parts i_u8
  have hNle := clampN_le n
  have hcl : max 0 (min n 4611686018427387904) = (clampN n : Int) := by unfold clampN; omega
  generalize clampN n = N at *
  have hc8 := cnt_le8 N (by omega)
  have HNL : Hid (numL N = UInt8.ofNat (ndigs N).length :: ndigs N) := by show _ = _; unfold numL; rw [ndigs_length]
  have hdl : (ndigs N).length ≤ 8 := by rw [ndigs_length]; exact hc8
  go_enter Tryd.func43, Tryd.ntmps43
  go_wp2
  go_loopw [1, 5] (fun i v wr => ∃ (m : Nat) (L : List UInt8) (p5 : Option Addr) (c5 : Nat), m ≤ N ∧ i = .int .i64 (m : Int) ∧ v = .slice p5 L.length c5 ∧ HB wr (.slice p5 L.length c5) L ∧ ndigs N = ndigs m ++ L ∧ Below w.heap.size w wr)
    (fun i _ _ => natOf i)
  case atStart => exact ⟨N, [], none, 0, Nat.le_refl _, rfl, rfl, HB.nil _, by simp, Below.refl _ _⟩
  case round =>
    obtain ⟨m, L, p5, c5, hmN, rfl, rfl, hL, hdig, hbe⟩ := hrel
    have hsz := hbe.size
    have hLl : L.length ≤ 8 := by
      have := congrArg List.length hdig
      rw [List.length_append] at this
      omega
    by_cases hm : 0 < m
    · have HD : Hid (ndigs N = ndigs (m / 256) ++ (UInt8.ofNat m :: L)) := by
        show _ = _
        rw [hdig, ndigs_step m (by omega) (by omega)]
        simp
      have hm2 : (0 : Int) < (m : Int) := by omega
      have hown0 := owns_one wr w.heap.size 5 (UInt8.ofNat m) _ (low_byte m) hsz
      have hL0 := hL.later ((Below.refl _ wr).alloc (Nat.le_refl _) (.cells #[Value.int .u8 ((m : Int) % 256)] 5))
      clear hdig hL h HNL
      go_wp2_with (first | (at_builtin; refine wpList_append_hb rfl (.tmp 14) (.tmp 15) 22 rfl w.heap.size 5 Tryd.underlying22 i_u8 _ _ _ rfl hown0 _ _ _ L rfl hL0 ?sa ?sb ?_))
      case sa => omega
      case sb => simp; omega
      intro v2 w2 hown2 hgrow2
      have hb2 : Below w.heap.size w w2 := (hbe.alloc hsz _).grown hgrow2 (by simp; omega) (by intro k hk; cases hk; exact hsz)
      have hh : HB w2 v2 (UInt8.ofNat m :: L) := by
        rw [← bcs_append] at hown2
        exact HB.of_owns hown2
      obtain ⟨p2, c2, rfl⟩ := hh.shape
      have HH : Hid (HB w2 (.slice p2 (UInt8.ofNat m :: L).length c2) (UInt8.ofNat m :: L)) := hh
      clear hgrow2 hown2 hown0 hL0 hbe hh
      go_wp2
      exact ⟨⟨m / 256, UInt8.ofNat m :: L, p2, c2, by omega, by rw [show ((m / 256 : Nat) : Int) = (m : Int) / 256 by omega], rfl, HH.out, HD.out, hb2⟩, by simp [natOf]; omega⟩
    · obtain rfl : m = 0 := by omega
      rw [ndigs_zero, List.nil_append] at hdig
      rw [hdig] at HNL
      have hl1 := h.later hbe
      have h2 : HB (wr.alloc (.cells #[] 5)) (.slice p l.length c) l := hl1.later ((Below.refl _ wr).alloc (Nat.le_refl _) _)
      have hb1 : Below w.heap.size w (wr.alloc (.cells #[] 5)) := hbe.alloc hsz _
      have hL1 : HB (wr.alloc (.cells #[] 5)) (.slice p5 L.length c5) L := hL.later ((Below.refl _ wr).alloc (Nat.le_refl _) _)
      clear hdig h hl1 hmN
      go_wp2_with (first | (at_builtin; refine wpList_append_hb rfl (.tmp 19) (.tmp 20) 22 rfl wr.heap.size 5 Tryd.underlying22 i_u8 _ 0 [] rfl (World.ownsRow_made wr #[] 0 (Nat.le_refl _) (Nat.zero_le _) rfl) _ _ _ l rfl h2 ?qa ?qb ?_))
      case qa => omega
      case qb => simp
      intro v3 w3 hown3 hgrow3
      have hbr3 : Below wr.heap.size wr w3 := ((Below.refl _ wr).alloc (Nat.le_refl _) _).grown hgrow3 (by simp) (by intro k hk; cases hk; exact Nat.le_refl _)
      have hb3 : Below w.heap.size w w3 := hbe.trans (hbr3.mono hsz)
      have hs3 := hb3.size
      have hown3' : w3.ownsRow wr.heap.size 5 1 v3 l.length (bcs l) := by simpa using hown3
      obtain ⟨p3, c3, rfl⟩ := owns_shape hown3'
      have hsr3 := hbr3.size
      clear hown3 hgrow3 h2 hL1 hb1
      have HV : Hid (Value.int .u8 (L.length : Int) = bc (UInt8.ofNat L.length)) := by show Value.int .u8 (L.length : Int) = bc (UInt8.ofNat L.length); simp [bc]; omega
      go_wp2_with (first | (at_builtin; refine wpList_append_own _ rfl (.tmp 21) (.tmp 25) 22 rfl wr.heap.size 5 i0 (.int .u8 0) 1 1 Tryd.underlying22 hi hz0 hz1 hz2 rfl (by decide) _ _ _ rfl (hown3'.alloc _) ⟨w3.heap.size, 0, none⟩ 1 1 [.int .u8 (L.length : Int)] rfl rfl ?ua ?ub ?uc ?ud ?ue ?_))
      case ua => exact cell_one_new _ _ _
      case ub => intro u hu; simp at hu; subst hu; rfl
      case uc => unfold maxLen; omega
      case ud => omega
      case ue => simp; omega
      intro v4 w4 hown4 hgrow4 _
      have hbr4 : Below wr.heap.size wr w4 := (hbr3.alloc hsr3 _).grown hgrow4 (by simp; omega) (fun k hk => (hown3'.lt k hk).1)
      have hL4 := hL.later hbr4
      have hb4 : Below w.heap.size w w4 := hbe.trans (hbr4.mono hsz)
      have hsr4 := hbr4.size
      have hs4 := hb4.size
      rw [HV.out, show bcs l ++ [bc (UInt8.ofNat L.length)] = bcs (l ++ [UInt8.ofNat L.length]) by simp [bcs]] at hown4
      obtain ⟨p4, c4, rfl⟩ := owns_shape hown4
      clear hgrow4 hown3' hbr3 hb3 hs3 HV hL hbe
      go_wp2_with (first | (at_builtin; refine wpList_append_hb rfl (.tmp 27) (.tmp 28) 22 rfl wr.heap.size 5 Tryd.underlying22 i_u8 _ _ _ rfl hown4 _ _ _ L rfl hL4 ?ra ?rb ?_))
      case ra => omega
      case rb => exact hsr4
      intro v5 w5 hown5 hgrow5
      have hb5 : Below w.heap.size w w5 := hb4.grown hgrow5 hs4 (fun k hk => Nat.le_trans hsz (hown4.lt k hk).1)
      have HE : Hid (l ++ [UInt8.ofNat L.length] ++ L = l ++ numL N) := by show _ = _; rw [HNL.out]; simp
      have HQ : Hid ((l ++ numL N).length = l.length + 1 + L.length) := by show _ = _; rw [← HE.out]; simp; omega
      rw [← bcs_append, HE.out, ← HQ.out] at hown5
      have hown6 := owns_mono hown5 hsz
      obtain ⟨p6, c6, rfl⟩ := owns_shape hown6
      have H6 : Hid (w5.ownsRow w.heap.size 5 1 (.slice p6 (l ++ numL N).length c6) (l ++ numL N).length (bcs (l ++ numL N))) := hown6
      clear hgrow5 hown4 hown5 hown6 hL4 hb4 HE HQ
      go_wp2
      go_ret
      exact ⟨_, _, rfl, H6.out, hb5⟩

set_option maxRecDepth 100000 in
set_option maxHeartbeats 1000000 in
theorem rbytes_any (v u : Value) (l s : List UInt8) (w : World) (h : HB w v l) (hs : HB w u s) (hbig : l.length + s.length ≤ 140737488355200) :
    Calls Tryd.prog 44 #[v, u] w fun e w' => ∃ p c, e = .returned (.slice p (l ++ bytesL s).length c) ∧ w'.ownsRow w.heap.size 5 1 (.slice p (l ++ bytesL s).length c) (l ++ bytesL s).length (bcs (l ++ bytesL s)) ∧ Below w.heap.size w w' := by
  obtain ⟨p, c, rfl⟩ := h.shape
  obtain ⟨q, d, rfl⟩ := hs.shape
  have hc9 := cnt_le8 s.length (by omega)
  have HR : Hid ((l ++ numL s.length) ++ s = l ++ bytesL s) := by show _ = _; unfold bytesL; simp
  have HRL : Hid ((l ++ numL s.length).length ≤ l.length + 9) := by show _ ≤ _; rw [List.length_append, numL_length]; omega
  have HQ : Hid ((l ++ bytesL s).length = (l ++ numL s.length).length + s.length) := by show _ = _; rw [← HR.out, List.length_append]
  have hc := ruint_any _ l (s.length : Int) w h (by omega)
  rw [clampN_nat s.length (by omega)] at hc
  generalize hM : l ++ bytesL s = M at HR HQ ⊢
  generalize l ++ numL s.length = R at *
  clear hM h hc9
  go_enter Tryd.func44, Tryd.ntmps44
  go_wp2_with fail
  refine hc.mono ?_
  rintro e w2 ⟨p2, c2, rfl, hown2, hb02⟩
  have hs2 := hs.later hb02
  have hsz := hb02.size
  clear hc hs
  go_wp2_with (first | (at_builtin; refine wpList_append_hb rfl (.tmp 8) (.tmp 9) 22 rfl w.heap.size 5 Tryd.underlying22 i_u8 _ _ _ rfl hown2 _ _ _ s rfl hs2 ?sa ?sb ?_))
  case sa => have := HRL.out; omega
  case sb => exact hsz
  intro v3 w3 hown3 hgrow3
  have hb3 : Below w.heap.size w w3 := hb02.grown hgrow3 hsz (fun k hk => (hown2.lt k hk).1)
  rw [← bcs_append, HR.out, ← HQ.out] at hown3
  obtain ⟨p3, c3, rfl⟩ := owns_shape hown3
  clear hgrow3 hown2 hs2 hb02
  go_wp2
  go_ret
  exact ⟨_, _, rfl, hown3, hb3⟩

end Go.Proofs.YtpndpmkoegmbkaaDoor

namespace Go.Proofs.YtpndpmkoegmbkaaDoor
open Go.RowKit

theorem ruint_hb (v : Value) (l : List UInt8) (n : Int) (w : World) (h : HB w v l) (hbig : l.length ≤ 1048576) :
    Calls Tryd.prog 43 #[v, .int .i64 n] w fun e w' => ∃ p c, e = .returned (.slice p (l ++ numL (clampN n)).length c) ∧ HB w' (.slice p (l ++ numL (clampN n)).length c) (l ++ numL (clampN n)) ∧ Below w.heap.size w w' :=
  (ruint_any v l n w h (by omega)).mono fun _ _ ⟨p, c, e1, e2, e3⟩ => ⟨p, c, e1, HB.of_owns e2, e3⟩

theorem rbytes_hb (v u : Value) (l s : List UInt8) (w : World) (h : HB w v l) (hs : HB w u s) (hbig : l.length + s.length ≤ 1048576) :
    Calls Tryd.prog 44 #[v, u] w fun e w' => ∃ p c, e = .returned (.slice p (l ++ bytesL s).length c) ∧ HB w' (.slice p (l ++ bytesL s).length c) (l ++ bytesL s) ∧ Below w.heap.size w w' :=
  (rbytes_any v u l s w h hs (by omega)).mono fun _ _ ⟨p, c, e1, e2, e3⟩ => ⟨p, c, e1, HB.of_owns e2, e3⟩

set_option maxRecDepth 100000 in
set_option maxHeartbeats 2000000 in
theorem rencode_no (size e t c : Int) (tv lv kv : Value) (tr li : List UInt8) (lk : List (List UInt8)) (w : World) (h1 : HB w tv tr) (h2 : HB w lv li) (h3 : PA w kv lk) (hcan : canB size ⟨e, t, c, tr, li, lk⟩ = false) :
    Calls Tryd.prog 25 #[.int .i64 size, .agg #[.int .i64 e, .int .i64 t, tv, .int .i64 c, lv, kv]] w fun x w' => x = .returned (.tuple #[.slice none 0 0, .int .i64 1]) ∧ Below w.heap.size w w' := by
  have bA := (Below.refl w.heap.size w).alloc (Nat.le_refl _) (.cells #[.int .i64 e, .int .i64 t, tv, .int .i64 c, lv, kv] 25)
  have hC := rcan_any size e t c tv lv kv tr li lk _ (h1.later bA) (h2.later bA) (h3.later bA)
  rw [hcan] at hC
  obtain ⟨tp, tc, rfl⟩ := h1.shape
  obtain ⟨lp, lc, rfl⟩ := h2.shape
  obtain ⟨kp, kc, rfl⟩ := h3.shape
  clear h1 h2 h3 hcan
  go_enter Tryd.func25, Tryd.ntmps25
  go_wp2_with fail
  refine hC.mono ?_
  rintro x w1 ⟨rfl, hb1⟩
  have hb := bA.trans (hb1.mono bA.size)
  clear hC bA hb1
  go_wp2
  go_ret2
  exact ⟨rfl, hb⟩

set_option maxRecDepth 100000 in
set_option maxHeartbeats 8000000 in
theorem rencode_yes (size e t c : Int) (tv lv kv : Value) (tr li : List UInt8) (lk : List (List UInt8)) (w : World) (h1 : HB w tv tr) (h2 : HB w lv li) (h3 : PA w kv lk) (hcan : canB size ⟨e, t, c, tr, li, lk⟩ = true) :
    Calls Tryd.prog 25 #[.int .i64 size, .agg #[.int .i64 e, .int .i64 t, tv, .int .i64 c, lv, kv]] w fun x w' => ∃ v, x = .returned (.tuple #[v, .int .i64 0]) ∧ HB w' v (encL ⟨e, t, c, tr, li, lk⟩) ∧ Below w.heap.size w w' := by
  have bA := (Below.refl w.heap.size w).alloc (Nat.le_refl _) (.cells #[.int .i64 e, .int .i64 t, tv, .int .i64 c, lv, kv] 25)
  have gA := heap_alloc_new w (.cells #[.int .i64 e, .int .i64 t, tv, .int .i64 c, lv, kv] 25)
  have hC := rcan_any size e t c tv lv kv tr li lk _ (h1.later bA) (h2.later bA) (h3.later bA)
  rw [hcan] at hC
  obtain ⟨q1, q2, q3, q4, q5, q6, q7, q8, q9, q10, q11, q12⟩ := (canB_iff _ _).1 hcan
  dsimp only at q3 q4 q5 q6 q7 q8 q9 q10 q11 q12
  have hlk63 : lk.length ≤ 63 := by rw [q9]; exact linksL_len _ (by omega)
  have hlz := sized_le q12 q2
  have htr : tr.length ≤ 32 := by omega
  have hli : li.length ≤ 32 := by omega
  clear q9 q10 q11 q12 hcan
  obtain ⟨tp, tc, rfl⟩ := h1.shape
  obtain ⟨lp, lc, rfl⟩ := h2.shape
  obtain ⟨kp, kc, rfl⟩ := h3.shape
  obtain ⟨V, hV⟩ : ∃ V, V = w.alloc (.cells #[.int .i64 e, .int .i64 t, .slice tp tr.length tc, .int .i64 c, .slice lp li.length lc, .slice kp lk.length kc] 25) := ⟨_, rfl⟩
  rw [← hV] at bA gA hC
  have hg : w.heap.size < V.heap.size := (Array.getElem?_eq_some_iff.1 gA).1
  have hcells : ∀ W, Below V.heap.size V W → W.cell? ⟨w.heap.size, 0, none⟩ = some (.int .i64 e) ∧ W.cell? ⟨w.heap.size, 1, none⟩ = some (.int .i64 t) ∧ W.cell? ⟨w.heap.size, 2, none⟩ = some (.slice tp tr.length tc) ∧ W.cell? ⟨w.heap.size, 3, none⟩ = some (.int .i64 c) ∧ W.cell? ⟨w.heap.size, 4, none⟩ = some (.slice lp li.length lc) ∧ W.cell? ⟨w.heap.size, 5, none⟩ = some (.slice kp lk.length kc) := by
    intro W hB
    have g1 := (hB.block _ hg).trans gA
    refine ⟨?_, ?_, ?_, ?_, ?_, ?_⟩ <;> (rw [cell_of_row _ _ _ _ _ _ g1]; rfl)
  have k1 := h1.later bA
  have k2 := h2.later bA
  have k3 := h3.later bA
  have HE : Hid (∀ A, A = (((([] ++ numL (clampN e)) ++ numL (clampN t)) ++ bytesL tr) ++ numL (clampN c)) ++ bytesL li ++ putL lk → A = encL ⟨e, t, c, tr, li, lk⟩) := by
    intro A hA
    rw [hA]
    simp [encL]
  have n1 := numL_le e
  have n2 := numL_le t
  have n3 := numL_le c
  have p1 := bytesL_len tr htr
  have p2 := bytesL_len li hli
  clear h1 h2 h3 gA q1 q2 q3 q4 q5 q6 q7 q8
  go_enter Tryd.func25, Tryd.ntmps25
  go_wp2_with fail
  rw [← hV]
  refine hC.mono ?_
  rintro x w1 ⟨rfl, hb1⟩
  clear hC hV
  go_wp2
  have bD : Below V.heap.size V w1.drew := hb1.drew
  have hHeld := hcells w1.drew bD
  refine wp_region_heldN (by kernel_rfl) (fun W => W.cell? ⟨w.heap.size, 0, none⟩ = some (.int .i64 e) ∧ W.cell? ⟨w.heap.size, 1, none⟩ = some (.int .i64 t) ∧ W.cell? ⟨w.heap.size, 2, none⟩ = some (.slice tp tr.length tc) ∧ W.cell? ⟨w.heap.size, 3, none⟩ = some (.int .i64 c) ∧ W.cell? ⟨w.heap.size, 4, none⟩ = some (.slice lp li.length lc) ∧ W.cell? ⟨w.heap.size, 5, none⟩ = some (.slice kp lk.length kc)) 7 rfl ?_
  refine tkY 0 ⟨some 13, .fieldAddr 25 (.tmp 3) 0, 0, "ref.go:38", #[], none⟩ ?v0z1 hHeld ?y0z1 ?r0z1
  case y0z1 => (intro w hSw; (try dsimp only at hSw); go_simp) <;> with_reducible rfl
  try simp only [Act.put, List.setIfInBounds_toArray, List.set_cons_zero, List.set_cons_succ]
  refine tkY 1 ⟨some 14, .load 3 (.tmp 13), 3, "ref.go:38", #[⟨0, .data⟩], none⟩ ?v1z2 hHeld ?y1z2 ?r1z2
  case y1z2 => (intro w hSw; (try dsimp only at hSw); go_simp) <;> with_reducible rfl
  try simp only [Act.put, List.setIfInBounds_toArray, List.set_cons_zero, List.set_cons_succ]
  refine tkY 3 ⟨some 16, .fieldAddr 25 (.tmp 3) 1, 0, "ref.go:38", #[], none⟩ ?v3z3 hHeld ?y3z3 ?r3z3
  case y3z3 => (intro w hSw; (try dsimp only at hSw); go_simp) <;> with_reducible rfl
  try simp only [Act.put, List.setIfInBounds_toArray, List.set_cons_zero, List.set_cons_succ]
  refine tkY 4 ⟨some 17, .load 3 (.tmp 16), 3, "ref.go:38", #[⟨3, .data⟩], none⟩ ?v4z4 hHeld ?y4z4 ?r4z4
  case y4z4 => (intro w hSw; (try dsimp only at hSw); go_simp) <;> with_reducible rfl
  try simp only [Act.put, List.setIfInBounds_toArray, List.set_cons_zero, List.set_cons_succ]
  refine wpAnyH_ready (rs := [2]) (by kernel_rfl) (by simp) ?_
  refine AllReadyH.cons (o := ⟨some 15, .call { callee := .value (.func 43), args := #[.const (.slice none 0 0), .tmp 14], argTypes := #[22, 3] }, 22, "ref.go:38", #[⟨1, .data⟩], none⟩) rfl (fun K hK => ?_) AllReadyH.nil
  go_simp
  refine (ruint_hb (.slice none 0 0) [] e _ (HB.nil _) (by simp)).mono ?_
  rintro x w2 ⟨p2', cc2, rfl, hh2, hb2'⟩
  have hb2 := bD.trans (hb2'.mono bD.size)
  replace hHeld := hcells w2 hb2
  have hl2 : ([] ++ numL (clampN e)).length ≤ 9 := by simpa using n1
  generalize hF2 : [] ++ numL (clampN e) = F2 at hh2 hl2 HE ⊢
  clear hF2 n1
  refine hK.out _ _ ?_ (fun _ => ?_)
  · exact hHeld
  clear hK K
  try simp only [Act.put, List.setIfInBounds_toArray, List.set_cons_zero, List.set_cons_succ]
  refine wpAnyH_ready (rs := [5]) (by kernel_rfl) (by simp) ?_
  refine AllReadyH.cons (o := ⟨some 18, .call { callee := .value (.func 43), args := #[.tmp 15, .tmp 17], argTypes := #[22, 3] }, 22, "ref.go:38", #[⟨2, .data⟩, ⟨4, .data⟩, ⟨2, .chain⟩], none⟩) rfl (fun K hK => ?_) AllReadyH.nil
  go_simp
  refine (ruint_hb _ F2 t _ hh2 (by omega)).mono ?_
  rintro x w3 ⟨p3', cc3, rfl, hh3, hb3'⟩
  have hb3 := hb2.trans (hb3'.mono hb2.size)
  replace hHeld := hcells w3 hb3
  have hl3 : (F2 ++ numL (clampN t)).length ≤ 18 := by rw [List.length_append]; omega
  generalize hF3 : F2 ++ numL (clampN t) = F3 at hh3 hl3 HE ⊢
  clear hF3 n2
  refine hK.out _ _ ?_ (fun _ => ?_)
  · exact hHeld
  clear hK K
  try simp only [Act.put, List.setIfInBounds_toArray, List.set_cons_zero, List.set_cons_succ]
  refine tkY 6 ⟨some 6, .assign (.tmp 18), 22, "ref.go:38", #[⟨5, .data⟩, ⟨5, .chain⟩, ⟨0, .phase⟩, ⟨1, .phase⟩, ⟨2, .phase⟩, ⟨3, .phase⟩, ⟨4, .phase⟩, ⟨5, .phase⟩], none⟩ ?v6z5 hHeld ?y6z5 ?r6z5
  case y6z5 => (intro w hSw; (try dsimp only at hSw); go_simp) <;> with_reducible rfl
  try simp only [Act.put, List.setIfInBounds_toArray, List.set_cons_zero, List.set_cons_succ]
  refine wpAnyH_done (by kernel_rfl) ?_ _
  go_wp2
  have bE : Below V.heap.size V w3.drew := hb3.drew
  have bE' : Below w3.heap.size w3 w3.drew := (Below.refl _ w3).drew
  replace hHeld := hcells w3.drew bE
  refine wp_region_heldN (by kernel_rfl) (fun W => W.cell? ⟨w.heap.size, 0, none⟩ = some (.int .i64 e) ∧ W.cell? ⟨w.heap.size, 1, none⟩ = some (.int .i64 t) ∧ W.cell? ⟨w.heap.size, 2, none⟩ = some (.slice tp tr.length tc) ∧ W.cell? ⟨w.heap.size, 3, none⟩ = some (.int .i64 c) ∧ W.cell? ⟨w.heap.size, 4, none⟩ = some (.slice lp li.length lc) ∧ W.cell? ⟨w.heap.size, 5, none⟩ = some (.slice kp lk.length kc)) 8 rfl ?_
  refine tkY 0 ⟨some 19, .move (.tmp 6), 22, "ref.go:39", #[], none⟩ ?v0z6 hHeld ?y0z6 ?r0z6
  case y0z6 => (intro w hSw; (try dsimp only at hSw); go_simp) <;> with_reducible rfl
  try simp only [Act.put, List.setIfInBounds_toArray, List.set_cons_zero, List.set_cons_succ]
  refine tkY 1 ⟨some 20, .fieldAddr 25 (.tmp 3) 2, 0, "ref.go:39", #[], none⟩ ?v1z7 hHeld ?y1z7 ?r1z7
  case y1z7 => (intro w hSw; (try dsimp only at hSw); go_simp) <;> with_reducible rfl
  try simp only [Act.put, List.setIfInBounds_toArray, List.set_cons_zero, List.set_cons_succ]
  refine tkY 2 ⟨some 21, .load 22 (.tmp 20), 22, "ref.go:39", #[⟨1, .data⟩], none⟩ ?v2z8 hHeld ?y2z8 ?r2z8
  case y2z8 => (intro w hSw; (try dsimp only at hSw); go_simp) <;> with_reducible rfl
  try simp only [Act.put, List.setIfInBounds_toArray, List.set_cons_zero, List.set_cons_succ]
  refine tkY 4 ⟨some 23, .fieldAddr 25 (.tmp 3) 3, 0, "ref.go:39", #[], none⟩ ?v4z9 hHeld ?y4z9 ?r4z9
  case y4z9 => (intro w hSw; (try dsimp only at hSw); go_simp) <;> with_reducible rfl
  try simp only [Act.put, List.setIfInBounds_toArray, List.set_cons_zero, List.set_cons_succ]
  refine tkY 5 ⟨some 24, .load 3 (.tmp 23), 3, "ref.go:39", #[⟨4, .data⟩], none⟩ ?v5z10 hHeld ?y5z10 ?r5z10
  case y5z10 => (intro w hSw; (try dsimp only at hSw); go_simp) <;> with_reducible rfl
  try simp only [Act.put, List.setIfInBounds_toArray, List.set_cons_zero, List.set_cons_succ]
  refine wpAnyH_ready (rs := [3]) (by kernel_rfl) (by simp) ?_
  refine AllReadyH.cons (o := ⟨some 22, .call { callee := .value (.func 44), args := #[.tmp 19, .tmp 21], argTypes := #[22, 22] }, 22, "ref.go:39", #[⟨0, .data⟩, ⟨2, .data⟩], none⟩) rfl (fun K hK => ?_) AllReadyH.nil
  go_simp
  refine (rbytes_hb _ _ F3 tr _ (hh3.later bE') (k1.later bE) (by omega)).mono ?_
  rintro x w4 ⟨p4', cc4, rfl, hh4, hb4'⟩
  have hb4 := bE.trans (hb4'.mono bE.size)
  replace hHeld := hcells w4 hb4
  have hl4 : (F3 ++ bytesL tr).length ≤ 100 := by rw [List.length_append]; omega
  generalize hF4 : F3 ++ bytesL tr = F4 at hh4 hl4 HE ⊢
  clear hF4 p1
  refine hK.out _ _ ?_ (fun _ => ?_)
  · exact hHeld
  clear hK K
  try simp only [Act.put, List.setIfInBounds_toArray, List.set_cons_zero, List.set_cons_succ]
  refine wpAnyH_ready (rs := [6]) (by kernel_rfl) (by simp) ?_
  refine AllReadyH.cons (o := ⟨some 25, .call { callee := .value (.func 43), args := #[.tmp 22, .tmp 24], argTypes := #[22, 3] }, 22, "ref.go:39", #[⟨3, .data⟩, ⟨5, .data⟩, ⟨3, .chain⟩], none⟩) rfl (fun K hK => ?_) AllReadyH.nil
  go_simp
  refine (ruint_hb _ F4 c _ hh4 (by omega)).mono ?_
  rintro x w5 ⟨p5', cc5, rfl, hh5, hb5'⟩
  have hb5 := hb4.trans (hb5'.mono hb4.size)
  replace hHeld := hcells w5 hb5
  have hl5 : (F4 ++ numL (clampN c)).length ≤ 120 := by rw [List.length_append]; omega
  generalize hF5 : F4 ++ numL (clampN c) = F5 at hh5 hl5 HE ⊢
  clear hF5 n3
  refine hK.out _ _ ?_ (fun _ => ?_)
  · exact hHeld
  clear hK K
  try simp only [Act.put, List.setIfInBounds_toArray, List.set_cons_zero, List.set_cons_succ]
  refine tkY 7 ⟨some 6, .assign (.tmp 25), 22, "ref.go:39", #[⟨6, .data⟩, ⟨6, .chain⟩, ⟨0, .phase⟩, ⟨1, .phase⟩, ⟨2, .phase⟩, ⟨3, .phase⟩, ⟨4, .phase⟩, ⟨5, .phase⟩, ⟨6, .phase⟩], none⟩ ?v7z11 hHeld ?y7z11 ?r7z11
  case y7z11 => (intro w hSw; (try dsimp only at hSw); go_simp) <;> with_reducible rfl
  try simp only [Act.put, List.setIfInBounds_toArray, List.set_cons_zero, List.set_cons_succ]
  refine wpAnyH_done (by kernel_rfl) ?_ _
  obtain ⟨c0, c1, c2, c3, c4, c5⟩ := hHeld
  have hP := rbytes_hb _ _ F5 li w5 hh5 (k2.later hb5) (by omega)
  go_wp2_with fail
  refine hP.mono ?_
  rintro x w6 ⟨p6', cc6, rfl, hh6, hb6'⟩
  have hb6 := hb5.trans (hb6'.mono hb5.size)
  clear hP c0 c1 c2 c3 c4 c5 hb5 hb6' hh5
  obtain ⟨c0, c1, c2, c3, c4, c5⟩ := hcells w6 hb6
  have hl6 : (F5 ++ bytesL li).length ≤ 200 := by rw [List.length_append]; omega
  generalize hF6 : F5 ++ bytesL li = F6 at hh6 hl6 HE ⊢
  clear hF6 p2 hcells
  have k6 := k3.later hb6
  have bA6 := bA.trans (hb6.mono bA.size)
  clear hb6 bA k1 k2 k3
  go_wp2
  go_loopw [6, 33] (fun v i wr => ∃ k : Nat, k ≤ lk.length ∧ i = .int .i64 k ∧ HB wr v (F6 ++ putL (lk.take k)) ∧ Below w6.heap.size w6 wr) (fun _ i _ => lk.length - (intOf i).toNat)
  case atStart => exact ⟨0, Nat.zero_le _, rfl, by simpa [putL] using hh6, Below.refl _ _⟩
  case round =>
    obtain ⟨k, hk, rfl, hH, hbe⟩ := hrel
    by_cases hlt : k < lk.length
    · obtain ⟨b, o, rfl⟩ := k6.addr (by omega)
      obtain ⟨q, qc, x, hx, e1, h1⟩ := (k6.later hbe).get k hlt
      have hlt2 : (k : Int) < (lk.length : Int) := by omega
      have hx32 := hlz x (List.mem_of_getElem? hx.out)
      have hpl := putL_len (lk.take k) (fun y hy => hlz y (List.mem_of_mem_take hy))
      have htl : (lk.take k).length ≤ 63 := by simp; omega
      have hC := rbytes_hb _ _ _ _ wr hH h1 (by rw [List.length_append]; omega)
      have HM : Hid (F6 ++ putL (lk.take k) ++ bytesL x = F6 ++ putL (lk.take (k + 1))) := by
        show _ = _
        rw [List.take_add_one, hx.out]
        show _ = F6 ++ putL (lk.take k ++ [x])
        rw [putL_snoc, List.append_assoc]
      have hC' := hC.mono (R' := fun y w' => ∃ v2, y = .returned v2 ∧ HB w' v2 (F6 ++ putL (lk.take (k + 1))) ∧ Below wr.heap.size wr w') fun y w' ⟨p7, c7, e7, hv7, hb7⟩ => ⟨_, e7, by rw [← HM.out]; exact hv7, hb7⟩
      clear hx h1 hH hpl htl hx32 HE hC HM
      go_wp2_with fail
      refine hC'.mono ?_
      rintro y w7 ⟨v7, rfl, hv7, hb7⟩
      have hb8 := hbe.trans (hb7.mono hbe.size)
      clear hC' hb7
      go_wp2
      go_roundw
      case rel => first | exact ⟨k + 1, by omega, by go_num, hv7, hb8⟩ | ((repeat apply Exists.intro); exact ⟨⟨k + 1, by omega, by go_num, hv7, hb8⟩, rfl⟩)
      case measure => simp [intOf]; omega
    · rw [List.take_of_length_le (by omega), HE.out _ rfl] at hH
      have hb := bA6.trans (hbe.mono bA6.size)
      clear HE
      go_wp2
      go_ret2
      exact ⟨_, rfl, hH, hb⟩

end Go.Proofs.YtpndpmkoegmbkaaDoor
