/- What this text proves: the walk of record.Encode over this program: a record's bytes, or the error. What this text proves: the walks of the document's Uint, Bytes, Flag (annalsref04) over this program: bytes, and a number, a text, a yes or no behind them, in new memory. -/
import Derived.Test.YtgfddabccjfhiabDoorJRcCan
import Derived.Test.YtgfddabccjfhiabDoorJRv
import Derived.Test.YtgfddabccjfhiabDoorJEq
namespace Go.Proofs.YtgfddabccjfhiabDoor
open Go.RowKit

/-- A record's bytes. -/
def encL (r : Rc) : List UInt8 := numL (clampN r.e) ++ numL (clampN r.t) ++ bytesL r.tr ++ numL (clampN r.c) ++ bytesL r.li ++ putL r.lk

theorem numL_le (n : Int) : (numL (clampN n)).length ≤ 9 := by
  rw [numL_length]
  have h1 := clampN_le n
  have := cnt_le8 (clampN n) (by omega)
  omega

theorem cuint_hb (v : Value) (l : List UInt8) (n : Int) (w : World) (h : HB w v l) (hbig : l.length ≤ 1048576) :
    Calls Tryd.prog 44 #[v, .int .i64 n] w fun e w' => ∃ p c, e = .returned (.slice p (l ++ numL (clampN n)).length c) ∧ HB w' (.slice p (l ++ numL (clampN n)).length c) (l ++ numL (clampN n)) ∧ Below w.heap.size w w' :=
  (cuint_any v l n w h (by omega)).mono fun _ _ ⟨p, c, e1, e2, e3⟩ => ⟨p, c, e1, HB.of_owns e2, e3⟩

theorem PA.one' (w : World) (a : Value) (la : List UInt8) (ha : HB w a la) : PA (w.alloc (.cells #[a] 30)) (.slice (some ⟨w.heap.size, 0, none⟩) 1 1) [la] := by
  refine ⟨_, 1, [a], rfl, Nat.le_refl _, by decide, (fun h => by cases h), rfl, fun _ => ⟨_, 0, rfl, fun i x hx => ?_⟩, fun i x l hx hl => ?_⟩
  · rw [Nat.zero_add, cell_of_row _ _ i _ _ _ (heap_alloc_new w _)]
    simpa using hx
  · have hbe := (Below.refl w.heap.size w).alloc (Nat.le_refl _) (.cells #[a] 30)
    match i with
    | 0 => simp at hx hl; subst hx; subst hl; exact ha.later hbe
    | n + 1 => simp at hx

set_option maxRecDepth 100000 in
set_option maxHeartbeats 2000000 in
theorem encode_no (size e t c : Int) (tv lv kv : Value) (tr li : List UInt8) (lk : List (List UInt8)) (w : World) (h1 : HB w tv tr) (h2 : HB w lv li) (h3 : PA w kv lk) (hTD : TD w) (hcan : canB size ⟨e, t, c, tr, li, lk⟩ = false) :
    Calls Tryd.prog 40 #[.int .i64 size, .agg #[.int .i64 e, .int .i64 t, tv, .int .i64 c, lv, kv]] w fun x w' => x = .returned (.tuple #[.slice none 0 0, .int .i64 1]) ∧ Below w.heap.size w w' := by
  have bA := (Below.refl w.heap.size w).alloc (Nat.le_refl _) (.cells #[.int .i64 e, .int .i64 t, tv, .int .i64 c, lv, kv] 33)
  have hC := can_any size e t c tv lv kv tr li lk _ (h1.later bA) (h2.later bA) (h3.later bA) (hTD.later bA)
  rw [hcan] at hC
  obtain ⟨tp, tc, rfl⟩ := h1.shape
  obtain ⟨lp, lc, rfl⟩ := h2.shape
  obtain ⟨kp, kc, rfl⟩ := h3.shape
  clear h1 h2 h3 hTD hcan
  go_enter Tryd.func40, Tryd.ntmps40
  go_wp2_with fail
  refine hC.mono ?_
  rintro x w1 ⟨rfl, hb1⟩
  have hb := bA.trans (hb1.mono bA.size)
  clear hC bA hb1
  go_wp2
  go_ret2
  exact ⟨rfl, hb⟩

set_option maxRecDepth 100000 in
set_option maxHeartbeats 4000000 in
theorem encode_yes (size e t c : Int) (tv lv kv : Value) (tr li : List UInt8) (lk : List (List UInt8)) (w : World) (h1 : HB w tv tr) (h2 : HB w lv li) (h3 : PA w kv lk) (hTD : TD w) (hcan : canB size ⟨e, t, c, tr, li, lk⟩ = true) :
    Calls Tryd.prog 40 #[.int .i64 size, .agg #[.int .i64 e, .int .i64 t, tv, .int .i64 c, lv, kv]] w fun x w' => ∃ v, x = .returned (.tuple #[v, .int .i64 0]) ∧ HB w' v (encL ⟨e, t, c, tr, li, lk⟩) ∧ Below w.heap.size w w' := by
  have bA := (Below.refl w.heap.size w).alloc (Nat.le_refl _) (.cells #[.int .i64 e, .int .i64 t, tv, .int .i64 c, lv, kv] 33)
  have gA := heap_alloc_new w (.cells #[.int .i64 e, .int .i64 t, tv, .int .i64 c, lv, kv] 33)
  have hC := can_any size e t c tv lv kv tr li lk _ (h1.later bA) (h2.later bA) (h3.later bA) (hTD.later bA)
  rw [hcan] at hC
  obtain ⟨q1, q2, q3, q4, q5, q6, q7, q8, q9, q10, q11, q12⟩ := (canB_iff _ _).1 hcan
  dsimp only at q3 q4 q5 q6 q7 q8 q9 q10 q11 q12
  have hlk63 : lk.length ≤ 63 := by rw [q9]; exact linksL_len _ (by omega)
  have hlz := sized_le q12 q2
  have htr : tr.length ≤ 32 := by omega
  have hli : li.length ≤ 32 := by omega
  clear q9 q10 q11 q12 hcan
  obtain ⟨tp, tc, rfl⟩ := h1.shape
  obtain ⟨lp, lc, rfl⟩ := h2.shape
  obtain ⟨kp, kc, rfl⟩ := h3.shape
  obtain ⟨V, hV⟩ : ∃ V, V = w.alloc (.cells #[.int .i64 e, .int .i64 t, .slice tp tr.length tc, .int .i64 c, .slice lp li.length lc, .slice kp lk.length kc] 33) := ⟨_, rfl⟩
  rw [← hV] at bA gA hC
  have hg : w.heap.size < V.heap.size := (Array.getElem?_eq_some_iff.1 gA).1
  have hcells : ∀ W, Below V.heap.size V W → W.cell? ⟨w.heap.size, 0, none⟩ = some (.int .i64 e) ∧ W.cell? ⟨w.heap.size, 1, none⟩ = some (.int .i64 t) ∧ W.cell? ⟨w.heap.size, 2, none⟩ = some (.slice tp tr.length tc) ∧ W.cell? ⟨w.heap.size, 3, none⟩ = some (.int .i64 c) ∧ W.cell? ⟨w.heap.size, 4, none⟩ = some (.slice lp li.length lc) ∧ W.cell? ⟨w.heap.size, 5, none⟩ = some (.slice kp lk.length kc) := by
    intro W hB
    have g1 := (hB.block _ hg).trans gA
    refine ⟨?_, ?_, ?_, ?_, ?_, ?_⟩ <;> (rw [cell_of_row _ _ _ _ _ _ g1]; rfl)
  have k1 := h1.later bA
  have k2 := h2.later bA
  have k3 := h3.later bA
  have HE : Hid (∀ A, A = (((([] ++ numL (clampN e)) ++ numL (clampN t)) ++ putL [tr]) ++ numL (clampN c)) ++ putL [li] ++ putL lk → A = encL ⟨e, t, c, tr, li, lk⟩) := by
    intro A hA
    rw [hA]
    simp [encL, putL_one]
  have n1 := numL_le e
  have n2 := numL_le t
  have n3 := numL_le c
  have p1 := putL_len [tr] (by simpa using htr)
  have p2 := putL_len [li] (by simpa using hli)
  simp only [List.length_cons, List.length_nil] at p1 p2
  clear h1 h2 h3 hTD gA q1 q2 q3 q4 q5 q6 q7 q8
  go_enter Tryd.func40, Tryd.ntmps40
  go_wp2_with fail
  rw [← hV]
  refine hC.mono ?_
  rintro x w1 ⟨rfl, hb1⟩
  clear hC hV
  obtain ⟨c0, c1, c2, c3, c4, c5⟩ := hcells w1 hb1
  have hU := cuint_hb (.slice none 0 0) [] e w1 (HB.nil _) (by simp)
  go_wp2_with fail
  refine hU.mono ?_
  rintro x w2 ⟨p2', cc2, rfl, hh2, hb2'⟩
  have hb2 := hb1.trans (hb2'.mono hb1.size)
  clear hU c0 c1 c2 c3 c4 c5 hb1 hb2'
  obtain ⟨c0, c1, c2, c3, c4, c5⟩ := hcells w2 hb2
  have hl2 : ([] ++ numL (clampN e)).length ≤ 9 := by simpa using n1
  have HF2 : Hid ([] ++ numL (clampN e) = [] ++ numL (clampN e)) := rfl
  generalize hF2 : [] ++ numL (clampN e) = F2 at hh2 hl2 HE ⊢
  clear hF2 HF2 n1
  have hU := cuint_hb _ F2 t w2 hh2 (by omega)
  go_wp2_with fail
  refine hU.mono ?_
  rintro x w3 ⟨p3', cc3, rfl, hh3, hb3'⟩
  have hb3 := hb2.trans (hb3'.mono hb2.size)
  clear hU c0 c1 c2 c3 c4 c5 hb2 hb3' hh2
  obtain ⟨c0, c1, c2, c3, c4, c5⟩ := hcells w3 hb3
  have hl3 : (F2 ++ numL (clampN t)).length ≤ 18 := by rw [List.length_append]; omega
  generalize hF3 : F2 ++ numL (clampN t) = F3 at hh3 hl3 HE ⊢
  clear hF3 n2 hl2
  have bB3 := hb3.alloc hb3.size (.cells #[.slice tp tr.length tc] 30)
  have bC3 := (Below.refl w3.heap.size w3).alloc (Nat.le_refl _) (.cells #[.slice tp tr.length tc] 30)
  have hP := rput_any _ _ F3 [tr] _ (hh3.later bC3) (PA.one' w3 _ tr (k1.later hb3)) (by omega) (by simp) (by simpa using htr)
  go_wp2_with fail
  refine hP.mono ?_
  rintro x w4 ⟨v4, rfl, hh4, hb4'⟩
  have hb4 := bB3.trans (hb4'.mono bB3.size)
  clear hP c0 c1 c2 c3 c4 c5 hb3 hb4' hh3 bB3 bC3
  obtain ⟨c0, c1, c2, c3, c4, c5⟩ := hcells w4 hb4
  have hl4 : (F3 ++ putL [tr]).length ≤ 100 := by rw [List.length_append]; omega
  generalize hF4 : F3 ++ putL [tr] = F4 at hh4 hl4 HE ⊢
  clear hF4 p1 hl3
  have hU := cuint_hb _ F4 c w4 hh4 (by omega)
  go_wp2_with fail
  refine hU.mono ?_
  rintro x w5 ⟨p5', cc5, rfl, hh5, hb5'⟩
  have hb5 := hb4.trans (hb5'.mono hb4.size)
  clear hU c0 c1 c2 c3 c4 c5 hb4 hb5' hh4
  obtain ⟨c0, c1, c2, c3, c4, c5⟩ := hcells w5 hb5
  have hl5 : (F4 ++ numL (clampN c)).length ≤ 120 := by rw [List.length_append]; omega
  generalize hF5 : F4 ++ numL (clampN c) = F5 at hh5 hl5 HE ⊢
  clear hF5 n3 hl4
  have bB5 := hb5.alloc hb5.size (.cells #[.slice lp li.length lc] 30)
  have bC5 := (Below.refl w5.heap.size w5).alloc (Nat.le_refl _) (.cells #[.slice lp li.length lc] 30)
  have hP := rput_any _ _ F5 [li] _ (hh5.later bC5) (PA.one' w5 _ li (k2.later hb5)) (by omega) (by simp) (by simpa using hli)
  go_wp2_with fail
  refine hP.mono ?_
  rintro x w6 ⟨v6, rfl, hh6, hb6'⟩
  have hb6 := bB5.trans (hb6'.mono bB5.size)
  clear hP c0 c1 c2 c3 c4 c5 hb5 hb6' hh5 bB5 bC5
  obtain ⟨c0, c1, c2, c3, c4, c5⟩ := hcells w6 hb6
  have hl6 : (F5 ++ putL [li]).length ≤ 200 := by rw [List.length_append]; omega
  generalize hF6 : F5 ++ putL [li] = F6 at hh6 hl6 HE ⊢
  clear hF6 p2 hl5
  have hP := rput_any _ _ F6 lk _ hh6 (k3.later hb6) (by omega) (by omega) hlz
  go_wp2_with fail
  refine hP.mono ?_
  rintro x w7 ⟨v7, rfl, hh7, hb7'⟩
  have hb7 := bA.trans ((hb6.trans (hb7'.mono hb6.size)).mono bA.size)
  rw [HE.out _ rfl] at hh7
  clear hP c0 c1 c2 c3 c4 c5 hb6 hb7' hh6 hcells HE
  go_wp2
  go_ret2
  exact ⟨_, rfl, hh7, hb7⟩

end Go.Proofs.YtgfddabccjfhiabDoor

namespace Go.Proofs.YtgfddabccjfhiabDoor
open Go.RowKit

def natOf : Value → Nat | .int _ i => i.toNat | _ => 0

/-- One byte in a new block is a row that the call owns. -/
theorem owns_one (w : World) (base : Nat) (e : TypeId) (y : UInt8) (V : Value) (hV : V = bc y) (hb : base ≤ w.heap.size) : (w.alloc (.cells #[V] e)).ownsRow base e 1 (.slice (some ⟨w.heap.size, 0, none⟩) 1 1) 1 (bcs [y]) := by
  subst hV
  exact ⟨rfl, .inr ⟨w.heap.size, 1, #[bc y], rfl, hb, heap_alloc_new w _, Nat.le_refl _, by unfold maxLen; omega, rfl, rfl⟩⟩

theorem low_byte (m : Nat) : Value.int .u8 ((m : Int) % 256) = bc (UInt8.ofNat m) := by
  unfold bc
  rw [show (m : Int) % 256 = ((m % 256 : Nat) : Int) by omega]
  simp

set_option maxRecDepth 100000 in
set_option maxHeartbeats 2000000 in
theorem ruint_any (v : Value) (l : List UInt8) (n : Int) (w : World) (h : HB w v l) (hbig : l.length ≤ 140737488355300) :
    Calls Tryd.prog 36 #[v, .int .i64 n] w fun e w' => ∃ p c, e = .returned (.slice p (l ++ numL (clampN n)).length c) ∧ w'.ownsRow w.heap.size 5 1 (.slice p (l ++ numL (clampN n)).length c) (l ++ numL (clampN n)).length (bcs (l ++ numL (clampN n))) ∧ Below w.heap.size w w' := by
  obtain ⟨p, c, rfl⟩ := h.shape
  obtain ⟨i0, hi, hz0, hz1, hz2⟩ := info_parts i_u8
  have hNle := clampN_le n
  have hcl : max 0 (min n 4611686018427387904) = (clampN n : Int) := by unfold clampN; omega
  generalize clampN n = N at *
  have hc8 := cnt_le8 N (by omega)
  have HNL : Hid (numL N = UInt8.ofNat (ndigs N).length :: ndigs N) := by show _ = _; unfold numL; rw [ndigs_length]
  have hdl : (ndigs N).length ≤ 8 := by rw [ndigs_length]; exact hc8
  go_enter Tryd.func36, Tryd.ntmps36
  go_wp2
  go_loopw [1, 5] (fun i v wr => ∃ (m : Nat) (L : List UInt8) (p5 : Option Addr) (c5 : Nat), m ≤ N ∧ i = .int .i64 (m : Int) ∧ v = .slice p5 L.length c5 ∧ HB wr (.slice p5 L.length c5) L ∧ ndigs N = ndigs m ++ L ∧ Below w.heap.size w wr)
    (fun i _ _ => natOf i)
  case atStart => exact ⟨N, [], none, 0, Nat.le_refl _, rfl, rfl, HB.nil _, by simp, Below.refl _ _⟩
  case round =>
    obtain ⟨m, L, p5, c5, hmN, rfl, rfl, hL, hdig, hbe⟩ := hrel
    have hsz := hbe.size
    have hLl : L.length ≤ 8 := by
      have := congrArg List.length hdig
      rw [List.length_append] at this
      omega
    by_cases hm : 0 < m
    · have HD : Hid (ndigs N = ndigs (m / 256) ++ (UInt8.ofNat m :: L)) := by
        show _ = _
        rw [hdig, ndigs_step m (by omega) (by omega)]
        simp
      have hm2 : (0 : Int) < (m : Int) := by omega
      have hown0 := owns_one wr w.heap.size 5 (UInt8.ofNat m) _ (low_byte m) hsz
      have hL0 := hL.later ((Below.refl _ wr).alloc (Nat.le_refl _) (.cells #[Value.int .u8 ((m : Int) % 256)] 5))
      clear hdig hL h HNL
      go_wp2_with (first | (at_builtin; refine wpList_append_hb rfl (.tmp 14) (.tmp 15) 30 rfl w.heap.size 5 Tryd.underlying30 i_u8 _ _ _ rfl hown0 _ _ _ L rfl hL0 ?sa ?sb ?_))
      case sa => omega
      case sb => simp; omega
      intro v2 w2 hown2 hgrow2
      have hb2 : Below w.heap.size w w2 := (hbe.alloc hsz _).grown hgrow2 (by simp; omega) (by intro k hk; cases hk; exact hsz)
      have hh : HB w2 v2 (UInt8.ofNat m :: L) := by
        rw [← bcs_append] at hown2
        exact HB.of_owns hown2
      obtain ⟨p2, c2, rfl⟩ := hh.shape
      have HH : Hid (HB w2 (.slice p2 (UInt8.ofNat m :: L).length c2) (UInt8.ofNat m :: L)) := hh
      clear hgrow2 hown2 hown0 hL0 hbe hh
      go_wp2
      exact ⟨⟨m / 256, UInt8.ofNat m :: L, p2, c2, by omega, by rw [show ((m / 256 : Nat) : Int) = (m : Int) / 256 by omega], rfl, HH.out, HD.out, hb2⟩, by simp [natOf]; omega⟩
    · obtain rfl : m = 0 := by omega
      rw [ndigs_zero, List.nil_append] at hdig
      rw [hdig] at HNL
      have hl1 := h.later hbe
      have h2 : HB (wr.alloc (.cells #[] 5)) (.slice p l.length c) l := hl1.later ((Below.refl _ wr).alloc (Nat.le_refl _) _)
      have hb1 : Below w.heap.size w (wr.alloc (.cells #[] 5)) := hbe.alloc hsz _
      have hL1 : HB (wr.alloc (.cells #[] 5)) (.slice p5 L.length c5) L := hL.later ((Below.refl _ wr).alloc (Nat.le_refl _) _)
      clear hdig h hl1 hmN
      go_wp2_with (first | (at_builtin; refine wpList_append_hb rfl (.tmp 19) (.tmp 20) 30 rfl wr.heap.size 5 Tryd.underlying30 i_u8 _ 0 [] rfl (World.ownsRow_made wr #[] 0 (Nat.le_refl _) (Nat.zero_le _) rfl) _ _ _ l rfl h2 ?qa ?qb ?_))
      case qa => omega
      case qb => simp
      intro v3 w3 hown3 hgrow3
      have hbr3 : Below wr.heap.size wr w3 := ((Below.refl _ wr).alloc (Nat.le_refl _) _).grown hgrow3 (by simp) (by intro k hk; cases hk; exact Nat.le_refl _)
      have hb3 : Below w.heap.size w w3 := hbe.trans (hbr3.mono hsz)
      have hs3 := hb3.size
      have hown3' : w3.ownsRow wr.heap.size 5 1 v3 l.length (bcs l) := by simpa using hown3
      obtain ⟨p3, c3, rfl⟩ := owns_shape hown3'
      have hsr3 := hbr3.size
      clear hown3 hgrow3 h2 hL1 hb1
      have HV : Hid (Value.int .u8 (L.length : Int) = bc (UInt8.ofNat L.length)) := by show Value.int .u8 (L.length : Int) = bc (UInt8.ofNat L.length); simp [bc]; omega
      go_wp2_with (first | (at_builtin; refine wpList_append_own _ rfl (.tmp 21) (.tmp 25) 30 rfl wr.heap.size 5 i0 (.int .u8 0) 1 1 Tryd.underlying30 hi hz0 hz1 hz2 rfl (by decide) _ _ _ rfl (hown3'.alloc _) ⟨w3.heap.size, 0, none⟩ 1 1 [.int .u8 (L.length : Int)] rfl rfl ?ua ?ub ?uc ?ud ?ue ?_))
      case ua => exact cell_one_new _ _ _
      case ub => intro u hu; simp at hu; subst hu; rfl
      case uc => unfold maxLen; omega
      case ud => omega
      case ue => simp; omega
      intro v4 w4 hown4 hgrow4 _
      have hbr4 : Below wr.heap.size wr w4 := (hbr3.alloc hsr3 _).grown hgrow4 (by simp; omega) (fun k hk => (hown3'.lt k hk).1)
      have hL4 := hL.later hbr4
      have hb4 : Below w.heap.size w w4 := hbe.trans (hbr4.mono hsz)
      have hsr4 := hbr4.size
      have hs4 := hb4.size
      rw [HV.out, show bcs l ++ [bc (UInt8.ofNat L.length)] = bcs (l ++ [UInt8.ofNat L.length]) by simp [bcs]] at hown4
      obtain ⟨p4, c4, rfl⟩ := owns_shape hown4
      clear hgrow4 hown3' hbr3 hb3 hs3 HV hL hbe
      go_wp2_with (first | (at_builtin; refine wpList_append_hb rfl (.tmp 27) (.tmp 28) 30 rfl wr.heap.size 5 Tryd.underlying30 i_u8 _ _ _ rfl hown4 _ _ _ L rfl hL4 ?ra ?rb ?_))
      case ra => omega
      case rb => exact hsr4
      intro v5 w5 hown5 hgrow5
      have hb5 : Below w.heap.size w w5 := hb4.grown hgrow5 hs4 (fun k hk => Nat.le_trans hsz (hown4.lt k hk).1)
      have HE : Hid (l ++ [UInt8.ofNat L.length] ++ L = l ++ numL N) := by show _ = _; rw [HNL.out]; simp
      have HQ : Hid ((l ++ numL N).length = l.length + 1 + L.length) := by show _ = _; rw [← HE.out]; simp; omega
      rw [← bcs_append, HE.out, ← HQ.out] at hown5
      have hown6 := owns_mono hown5 hsz
      obtain ⟨p6, c6, rfl⟩ := owns_shape hown6
      have H6 : Hid (w5.ownsRow w.heap.size 5 1 (.slice p6 (l ++ numL N).length c6) (l ++ numL N).length (bcs (l ++ numL N))) := hown6
      clear hgrow5 hown4 hown5 hown6 hL4 hb4 HE HQ
      go_wp2
      go_ret
      exact ⟨_, _, rfl, H6.out, hb5⟩

set_option maxRecDepth 100000 in
set_option maxHeartbeats 1000000 in
theorem rbytes_any (v u : Value) (l s : List UInt8) (w : World) (h : HB w v l) (hs : HB w u s) (hbig : l.length + s.length ≤ 140737488355200) :
    Calls Tryd.prog 37 #[v, u] w fun e w' => ∃ p c, e = .returned (.slice p (l ++ bytesL s).length c) ∧ w'.ownsRow w.heap.size 5 1 (.slice p (l ++ bytesL s).length c) (l ++ bytesL s).length (bcs (l ++ bytesL s)) ∧ Below w.heap.size w w' := by
  obtain ⟨p, c, rfl⟩ := h.shape
  obtain ⟨q, d, rfl⟩ := hs.shape
  have hc9 := cnt_le8 s.length (by omega)
  have HR : Hid ((l ++ numL s.length) ++ s = l ++ bytesL s) := by show _ = _; unfold bytesL; simp
  have HRL : Hid ((l ++ numL s.length).length ≤ l.length + 9) := by show _ ≤ _; rw [List.length_append, numL_length]; omega
  have HQ : Hid ((l ++ bytesL s).length = (l ++ numL s.length).length + s.length) := by show _ = _; rw [← HR.out, List.length_append]
  have hc := ruint_any _ l (s.length : Int) w h (by omega)
  rw [clampN_nat s.length (by omega)] at hc
  generalize hM : l ++ bytesL s = M at HR HQ ⊢
  generalize l ++ numL s.length = R at *
  clear hM h hc9
  go_enter Tryd.func37, Tryd.ntmps37
  go_wp2_with fail
  refine hc.mono ?_
  rintro e w2 ⟨p2, c2, rfl, hown2, hb02⟩
  have hs2 := hs.later hb02
  have hsz := hb02.size
  clear hc hs
  go_wp2_with (first | (at_builtin; refine wpList_append_hb rfl (.tmp 8) (.tmp 9) 30 rfl w.heap.size 5 Tryd.underlying30 i_u8 _ _ _ rfl hown2 _ _ _ s rfl hs2 ?sa ?sb ?_))
  case sa => have := HRL.out; omega
  case sb => exact hsz
  intro v3 w3 hown3 hgrow3
  have hb3 : Below w.heap.size w w3 := hb02.grown hgrow3 hsz (fun k hk => (hown2.lt k hk).1)
  rw [← bcs_append, HR.out, ← HQ.out] at hown3
  obtain ⟨p3, c3, rfl⟩ := owns_shape hown3
  clear hgrow3 hown2 hs2 hb02
  go_wp2
  go_ret
  exact ⟨_, _, rfl, hown3, hb3⟩

end Go.Proofs.YtgfddabccjfhiabDoor
