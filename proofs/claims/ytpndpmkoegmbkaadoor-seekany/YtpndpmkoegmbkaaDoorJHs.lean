/- What this text proves: the walks of record.Hash and of the document's Hash (annalsref13) over this program. -/
import Derived.Test.YtpndpmkoegmbkaaDoorJEn
import Derived.Test.YtpndpmkoegmbkaaDoorJB1
import Derived.Test.YtpndpmkoegmbkaaDoorJB2
import Derived.Test.YtpndpmkoegmbkaaDoorRcRLinks
namespace Go.Proofs.YtpndpmkoegmbkaaDoor
open Go.RowKit

/-- A record's hash. -/
def hshF (size : Int) (r : Rc) : List UInt8 := if canB size r = true then hashF size 5 [encL r] else []

set_option maxRecDepth 100000 in
set_option maxHeartbeats 4000000 in
theorem hash13_any (size e t c : Int) (tv lv kv : Value) (tr li : List UInt8) (lk : List (List UInt8)) (w : World) (h1 : HB w tv tr) (h2 : HB w lv li) (h3 : PA w kv lk) (hTD : TD w) (hT : Tabs w) :
    Calls Tryd.prog 37 #[.int .i64 size, .agg #[.int .i64 e, .int .i64 t, tv, .int .i64 c, lv, kv]] w fun x w' => ∃ v, x = .returned v ∧ HB w' v (hshF size ⟨e, t, c, tr, li, lk⟩) ∧ Below w.heap.size w w' := by
  have bA := (Below.refl w.heap.size w).alloc (Nat.le_refl _) (.cells #[.int .i64 e, .int .i64 t, tv, .int .i64 c, lv, kv] 25)
  have k1 := h1.later bA
  have k2 := h2.later bA
  have k3 := h3.later bA
  have tA := hTD.later bA
  have sA := hT.later bA
  unfold hshF
  by_cases hcan : canB size ⟨e, t, c, tr, li, lk⟩ = true
  · rw [if_pos hcan]
    have hE := encode_yes size e t c _ _ _ tr li lk _ k1 k2 k3 tA hcan
    obtain ⟨tp, tc, rfl⟩ := h1.shape
    obtain ⟨lp, lc, rfl⟩ := h2.shape
    obtain ⟨kp, kc, rfl⟩ := h3.shape
    have HH : Hid (∀ v w, PA w v [encL ⟨e, t, c, tr, li, lk⟩] → Tabs w → Calls Tryd.prog 52 #[.int .i64 size, .int .i64 5, v] w fun x w' => ∃ v', x = .returned v' ∧ HB w' v' (hashF size 5 [encL ⟨e, t, c, tr, li, lk⟩]) ∧ Below w.heap.size w w') := fun v w h ht => (hash_to size 5 v _ w (by simp) (by omega) h ht).mono fun x w' ⟨p, c, h1, h2, h3⟩ => ⟨_, h1, h2, h3⟩
    generalize hashF size 5 [encL ⟨e, t, c, tr, li, lk⟩] = D at *
    generalize encL ⟨e, t, c, tr, li, lk⟩ = EN at *
    clear k1 k2 k3 tA hcan h1 h2 h3 hTD hT
    go_enter Tryd.func37, Tryd.ntmps37
    go_wp2_with fail
    refine hE.mono ?_
    rintro x w1 ⟨v1, rfl, hh1, hb1⟩
    obtain ⟨p1, c1, rfl⟩ := hh1.shape
    have bB := bA.trans (hb1.mono bA.size)
    have sB := sA.later hb1
    have bC := (Below.refl w1.heap.size w1).alloc (Nat.le_refl _) (.cells #[.slice p1 EN.length c1] 22)
    have hH := HH.out _ _ (PA.one' w1 _ EN hh1) (sB.later bC)
    have bD := bB.trans (bC.mono bB.size)
    clear hE hb1 bA sA hh1 HH bC bB sB
    go_wp2_with fail
    refine hH.mono ?_
    rintro x w2 ⟨v2, rfl, hh2, hb2⟩
    have bE := bD.trans (hb2.mono bD.size)
    clear hH
    go_wp2
    go_ret
    exact ⟨_, rfl, hh2, bE⟩
  · rw [if_neg hcan]
    have hcan' : canB size ⟨e, t, c, tr, li, lk⟩ = false := by simpa using hcan
    have hE := encode_no size e t c _ _ _ tr li lk _ k1 k2 k3 tA hcan'
    obtain ⟨tp, tc, rfl⟩ := h1.shape
    obtain ⟨lp, lc, rfl⟩ := h2.shape
    obtain ⟨kp, kc, rfl⟩ := h3.shape
    clear k1 k2 k3 tA hcan h1 h2 h3 hTD hT sA hcan'
    go_enter Tryd.func37, Tryd.ntmps37
    go_wp2_with fail
    refine hE.mono ?_
    rintro x w1 ⟨rfl, hb1⟩
    have bB := bA.trans (hb1.mono bA.size)
    clear hE
    go_wp2
    go_ret
    exact ⟨_, rfl, HB.nil _, bB⟩

set_option maxRecDepth 100000 in
set_option maxHeartbeats 4000000 in
theorem rhash13_any (size e t c : Int) (tv lv kv : Value) (tr li : List UInt8) (lk : List (List UInt8)) (w : World) (h1 : HB w tv tr) (h2 : HB w lv li) (h3 : PA w kv lk) :
    Calls Tryd.prog 12 #[.int .i64 size, .agg #[.int .i64 e, .int .i64 t, tv, .int .i64 c, lv, kv]] w fun x w' => ∃ v, x = .returned v ∧ HB w' v (hshF size ⟨e, t, c, tr, li, lk⟩) ∧ Below w.heap.size w w' := by
  have bA := (Below.refl w.heap.size w).alloc (Nat.le_refl _) (.cells #[.int .i64 e, .int .i64 t, tv, .int .i64 c, lv, kv] 25)
  have k1 := h1.later bA
  have k2 := h2.later bA
  have k3 := h3.later bA
  unfold hshF
  by_cases hcan : canB size ⟨e, t, c, tr, li, lk⟩ = true
  · rw [if_pos hcan]
    have hE := rencode_yes size e t c _ _ _ tr li lk _ k1 k2 k3 hcan
    obtain ⟨tp, tc, rfl⟩ := h1.shape
    obtain ⟨lp, lc, rfl⟩ := h2.shape
    obtain ⟨kp, kc, rfl⟩ := h3.shape
    have HH : Hid (∀ v w, PA w v [encL ⟨e, t, c, tr, li, lk⟩] → Calls Tryd.prog 26 #[.int .i64 size, .int .i64 5, v] w fun x w' => ∃ v', x = .returned v' ∧ HB w' v' (hashF size 5 [encL ⟨e, t, c, tr, li, lk⟩]) ∧ Below w.heap.size w w') := fun v w h => (rhash_to size 5 v _ w (by simp) (by omega) h).mono fun x w' ⟨p, c, h1, h2, h3⟩ => ⟨_, h1, h2, h3⟩
    generalize hashF size 5 [encL ⟨e, t, c, tr, li, lk⟩] = D at *
    generalize encL ⟨e, t, c, tr, li, lk⟩ = EN at *
    clear k1 k2 k3 hcan h1 h2 h3
    go_enter Tryd.func12, Tryd.ntmps12
    go_wp2_with fail
    refine hE.mono ?_
    rintro x w1 ⟨v1, rfl, hh1, hb1⟩
    obtain ⟨p1, c1, rfl⟩ := hh1.shape
    have bB := bA.trans (hb1.mono bA.size)
    have bC := (Below.refl w1.heap.size w1).alloc (Nat.le_refl _) (.cells #[.slice p1 EN.length c1] 22)
    have hH := HH.out _ _ (PA.one' w1 _ EN hh1)
    have bD := bB.trans (bC.mono bB.size)
    clear hE hb1 bA hh1 HH bC bB
    go_wp2_with fail
    refine hH.mono ?_
    rintro x w2 ⟨v2, rfl, hh2, hb2⟩
    have bE := bD.trans (hb2.mono bD.size)
    clear hH
    go_wp2
    go_ret
    exact ⟨_, rfl, hh2, bE⟩
  · rw [if_neg hcan]
    have hcan' : canB size ⟨e, t, c, tr, li, lk⟩ = false := by simpa using hcan
    have hE := rencode_no size e t c _ _ _ tr li lk _ k1 k2 k3 hcan'
    obtain ⟨tp, tc, rfl⟩ := h1.shape
    obtain ⟨lp, lc, rfl⟩ := h2.shape
    obtain ⟨kp, kc, rfl⟩ := h3.shape
    clear k1 k2 k3 hcan h1 h2 h3 hcan'
    go_enter Tryd.func12, Tryd.ntmps12
    go_wp2_with fail
    refine hE.mono ?_
    rintro x w1 ⟨rfl, hb1⟩
    have bB := bA.trans (hb1.mono bA.size)
    clear hE
    go_wp2
    go_ret
    exact ⟨_, rfl, HB.nil _, bB⟩

end Go.Proofs.YtpndpmkoegmbkaaDoor
