/- What this text proves: the walk of annalsref26.one over this program: what an identity has, behind any bytes. What this text proves: the walk of annalsref26.feed over this program: a page of events behind any bytes. (By program: mktlrans.py.) What this text proves: the walk of annalsref26.Answer over this program: any answer's bytes behind any bytes. (By program: mktlrans.py.) What this text proves: the walk of annalsref26.Answer over this program, whatever the answer and the kind. -/
import Derived.Test.YtldmbfemoepfkaaTlRPuts
import Derived.Test.YtldmbfemoepfkaaTlVoc
import Derived.Deep.RegionHeld3
import Derived.Test.YtldmbfemoepfkaaTlNine
namespace Go.Proofs.Ytldmbfemoepfkaa
open Go.RowKit

theorem bytesL_big (s : List UInt8) (h : s.length ≤ 140737488355328) : (bytesL s).length ≤ s.length + 9 := by unfold bytesL; rw [List.length_append, numL_length]; have := cnt_le8 s.length (by omega); omega

theorem ans_cells {w : World} {g : Nat} {a : AA} {k i e : Value} (h : CB 27 w g (ansC a k i e)) :
    w.cell? ⟨g, 0, none⟩ = some (.int .i64 a.code) ∧ w.cell? ⟨g, 1, none⟩ = some (.int .i64 a.ep) ∧ w.cell? ⟨g, 2, none⟩ = some (.bool a.pr) ∧ w.cell? ⟨g, 3, none⟩ = some (.bool a.sa) ∧ w.cell? ⟨g, 4, none⟩ = some k ∧ w.cell? ⟨g, 5, none⟩ = some (.int .i64 a.si) ∧ w.cell? ⟨g, 6, none⟩ = some i ∧ w.cell? ⟨g, 7, none⟩ = some e ∧ w.cell? ⟨g, 8, none⟩ = some (.bool a.mo) :=
  ⟨h.cell rfl, h.cell rfl, h.cell rfl, h.cell rfl, h.cell rfl, h.cell rfl, h.cell rfl, h.cell rfl, h.cell rfl⟩

set_option maxHeartbeats 1000000 in
theorem one_any (v : Value) (l : List UInt8) (a : AA) (kv iv ev : Value) (w : World) (hv : HB w v l) (hk : HB w kv a.key) (hbig : l.length + a.key.length ≤ 140737488355000) :
    Calls Try.prog 25 #[v, .agg (ansC a kv iv ev)] w (PutT l (wrS a) w) := by
  have b1 := (Below.refl w.heap.size w).alloc (Nat.le_refl _) (.cells (ansC a kv iv ev) 27)
  have cA := CB.made 27 w (ansC a kv iv ev)
  obtain ⟨w1, hw1⟩ : ∃ x, x = w.alloc (.cells (ansC a kv iv ev) 27) := ⟨_, rfl⟩
  rw [← hw1] at b1 cA
  have hF := put_flag v l a.pr w1 (hv.later b1) (by omega)
  have HW : Hid (w1 = w.alloc (.cells (ansC a kv iv ev) 27)) := hw1
  rw [hw1] at hF
  clear hw1
  obtain ⟨pv, cv, rfl⟩ := hv.shape
  obtain ⟨pk, ck, rfl⟩ := hk.shape
  obtain ⟨L, hL⟩ : ∃ L, L = wrS a := ⟨_, rfl⟩
  rw [← hL]
  have HL : Hid (L = wrS a) := hL
  clear hL
  have f1 := flagL1 a.pr
  unfold ansC at hF HW ⊢
  go_enter Try.func25, Try.ntmps25
  go_wp2_with fail
  refine hF.mono ?_
  clear hF
  rintro e w2 ⟨L2, p2, c2, rfl, hv2, hL2, hb2⟩
  rw [← HW.out] at hb2
  have cA2 := cA.later hb2
  have b2 := b1.trans (hb2.mono b1.size)
  have l2 : L2.length ≤ l.length + 1 := len_app hL2 (by omega)
  clear HW hb2 cA b1
  have hpr : w2.cell? ⟨w.heap.size, 2, none⟩ = some (.bool a.pr) := cA2.cell rfl
  cases hp : a.pr with
  | false =>
    rw [hp] at hpr
    have HLL : Hid (L2 = l ++ L) := by
      rw [hp] at hL2
      have h := hL2.out
      show L2 = l ++ L
      rw [HL.out, h]
      unfold wrS
      simp [hp]
    go_wp2
    go_ret
    exact ⟨L2, p2, c2, rfl, hv2, HLL, b2⟩
  | true =>
    rw [hp] at hpr
    have hd := Below.drew (Below.refl w2.heap.size w2)
    have bD := Below.drew b2
    have H1 := put_bytes (.slice p2 L2.length c2) (.slice pk a.key.length ck) L2 a.key w2.drew (hv2.later hd) (hk.later bD) (by omega)
    have hS : w2.cell? ⟨w.heap.size, 4, none⟩ = some (.slice pk a.key.length ck) ∧ w2.cell? ⟨w.heap.size, 5, none⟩ = some (.int .i64 a.si) := ⟨cA2.cell rfl, cA2.cell rfl⟩
    have hSd : w2.drew.cell? ⟨w.heap.size, 4, none⟩ = some (.slice pk a.key.length ck) ∧ w2.drew.cell? ⟨w.heap.size, 5, none⟩ = some (.int .i64 a.si) := hS
    have cAd := cA2.later hd
    go_wp2
    go_region_held3 (fun w' => w'.cell? ⟨w.heap.size, 4, none⟩ = some (.slice pk a.key.length ck) ∧ w'.cell? ⟨w.heap.size, 5, none⟩ = some (.int .i64 a.si)) (first | with_reducible exact hS | with_reducible exact hSd | with_reducible exact hS3 | with_reducible exact hS4) (first
      | (go_at_call 27; refine H1.mono ?_; rintro e w3 ⟨L3, p3, c3, rfl, hv3, hL3, hb3⟩; have cA3 := cAd.later hb3; have hS3 : w3.cell? ⟨w.heap.size, 4, none⟩ = some (.slice pk a.key.length ck) ∧ w3.cell? ⟨w.heap.size, 5, none⟩ = some (.int .i64 a.si) := ⟨cA3.cell rfl, cA3.cell rfl⟩; have l3 : L3.length ≤ l.length + a.key.length + 12 := len_app hL3 (by have := bytesL_big a.key (by omega); omega); have H2 := put_uint (.slice p3 L3.length c3) L3 a.si w3 hv3 (by omega))
      | (go_at_call 24; refine H2.mono ?_; rintro e w4 ⟨L4, p4, c4, rfl, hv4, hL4, hb4⟩; have cA4 := cA3.later hb4; have hS4 : w4.cell? ⟨w.heap.size, 4, none⟩ = some (.slice pk a.key.length ck) ∧ w4.cell? ⟨w.heap.size, 5, none⟩ = some (.int .i64 a.si) := ⟨cA4.cell rfl, cA4.cell rfl⟩))
    have bF := bD.trans ((hb3.trans (hb4.mono hb3.size)).mono bD.size)
    have HLL : Hid (L4 = l ++ L) := by
      rw [hp] at hL2
      have h := hL4.out
      show L4 = l ++ L
      rw [HL.out, h, hL3.out, hL2.out]
      unfold wrS
      simp [hp, List.append_assoc]
    clear H1 H2 hS hSd hS3 hS4
    go_wp2
    go_ret
    exact ⟨L4, p4, c4, rfl, hv4, HLL, bF⟩

end Go.Proofs.Ytldmbfemoepfkaa

namespace Go.Proofs.Ytldmbfemoepfkaa
open Go.RowKit

theorem wrVs_app (a b : List Ev) : wrVs (a ++ b) = wrVs a ++ wrVs b := by
  induction a with
  | nil => rfl
  | cons x r ih => simp [wrVs, ih, List.append_assoc]
theorem wrIs_app (a b : List It) : wrIs (a ++ b) = wrIs a ++ wrIs b := by
  induction a with
  | nil => rfl
  | cons x r ih => simp [wrIs, ih, List.append_assoc]
theorem wrVs_take {l : List Ev} {k : Nat} {x : Ev} (h : l[k]? = some x) : wrVs (l.take (k + 1)) = wrVs (l.take k) ++ wrV x ∧ (wrVs (l.take k)).length + (wrV x).length ≤ (wrVs l).length := by
  have hk := (List.getElem?_eq_some_iff.1 h).1
  have e : l.take (k + 1) = l.take k ++ [x] := by rw [List.take_add_one, h]; rfl
  have e1 : wrVs (l.take (k + 1)) = wrVs (l.take k) ++ wrV x := by rw [e, wrVs_app]; simp [wrVs]
  refine ⟨e1, ?_⟩
  have e2 : wrVs l = wrVs (l.take (k + 1)) ++ wrVs (l.drop (k + 1)) := by rw [← wrVs_app, List.take_append_drop]
  rw [e2, e1, List.length_append, List.length_append]
  omega
theorem wrIs_take {l : List It} {k : Nat} {x : It} (h : l[k]? = some x) : wrIs (l.take (k + 1)) = wrIs (l.take k) ++ wrI x ∧ (wrIs (l.take k)).length + (wrI x).length ≤ (wrIs l).length := by
  have hk := (List.getElem?_eq_some_iff.1 h).1
  have e : l.take (k + 1) = l.take k ++ [x] := by rw [List.take_add_one, h]; rfl
  have e1 : wrIs (l.take (k + 1)) = wrIs (l.take k) ++ wrI x := by rw [e, wrIs_app]; simp [wrIs]
  refine ⟨e1, ?_⟩
  have e2 : wrIs l = wrIs (l.take (k + 1)) ++ wrIs (l.drop (k + 1)) := by rw [← wrIs_app, List.take_append_drop]
  rw [e2, e1, List.length_append, List.length_append]
  omega

set_option maxHeartbeats 4000000 in
theorem feed_any (v : Value) (l : List UInt8) (a : AA) (kv iv ev : Value) (w : World) (hv : HB w v l) (he : EA w ev a.evs) (hn : a.evs.length ≤ 1000) (hbig : l.length + (wrK 7 a).length ≤ 140737488350000) :
    Calls Try.prog 28 #[v, .agg (ansC a kv iv ev)] w (PutT l (wrK 7 a) w) := by
  have b1 := (Below.refl w.heap.size w).alloc (Nat.le_refl _) (.cells (ansC a kv iv ev) 27)
  have cA := CB.made 27 w (ansC a kv iv ev)
  obtain ⟨w1, hw1⟩ : ∃ x, x = w.alloc (.cells (ansC a kv iv ev) 27) := ⟨_, rfl⟩
  rw [← hw1] at b1 cA
  have hF := put_uint v l (a.evs.length : Int) w1 (hv.later b1) (by omega)
  have HW : Hid (w1 = w.alloc (.cells (ansC a kv iv ev) 27)) := hw1
  rw [hw1] at hF
  clear hw1
  obtain ⟨pv, cv, rfl⟩ := hv.shape
  obtain ⟨pe, ce, rfl⟩ := he.shape
  have hwr : wrK 7 a = numL (clampN (a.evs.length : Int)) ++ (wrVs a.evs ++ (flagL a.mo ++ (if a.mo = true then numL (clampN a.ep) ++ numL (clampN a.si) else []))) := rfl
  rw [hwr, List.length_append, List.length_append] at hbig
  obtain ⟨L, hL⟩ : ∃ L, L = wrK 7 a := ⟨_, rfl⟩
  rw [← hL]
  have HL : Hid (L = numL (clampN (a.evs.length : Int)) ++ (wrVs a.evs ++ (flagL a.mo ++ (if a.mo = true then numL (clampN a.ep) ++ numL (clampN a.si) else [])))) := hL.trans hwr
  clear hL hwr
  unfold ansC at hF HW ⊢
  go_enter Try.func28, Try.ntmps28
  go_wp2_with fail
  refine hF.mono ?_
  clear hF
  rintro e w2 ⟨L2, p2, c2, rfl, hv2, hL2, hb2⟩
  rw [← HW.out] at hb2
  have cA2 := cA.later hb2
  have b2 := b1.trans (hb2.mono b1.size)
  have l2 := Nat.le_of_eq (congrArg List.length hL2.out)
  rw [List.length_append] at l2
  clear HW hb2 cA b1 hv
  have hcv : w2.cell? ⟨w.heap.size, 7, none⟩ = some (.slice pe a.evs.length ce) := cA2.cell rfl
  go_wp2
  clear hcv
  go_loopw [0, 15] (fun y i wr => ∃ k : Nat, k ≤ a.evs.length ∧ i = .int .i64 (k : Int) ∧ ∃ LL p c, y = .slice p LL.length c ∧ HB wr (.slice p LL.length c) LL ∧ Hid (LL = L2 ++ wrVs (a.evs.take k)) ∧ Below w.heap.size w wr ∧ CB 27 wr w.heap.size (ansC a kv iv (.slice pe a.evs.length ce))) (fun _ i _ => a.evs.length - (intOf i).toNat)
  case atStart => exact ⟨0, Nat.zero_le _, rfl, L2, p2, c2, rfl, hv2, by simp [Hid, wrVs], b2, cA2⟩
  case round =>
    clear hv2 b2 cA2
    obtain ⟨k, hk, rfl, L3, p3, c3, rfl, hv3, hL3, b3, cA3⟩ := hrel
    have l3 := Nat.le_of_eq (congrArg List.length hL3.out)
    rw [List.length_append] at l3
    by_cases hlt : k < a.evs.length
    · obtain ⟨bl, o, rfl, hx⟩ := he.addr (by intro h; rw [h] at hlt; simp at hlt)
      obtain ⟨x, hxk⟩ : ∃ x, a.evs[k]? = some x := ⟨_, List.getElem?_eq_getElem hlt⟩
      obtain ⟨q, kc, r, d, hE⟩ := hx k x hxk
      have HT : Hid (wrVs (a.evs.take (k + 1)) = wrVs (a.evs.take k) ++ wrV x) := (wrVs_take hxk).1
      have hlen := (wrVs_take hxk).2
      unfold wrV at hlen
      simp only [List.length_append] at hlen
      have hx1 : x.id.length ≤ (bytesL x.id).length := by unfold bytesL; simp
      have hx2 : x.key.length ≤ (bytesL x.key).length := by unfold bytesL; simp
      have hlt2 : (k : Int) < (a.evs.length : Int) := by omega
      obtain ⟨⟨e0, e1, e2, e3⟩, hid, hky⟩ := hE.later b3
      have bB := (Below.refl wr.heap.size wr).alloc (Nat.le_refl _) (.cells #[.int .i64 x.e, .int .i64 x.i, .slice q x.id.length kc, .slice r x.key.length d] 61)
      have cB := CB.made 61 wr #[.int .i64 x.e, .int .i64 x.i, .slice q x.id.length kc, .slice r x.key.length d]
      obtain ⟨w4, hw4⟩ : ∃ z, z = wr.alloc (.cells #[.int .i64 x.e, .int .i64 x.i, .slice q x.id.length kc, .slice r x.key.length d] 61) := ⟨_, rfl⟩
      rw [← hw4] at bB cB
      have hb4 := b3.trans (bB.mono b3.size)
      have hv4 := hv3.later bB
      have cA4a := cA3.later bB
      have hid4 := hid.later bB
      have hky4 := hky.later bB
      clear hx hxk hE hid hky cA3 bB
      go_wp2
      rw [← hw4]
      clear hw4 e0 e1 e2 e3
      have bW := Below.refl w4.heap.size w4
      have hd := Below.drew (Below.refl w4.heap.size w4)
      have bD := Below.drew bW
      have hvd := hv4.later hd
      have hS : w4.cell? ⟨wr.heap.size, 0, none⟩ = some (.int .i64 x.e) ∧ w4.cell? ⟨wr.heap.size, 1, none⟩ = some (.int .i64 x.i) ∧ w4.cell? ⟨wr.heap.size, 2, none⟩ = some (.slice q x.id.length kc) ∧ w4.cell? ⟨wr.heap.size, 3, none⟩ = some (.slice r x.key.length d) := ⟨cB.cell rfl, cB.cell rfl, cB.cell rfl, cB.cell rfl⟩
      have hSd : w4.drew.cell? ⟨wr.heap.size, 0, none⟩ = some (.int .i64 x.e) ∧ w4.drew.cell? ⟨wr.heap.size, 1, none⟩ = some (.int .i64 x.i) ∧ w4.drew.cell? ⟨wr.heap.size, 2, none⟩ = some (.slice q x.id.length kc) ∧ w4.drew.cell? ⟨wr.heap.size, 3, none⟩ = some (.slice r x.key.length d) := hS
      have cAd := cB.later hd
      have H5 := put_uint (.slice p3 L3.length c3) L3 x.e w4.drew hvd (by omega)
      go_region_held3 (fun w' => w'.cell? ⟨wr.heap.size, 0, none⟩ = some (.int .i64 x.e) ∧ w'.cell? ⟨wr.heap.size, 1, none⟩ = some (.int .i64 x.i) ∧ w'.cell? ⟨wr.heap.size, 2, none⟩ = some (.slice q x.id.length kc) ∧ w'.cell? ⟨wr.heap.size, 3, none⟩ = some (.slice r x.key.length d)) (first | with_reducible exact hS | with_reducible exact hSd | with_reducible exact hS5 | with_reducible exact hS6) (first
        | (go_at_call_of 24 (Value.slice p3 L3.length c3); refine H5.mono ?_; rintro e w5 ⟨L5, p5, c5, rfl, hv5, hL5, hb5⟩; have cA5 := cAd.later hb5; have bD5 := bD.trans (hb5.mono bD.size); have hS5 : w5.cell? ⟨wr.heap.size, 0, none⟩ = some (.int .i64 x.e) ∧ w5.cell? ⟨wr.heap.size, 1, none⟩ = some (.int .i64 x.i) ∧ w5.cell? ⟨wr.heap.size, 2, none⟩ = some (.slice q x.id.length kc) ∧ w5.cell? ⟨wr.heap.size, 3, none⟩ = some (.slice r x.key.length d) := ⟨cA5.cell rfl, cA5.cell rfl, cA5.cell rfl, cA5.cell rfl⟩; have l5 := Nat.le_of_eq (congrArg List.length hL5.out); rw [List.length_append] at l5; have H6 := put_uint (.slice p5 L5.length c5) L5 x.i w5 hv5 (by omega))
        | (go_at_call_of 24 (Value.slice p5 L5.length c5); refine H6.mono ?_; rintro e w6 ⟨L6, p6, c6, rfl, hv6, hL6, hb6⟩; have cA6 := cA5.later hb6; have bD6 := bD5.trans (hb6.mono bD5.size); have hS6 : w6.cell? ⟨wr.heap.size, 0, none⟩ = some (.int .i64 x.e) ∧ w6.cell? ⟨wr.heap.size, 1, none⟩ = some (.int .i64 x.i) ∧ w6.cell? ⟨wr.heap.size, 2, none⟩ = some (.slice q x.id.length kc) ∧ w6.cell? ⟨wr.heap.size, 3, none⟩ = some (.slice r x.key.length d) := ⟨cA6.cell rfl, cA6.cell rfl, cA6.cell rfl, cA6.cell rfl⟩; have l6 := Nat.le_of_eq (congrArg List.length hL6.out); rw [List.length_append] at l6))
      clear hS hSd hd bD hvd cAd hS5 hS6 H5 H6 hb5 hb6
      go_wp2
      have hd := Below.drew (Below.refl w6.heap.size w6)
      have bD := Below.drew bD6
      have hvd := hv6.later hd
      have hS : w6.cell? ⟨wr.heap.size, 0, none⟩ = some (.int .i64 x.e) ∧ w6.cell? ⟨wr.heap.size, 1, none⟩ = some (.int .i64 x.i) ∧ w6.cell? ⟨wr.heap.size, 2, none⟩ = some (.slice q x.id.length kc) ∧ w6.cell? ⟨wr.heap.size, 3, none⟩ = some (.slice r x.key.length d) := ⟨cA6.cell rfl, cA6.cell rfl, cA6.cell rfl, cA6.cell rfl⟩
      have hSd : w6.drew.cell? ⟨wr.heap.size, 0, none⟩ = some (.int .i64 x.e) ∧ w6.drew.cell? ⟨wr.heap.size, 1, none⟩ = some (.int .i64 x.i) ∧ w6.drew.cell? ⟨wr.heap.size, 2, none⟩ = some (.slice q x.id.length kc) ∧ w6.drew.cell? ⟨wr.heap.size, 3, none⟩ = some (.slice r x.key.length d) := hS
      have cAd := cA6.later hd
      have H7 := put_bytes (.slice p6 L6.length c6) (.slice q x.id.length kc) L6 x.id w6.drew hvd (hid4.later bD) (by omega)
      go_region_held3 (fun w' => w'.cell? ⟨wr.heap.size, 0, none⟩ = some (.int .i64 x.e) ∧ w'.cell? ⟨wr.heap.size, 1, none⟩ = some (.int .i64 x.i) ∧ w'.cell? ⟨wr.heap.size, 2, none⟩ = some (.slice q x.id.length kc) ∧ w'.cell? ⟨wr.heap.size, 3, none⟩ = some (.slice r x.key.length d)) (first | with_reducible exact hS | with_reducible exact hSd | with_reducible exact hS7 | with_reducible exact hS8) (first
        | (go_at_call_of 27 (Value.slice p6 L6.length c6); refine H7.mono ?_; rintro e w7 ⟨L7, p7, c7, rfl, hv7, hL7, hb7⟩; have cA7 := cAd.later hb7; have bD7 := bD.trans (hb7.mono bD.size); have hS7 : w7.cell? ⟨wr.heap.size, 0, none⟩ = some (.int .i64 x.e) ∧ w7.cell? ⟨wr.heap.size, 1, none⟩ = some (.int .i64 x.i) ∧ w7.cell? ⟨wr.heap.size, 2, none⟩ = some (.slice q x.id.length kc) ∧ w7.cell? ⟨wr.heap.size, 3, none⟩ = some (.slice r x.key.length d) := ⟨cA7.cell rfl, cA7.cell rfl, cA7.cell rfl, cA7.cell rfl⟩; have l7 := Nat.le_of_eq (congrArg List.length hL7.out); rw [List.length_append] at l7; have H8 := put_bytes (.slice p7 L7.length c7) (.slice r x.key.length d) L7 x.key w7 hv7 (hky4.later bD7) (by omega))
        | (go_at_call_of 27 (Value.slice p7 L7.length c7); refine H8.mono ?_; rintro e w8 ⟨L8, p8, c8, rfl, hv8, hL8, hb8⟩; have cA8 := cA7.later hb8; have bD8 := bD7.trans (hb8.mono bD7.size); have hS8 : w8.cell? ⟨wr.heap.size, 0, none⟩ = some (.int .i64 x.e) ∧ w8.cell? ⟨wr.heap.size, 1, none⟩ = some (.int .i64 x.i) ∧ w8.cell? ⟨wr.heap.size, 2, none⟩ = some (.slice q x.id.length kc) ∧ w8.cell? ⟨wr.heap.size, 3, none⟩ = some (.slice r x.key.length d) := ⟨cA8.cell rfl, cA8.cell rfl, cA8.cell rfl, cA8.cell rfl⟩; have l8 := Nat.le_of_eq (congrArg List.length hL8.out); rw [List.length_append] at l8))
      clear hS hSd hd bD hvd cAd hS7 hS8 H7 H8 hb7 hb8
      have b8 := hb4.trans (bD8.mono hb4.size)
      have cA9 := cA4a.later bD8
      have HL8 : Hid (L8 = L2 ++ wrVs (a.evs.take (k + 1))) := by
        show L8 = _
        rw [HT.out, hL8.out, hL7.out, hL6.out, hL5.out, hL3.out]
        unfold wrV
        simp only [List.append_assoc]
      clear HT hL3 hL5 hL6 hL7 hL8 hlen hx1 hx2 l3 l5 l6 l7 l8
      go_wp2
      go_roundw
      case rel => first | exact ⟨k + 1, by omega, by go_num, L8, p8, c8, rfl, hv8, HL8, b8, cA9⟩ | ((repeat apply Exists.intro); exact ⟨⟨k + 1, by omega, by go_num, L8, p8, c8, rfl, hv8, HL8, b8, cA9⟩, rfl⟩)
      case measure => simp [intOf]; omega
    · obtain rfl : k = a.evs.length := by omega
      rw [List.take_length] at hL3 l3
      have hF := put_flag (.slice p3 L3.length c3) L3 a.mo wr hv3 (by omega)
      have m8 : wr.cell? ⟨w.heap.size, 8, none⟩ = some (.bool a.mo) := cA3.cell rfl
      go_wp2_with fail
      refine hF.mono ?_
      clear hF
      rintro e w4 ⟨L4, p4, c4, rfl, hv4, hL4, hb4⟩
      have b4 := b3.trans (hb4.mono b3.size)
      have cA4 := cA3.later hb4
      have l4 := Nat.le_of_eq (congrArg List.length hL4.out)
      rw [List.length_append] at l4
      have hmo : w4.cell? ⟨w.heap.size, 8, none⟩ = some (.bool a.mo) := cA4.cell rfl
      clear m8 cA3 hb4 b3 hv3
      cases hm : a.mo with
      | false =>
        rw [hm] at hmo hL4
        have HLL : Hid (L4 = l ++ L) := by
          show L4 = l ++ L
          rw [HL.out, hL4.out, hL3.out, hL2.out]
          simp [hm, List.append_assoc]
        go_wp2
        go_ret
        exact ⟨L4, p4, c4, rfl, hv4, HLL, b4⟩
      | true =>
        rw [hm] at hmo hL4
        rw [if_pos hm] at hbig
        simp only [List.length_append] at hbig
        go_wp2
        have hd := Below.drew (Below.refl w4.heap.size w4)
        have bD := Below.drew b4
        have hvd := hv4.later hd
        have hS : w4.cell? ⟨w.heap.size, 1, none⟩ = some (.int .i64 a.ep) ∧ w4.cell? ⟨w.heap.size, 5, none⟩ = some (.int .i64 a.si) := ⟨cA4.cell rfl, cA4.cell rfl⟩
        have hSd : w4.drew.cell? ⟨w.heap.size, 1, none⟩ = some (.int .i64 a.ep) ∧ w4.drew.cell? ⟨w.heap.size, 5, none⟩ = some (.int .i64 a.si) := hS
        have cAd := cA4.later hd
        have H5 := put_uint (.slice p4 L4.length c4) L4 a.ep w4.drew hvd (by omega)
        go_region_held3 (fun w' => w'.cell? ⟨w.heap.size, 1, none⟩ = some (.int .i64 a.ep) ∧ w'.cell? ⟨w.heap.size, 5, none⟩ = some (.int .i64 a.si)) (first | with_reducible exact hS | with_reducible exact hSd | with_reducible exact hS5 | with_reducible exact hS6) (first
          | (go_at_call_of 24 (Value.slice p4 L4.length c4); refine H5.mono ?_; rintro e w5 ⟨L5, p5, c5, rfl, hv5, hL5, hb5⟩; have cA5 := cAd.later hb5; have bD5 := bD.trans (hb5.mono bD.size); have hS5 : w5.cell? ⟨w.heap.size, 1, none⟩ = some (.int .i64 a.ep) ∧ w5.cell? ⟨w.heap.size, 5, none⟩ = some (.int .i64 a.si) := ⟨cA5.cell rfl, cA5.cell rfl⟩; have l5 := Nat.le_of_eq (congrArg List.length hL5.out); rw [List.length_append] at l5; have H6 := put_uint (.slice p5 L5.length c5) L5 a.si w5 hv5 (by omega))
          | (go_at_call_of 24 (Value.slice p5 L5.length c5); refine H6.mono ?_; rintro e w6 ⟨L6, p6, c6, rfl, hv6, hL6, hb6⟩; have cA6 := cA5.later hb6; have bD6 := bD5.trans (hb6.mono bD5.size); have hS6 : w6.cell? ⟨w.heap.size, 1, none⟩ = some (.int .i64 a.ep) ∧ w6.cell? ⟨w.heap.size, 5, none⟩ = some (.int .i64 a.si) := ⟨cA6.cell rfl, cA6.cell rfl⟩; have l6 := Nat.le_of_eq (congrArg List.length hL6.out); rw [List.length_append] at l6))
        clear hS hSd hd bD hvd cAd hS5 hS6 H5 H6 hb5 hb6
        have HLL : Hid (L6 = l ++ L) := by
          show L6 = l ++ L
          rw [HL.out, hL6.out, hL5.out, hL4.out, hL3.out, hL2.out]
          simp [hm, List.append_assoc]
        go_wp2
        go_ret
        exact ⟨L6, p6, c6, rfl, hv6, HLL, bD6⟩

end Go.Proofs.Ytldmbfemoepfkaa

namespace Go.Proofs.Ytldmbfemoepfkaa
open Go.RowKit

set_option maxHeartbeats 600000 in
theorem rans_code (v : Value) (l : List UInt8) (k : Int) (a : AA) (kv iv ev : Value) (w : World) (hv : HB w v l) (ha : AnsV w a kv iv ev) (hbig : l.length + (wrA k a).length ≤ 140737488350000) (hc : a.code ≠ 0) :
    Calls Try.prog 10 #[v, .int .i64 k, .agg (ansC a kv iv ev)] w (PutT l (wrA k a) w) := by
  have b1 := (Below.refl w.heap.size w).alloc (Nat.le_refl _) (.cells (ansC a kv iv ev) 27)
  have cA := CB.made 27 w (ansC a kv iv ev)
  obtain ⟨w1, hw1⟩ : ∃ x, x = w.alloc (.cells (ansC a kv iv ev) 27) := ⟨_, rfl⟩
  rw [← hw1] at b1 cA
  have hF := put_uint v l a.code w1 (hv.later b1) (by omega)
  have HW : Hid (w1 = w.alloc (.cells (ansC a kv iv ev) 27)) := hw1
  rw [hw1] at hF
  clear hw1
  obtain ⟨pv, cv, rfl⟩ := hv.shape
  obtain ⟨hky, hit, hev⟩ := ha
  obtain ⟨pk, ck, rfl⟩ := hky.shape
  obtain ⟨pi, ci, rfl⟩ := hit.shape
  obtain ⟨pe, ce, rfl⟩ := hev.shape
  have hwr : wrA k a = numL (clampN a.code) ++ ([]) := by unfold wrA; rw [if_neg hc]
  rw [hwr] at hbig
  simp only [List.length_append] at hbig
  obtain ⟨L, hL⟩ : ∃ L, L = wrA k a := ⟨_, rfl⟩
  rw [← hL]
  have HL : Hid (L = numL (clampN a.code) ++ ([])) := hL.trans hwr
  clear hL hwr
  unfold ansC at hF HW ⊢
  go_enter Try.func10, Try.ntmps10
  go_wp2_with fail
  refine hF.mono ?_
  clear hF
  rintro e w2 ⟨L2, p2, c2, rfl, hv2, hL2, hb2⟩
  rw [← HW.out] at hb2
  have cA2 := cA.later hb2
  have b2 := b1.trans (hb2.mono b1.size)
  have l2 := Nat.le_of_eq (congrArg List.length hL2.out)
  rw [List.length_append] at l2
  clear HW hb2 cA b1 hv
  have m0 : w2.cell? ⟨w.heap.size, 0, none⟩ = some (.int .i64 a.code) := cA2.cell rfl
  have hne : (a.code != 0) = true := by simpa using hc
  generalize a.code = C at *
  have HLL : Hid (L2 = l ++ L) := by
    show L2 = l ++ L
    rw [HL.out, hL2.out]
    simp
  go_wp2
  go_ret
  exact ⟨L2, p2, c2, rfl, hv2, HLL, b2⟩

set_option maxHeartbeats 600000 in
theorem rans1 (v : Value) (l : List UInt8) (a : AA) (kv iv ev : Value) (w : World) (hv : HB w v l) (ha : AnsV w a kv iv ev) (hbig : l.length + (wrA 1 a).length ≤ 140737488350000) (hc : Hid (a.code = 0)) (HK : wrK 1 a = numL (clampN a.ep)) :
    Calls Try.prog 10 #[v, .int .i64 1, .agg (ansC a kv iv ev)] w (PutT l (wrA 1 a) w) := by
  have b1 := (Below.refl w.heap.size w).alloc (Nat.le_refl _) (.cells (ansC a kv iv ev) 27)
  have cA := CB.made 27 w (ansC a kv iv ev)
  obtain ⟨w1, hw1⟩ : ∃ x, x = w.alloc (.cells (ansC a kv iv ev) 27) := ⟨_, rfl⟩
  rw [← hw1] at b1 cA
  have hF := put_uint v l a.code w1 (hv.later b1) (by omega)
  have HW : Hid (w1 = w.alloc (.cells (ansC a kv iv ev) 27)) := hw1
  rw [hw1] at hF
  clear hw1
  obtain ⟨pv, cv, rfl⟩ := hv.shape
  obtain ⟨hky, hit, hev⟩ := ha
  obtain ⟨pk, ck, rfl⟩ := hky.shape
  obtain ⟨pi, ci, rfl⟩ := hit.shape
  obtain ⟨pe, ce, rfl⟩ := hev.shape
  have hwr : wrA 1 a = numL (clampN a.code) ++ (numL (clampN a.ep)) := by unfold wrA; rw [if_pos hc.out, HK]
  rw [hwr] at hbig
  simp only [List.length_append] at hbig
  obtain ⟨L, hL⟩ : ∃ L, L = wrA 1 a := ⟨_, rfl⟩
  rw [← hL]
  have HL : Hid (L = numL (clampN a.code) ++ (numL (clampN a.ep))) := hL.trans hwr
  clear hL hwr
  unfold ansC at hF HW ⊢
  go_enter Try.func10, Try.ntmps10
  go_wp2_with fail
  refine hF.mono ?_
  clear hF
  rintro e w2 ⟨L2, p2, c2, rfl, hv2, hL2, hb2⟩
  rw [← HW.out] at hb2
  have cA2 := cA.later hb2
  have b2 := b1.trans (hb2.mono b1.size)
  have l2 := Nat.le_of_eq (congrArg List.length hL2.out)
  rw [List.length_append] at l2
  clear HW hb2 cA b1 hv
  have m0 : w2.cell? ⟨w.heap.size, 0, none⟩ = some (.int .i64 a.code) := cA2.cell rfl
  rw [hc.out] at m0
  have m1 : w2.cell? ⟨w.heap.size, 1, none⟩ = some (.int .i64 a.ep) := cA2.cell rfl
  have hG := put_uint (.slice p2 L2.length c2) L2 a.ep w2 hv2 (by omega)
  go_wp2_with fail
  refine hG.mono ?_
  clear hG
  rintro e w3 ⟨L3, p3, c3, rfl, hv3, hL3, hb3⟩
  have b3 := b2.trans (hb3.mono b2.size)
  have HLL : Hid (L3 = l ++ L) := by
    show L3 = l ++ L
    rw [HL.out, hL3.out, hL2.out]
    simp [List.append_assoc]
  go_wp2
  go_ret
  exact ⟨L3, p3, c3, rfl, hv3, HLL, b3⟩

set_option maxHeartbeats 600000 in
theorem rans3 (v : Value) (l : List UInt8) (a : AA) (kv iv ev : Value) (w : World) (hv : HB w v l) (ha : AnsV w a kv iv ev) (hkb : a.key.length ≤ 70368744177664) (hlb : l.length ≤ 70368744170000) (hc : Hid (a.code = 0)) (HK : wrK 3 a = wrS a) :
    Calls Try.prog 10 #[v, .int .i64 3, .agg (ansC a kv iv ev)] w (PutT l (wrA 3 a) w) := by
  have b1 := (Below.refl w.heap.size w).alloc (Nat.le_refl _) (.cells (ansC a kv iv ev) 27)
  have cA := CB.made 27 w (ansC a kv iv ev)
  obtain ⟨w1, hw1⟩ : ∃ x, x = w.alloc (.cells (ansC a kv iv ev) 27) := ⟨_, rfl⟩
  rw [← hw1] at b1 cA
  have hF := put_uint v l a.code w1 (hv.later b1) (by omega)
  have HW : Hid (w1 = w.alloc (.cells (ansC a kv iv ev) 27)) := hw1
  rw [hw1] at hF
  clear hw1
  obtain ⟨pv, cv, rfl⟩ := hv.shape
  obtain ⟨hky, hit, hev⟩ := ha
  obtain ⟨pk, ck, rfl⟩ := hky.shape
  obtain ⟨pi, ci, rfl⟩ := hit.shape
  obtain ⟨pe, ce, rfl⟩ := hev.shape
  have hwr : wrA 3 a = numL (clampN a.code) ++ (wrS a) := by unfold wrA; rw [if_pos hc.out, HK]
  obtain ⟨L, hL⟩ : ∃ L, L = wrA 3 a := ⟨_, rfl⟩
  rw [← hL]
  have HL : Hid (L = numL (clampN a.code) ++ (wrS a)) := hL.trans hwr
  clear hL hwr
  unfold ansC at hF HW ⊢
  go_enter Try.func10, Try.ntmps10
  go_wp2_with fail
  refine hF.mono ?_
  clear hF
  rintro e w2 ⟨L2, p2, c2, rfl, hv2, hL2, hb2⟩
  rw [← HW.out] at hb2
  have cA2 := cA.later hb2
  have b2 := b1.trans (hb2.mono b1.size)
  have l2 := Nat.le_of_eq (congrArg List.length hL2.out)
  rw [List.length_append] at l2
  clear HW hb2 cA b1 hv
  have m0 : w2.cell? ⟨w.heap.size, 0, none⟩ = some (.int .i64 a.code) := cA2.cell rfl
  rw [hc.out] at m0
  have hs := numL9 a.code
  obtain ⟨n0, n1, n2, n3, n4, n5, n6, n7, n8⟩ := ans_cells cA2
  have hG := one_any (.slice p2 L2.length c2) L2 a (.slice pk a.key.length ck) (.slice pi a.its.length ci) (.slice pe a.evs.length ce) w2 hv2 (hky.later b2) (by omega)
  unfold ansC at hG
  rw [hc.out] at hG n0
  go_wp2_with fail
  refine hG.mono ?_
  clear hG
  rintro e w3 ⟨L3, p3, c3, rfl, hv3, hL3, hb3⟩
  have b3 := b2.trans (hb3.mono b2.size)
  have HLL : Hid (L3 = l ++ L) := by
    show L3 = l ++ L
    rw [HL.out, hL3.out, hL2.out]
    simp [List.append_assoc]
  go_wp2
  go_ret
  exact ⟨L3, p3, c3, rfl, hv3, HLL, b3⟩

set_option maxHeartbeats 600000 in
theorem rans4 (v : Value) (l : List UInt8) (a : AA) (kv iv ev : Value) (w : World) (hv : HB w v l) (ha : AnsV w a kv iv ev) (hkb : a.key.length ≤ 70368744177664) (hlb : l.length ≤ 70368744170000) (hc : Hid (a.code = 0)) (HK : wrK 4 a = numL (clampN a.ep) ++ wrS a) :
    Calls Try.prog 10 #[v, .int .i64 4, .agg (ansC a kv iv ev)] w (PutT l (wrA 4 a) w) := by
  have b1 := (Below.refl w.heap.size w).alloc (Nat.le_refl _) (.cells (ansC a kv iv ev) 27)
  have cA := CB.made 27 w (ansC a kv iv ev)
  obtain ⟨w1, hw1⟩ : ∃ x, x = w.alloc (.cells (ansC a kv iv ev) 27) := ⟨_, rfl⟩
  rw [← hw1] at b1 cA
  have hF := put_uint v l a.code w1 (hv.later b1) (by omega)
  have HW : Hid (w1 = w.alloc (.cells (ansC a kv iv ev) 27)) := hw1
  rw [hw1] at hF
  clear hw1
  obtain ⟨pv, cv, rfl⟩ := hv.shape
  obtain ⟨hky, hit, hev⟩ := ha
  obtain ⟨pk, ck, rfl⟩ := hky.shape
  obtain ⟨pi, ci, rfl⟩ := hit.shape
  obtain ⟨pe, ce, rfl⟩ := hev.shape
  have hwr : wrA 4 a = numL (clampN a.code) ++ (numL (clampN a.ep) ++ wrS a) := by unfold wrA; rw [if_pos hc.out, HK]
  obtain ⟨L, hL⟩ : ∃ L, L = wrA 4 a := ⟨_, rfl⟩
  rw [← hL]
  have HL : Hid (L = numL (clampN a.code) ++ (numL (clampN a.ep) ++ wrS a)) := hL.trans hwr
  clear hL hwr
  unfold ansC at hF HW ⊢
  go_enter Try.func10, Try.ntmps10
  go_wp2_with fail
  refine hF.mono ?_
  clear hF
  rintro e w2 ⟨L2, p2, c2, rfl, hv2, hL2, hb2⟩
  rw [← HW.out] at hb2
  have cA2 := cA.later hb2
  have b2 := b1.trans (hb2.mono b1.size)
  have l2 := Nat.le_of_eq (congrArg List.length hL2.out)
  rw [List.length_append] at l2
  clear HW hb2 cA b1 hv
  have m0 : w2.cell? ⟨w.heap.size, 0, none⟩ = some (.int .i64 a.code) := cA2.cell rfl
  rw [hc.out] at m0
  have hd := Below.drew (Below.refl w2.heap.size w2)
  have bD := Below.drew b2
  have cA0 : CB 27 w2 w.heap.size #[.int .i64 0, .int .i64 a.ep, .bool a.pr, .bool a.sa, .slice pk a.key.length ck, .int .i64 a.si, .slice pi a.its.length ci, .slice pe a.evs.length ce, .bool a.mo] := by rw [← hc.out]; exact cA2
  have hS := nine cA0
  have hSd : w2.drew.cell? ⟨w.heap.size, 0, none⟩ = some (.int .i64 0) ∧ w2.drew.cell? ⟨w.heap.size, 1, none⟩ = some (.int .i64 a.ep) ∧ w2.drew.cell? ⟨w.heap.size, 2, none⟩ = some (.bool a.pr) ∧ w2.drew.cell? ⟨w.heap.size, 3, none⟩ = some (.bool a.sa) ∧ w2.drew.cell? ⟨w.heap.size, 4, none⟩ = some (.slice pk a.key.length ck) ∧ w2.drew.cell? ⟨w.heap.size, 5, none⟩ = some (.int .i64 a.si) ∧ w2.drew.cell? ⟨w.heap.size, 6, none⟩ = some (.slice pi a.its.length ci) ∧ w2.drew.cell? ⟨w.heap.size, 7, none⟩ = some (.slice pe a.evs.length ce) ∧ w2.drew.cell? ⟨w.heap.size, 8, none⟩ = some (.bool a.mo) := hS
  have cAd := cA0.later hd
  have hs := numL9 a.code
  have H3 := put_uint (.slice p2 L2.length c2) L2 a.ep w2.drew (hv2.later hd) (by omega)
  have h9 := numL9 a.ep
  have f9 := flagL1 a.sa
  go_wp2
  go_region_held3 (fun w' => w'.cell? ⟨w.heap.size, 0, none⟩ = some (.int .i64 0) ∧ w'.cell? ⟨w.heap.size, 1, none⟩ = some (.int .i64 a.ep) ∧ w'.cell? ⟨w.heap.size, 2, none⟩ = some (.bool a.pr) ∧ w'.cell? ⟨w.heap.size, 3, none⟩ = some (.bool a.sa) ∧ w'.cell? ⟨w.heap.size, 4, none⟩ = some (.slice pk a.key.length ck) ∧ w'.cell? ⟨w.heap.size, 5, none⟩ = some (.int .i64 a.si) ∧ w'.cell? ⟨w.heap.size, 6, none⟩ = some (.slice pi a.its.length ci) ∧ w'.cell? ⟨w.heap.size, 7, none⟩ = some (.slice pe a.evs.length ce) ∧ w'.cell? ⟨w.heap.size, 8, none⟩ = some (.bool a.mo)) (first | with_reducible exact hS | with_reducible exact hSd | with_reducible exact hS3 | with_reducible exact hS4) (first
    | (go_at_call 24; refine H3.mono ?_; rintro e w3 ⟨L3, p3, c3, rfl, hv3, hL3, hb3⟩; have cA3 := cAd.later hb3; have b3 := bD.trans (hb3.mono bD.size); have hS3 : w3.cell? ⟨w.heap.size, 0, none⟩ = some (.int .i64 0) ∧ w3.cell? ⟨w.heap.size, 1, none⟩ = some (.int .i64 a.ep) ∧ w3.cell? ⟨w.heap.size, 2, none⟩ = some (.bool a.pr) ∧ w3.cell? ⟨w.heap.size, 3, none⟩ = some (.bool a.sa) ∧ w3.cell? ⟨w.heap.size, 4, none⟩ = some (.slice pk a.key.length ck) ∧ w3.cell? ⟨w.heap.size, 5, none⟩ = some (.int .i64 a.si) ∧ w3.cell? ⟨w.heap.size, 6, none⟩ = some (.slice pi a.its.length ci) ∧ w3.cell? ⟨w.heap.size, 7, none⟩ = some (.slice pe a.evs.length ce) ∧ w3.cell? ⟨w.heap.size, 8, none⟩ = some (.bool a.mo) := nine cA3; have l3 := Nat.le_of_eq (congrArg List.length hL3.out); rw [List.length_append] at l3; have H4 := (by have h := one_any (.slice p3 L3.length c3) L3 a (.slice pk a.key.length ck) (.slice pi a.its.length ci) (.slice pe a.evs.length ce) w3 hv3 (hky.later b3) (by omega); unfold ansC at h; rw [hc.out] at h; exact h))
    | (go_at_call 25; refine H4.mono ?_; rintro e w4 ⟨L4, p4, c4, rfl, hv4, hL4, hb4⟩; have cA4 := cA3.later hb4; have b4 := b3.trans (hb4.mono b3.size); have hS4 : w4.cell? ⟨w.heap.size, 0, none⟩ = some (.int .i64 0) ∧ w4.cell? ⟨w.heap.size, 1, none⟩ = some (.int .i64 a.ep) ∧ w4.cell? ⟨w.heap.size, 2, none⟩ = some (.bool a.pr) ∧ w4.cell? ⟨w.heap.size, 3, none⟩ = some (.bool a.sa) ∧ w4.cell? ⟨w.heap.size, 4, none⟩ = some (.slice pk a.key.length ck) ∧ w4.cell? ⟨w.heap.size, 5, none⟩ = some (.int .i64 a.si) ∧ w4.cell? ⟨w.heap.size, 6, none⟩ = some (.slice pi a.its.length ci) ∧ w4.cell? ⟨w.heap.size, 7, none⟩ = some (.slice pe a.evs.length ce) ∧ w4.cell? ⟨w.heap.size, 8, none⟩ = some (.bool a.mo) := nine cA4))
  clear H3 H4 hS hSd hS3 hS4 cAd hd bD
  have HLL : Hid (L4 = l ++ L) := by
    show L4 = l ++ L
    rw [HL.out, hL4.out, hL3.out, hL2.out]
    simp [List.append_assoc]
  go_wp2
  go_ret
  exact ⟨L4, p4, c4, rfl, hv4, HLL, b4⟩

set_option maxHeartbeats 600000 in
theorem rans5 (v : Value) (l : List UInt8) (a : AA) (kv iv ev : Value) (w : World) (hv : HB w v l) (ha : AnsV w a kv iv ev) (hkb : a.key.length ≤ 70368744177664) (hlb : l.length ≤ 70368744170000) (hc : Hid (a.code = 0)) (HK : wrK 5 a = flagL a.sa ++ wrS a) :
    Calls Try.prog 10 #[v, .int .i64 5, .agg (ansC a kv iv ev)] w (PutT l (wrA 5 a) w) := by
  have b1 := (Below.refl w.heap.size w).alloc (Nat.le_refl _) (.cells (ansC a kv iv ev) 27)
  have cA := CB.made 27 w (ansC a kv iv ev)
  obtain ⟨w1, hw1⟩ : ∃ x, x = w.alloc (.cells (ansC a kv iv ev) 27) := ⟨_, rfl⟩
  rw [← hw1] at b1 cA
  have hF := put_uint v l a.code w1 (hv.later b1) (by omega)
  have HW : Hid (w1 = w.alloc (.cells (ansC a kv iv ev) 27)) := hw1
  rw [hw1] at hF
  clear hw1
  obtain ⟨pv, cv, rfl⟩ := hv.shape
  obtain ⟨hky, hit, hev⟩ := ha
  obtain ⟨pk, ck, rfl⟩ := hky.shape
  obtain ⟨pi, ci, rfl⟩ := hit.shape
  obtain ⟨pe, ce, rfl⟩ := hev.shape
  have hwr : wrA 5 a = numL (clampN a.code) ++ (flagL a.sa ++ wrS a) := by unfold wrA; rw [if_pos hc.out, HK]
  obtain ⟨L, hL⟩ : ∃ L, L = wrA 5 a := ⟨_, rfl⟩
  rw [← hL]
  have HL : Hid (L = numL (clampN a.code) ++ (flagL a.sa ++ wrS a)) := hL.trans hwr
  clear hL hwr
  unfold ansC at hF HW ⊢
  go_enter Try.func10, Try.ntmps10
  go_wp2_with fail
  refine hF.mono ?_
  clear hF
  rintro e w2 ⟨L2, p2, c2, rfl, hv2, hL2, hb2⟩
  rw [← HW.out] at hb2
  have cA2 := cA.later hb2
  have b2 := b1.trans (hb2.mono b1.size)
  have l2 := Nat.le_of_eq (congrArg List.length hL2.out)
  rw [List.length_append] at l2
  clear HW hb2 cA b1 hv
  have m0 : w2.cell? ⟨w.heap.size, 0, none⟩ = some (.int .i64 a.code) := cA2.cell rfl
  rw [hc.out] at m0
  have hd := Below.drew (Below.refl w2.heap.size w2)
  have bD := Below.drew b2
  have cA0 : CB 27 w2 w.heap.size #[.int .i64 0, .int .i64 a.ep, .bool a.pr, .bool a.sa, .slice pk a.key.length ck, .int .i64 a.si, .slice pi a.its.length ci, .slice pe a.evs.length ce, .bool a.mo] := by rw [← hc.out]; exact cA2
  have hS := nine cA0
  have hSd : w2.drew.cell? ⟨w.heap.size, 0, none⟩ = some (.int .i64 0) ∧ w2.drew.cell? ⟨w.heap.size, 1, none⟩ = some (.int .i64 a.ep) ∧ w2.drew.cell? ⟨w.heap.size, 2, none⟩ = some (.bool a.pr) ∧ w2.drew.cell? ⟨w.heap.size, 3, none⟩ = some (.bool a.sa) ∧ w2.drew.cell? ⟨w.heap.size, 4, none⟩ = some (.slice pk a.key.length ck) ∧ w2.drew.cell? ⟨w.heap.size, 5, none⟩ = some (.int .i64 a.si) ∧ w2.drew.cell? ⟨w.heap.size, 6, none⟩ = some (.slice pi a.its.length ci) ∧ w2.drew.cell? ⟨w.heap.size, 7, none⟩ = some (.slice pe a.evs.length ce) ∧ w2.drew.cell? ⟨w.heap.size, 8, none⟩ = some (.bool a.mo) := hS
  have cAd := cA0.later hd
  have hs := numL9 a.code
  have H3 := put_flag (.slice p2 L2.length c2) L2 a.sa w2.drew (hv2.later hd) (by omega)
  have h9 := numL9 a.ep
  have f9 := flagL1 a.sa
  go_wp2
  go_region_held3 (fun w' => w'.cell? ⟨w.heap.size, 0, none⟩ = some (.int .i64 0) ∧ w'.cell? ⟨w.heap.size, 1, none⟩ = some (.int .i64 a.ep) ∧ w'.cell? ⟨w.heap.size, 2, none⟩ = some (.bool a.pr) ∧ w'.cell? ⟨w.heap.size, 3, none⟩ = some (.bool a.sa) ∧ w'.cell? ⟨w.heap.size, 4, none⟩ = some (.slice pk a.key.length ck) ∧ w'.cell? ⟨w.heap.size, 5, none⟩ = some (.int .i64 a.si) ∧ w'.cell? ⟨w.heap.size, 6, none⟩ = some (.slice pi a.its.length ci) ∧ w'.cell? ⟨w.heap.size, 7, none⟩ = some (.slice pe a.evs.length ce) ∧ w'.cell? ⟨w.heap.size, 8, none⟩ = some (.bool a.mo)) (first | with_reducible exact hS | with_reducible exact hSd | with_reducible exact hS3 | with_reducible exact hS4) (first
    | (go_at_call 26; refine H3.mono ?_; rintro e w3 ⟨L3, p3, c3, rfl, hv3, hL3, hb3⟩; have cA3 := cAd.later hb3; have b3 := bD.trans (hb3.mono bD.size); have hS3 : w3.cell? ⟨w.heap.size, 0, none⟩ = some (.int .i64 0) ∧ w3.cell? ⟨w.heap.size, 1, none⟩ = some (.int .i64 a.ep) ∧ w3.cell? ⟨w.heap.size, 2, none⟩ = some (.bool a.pr) ∧ w3.cell? ⟨w.heap.size, 3, none⟩ = some (.bool a.sa) ∧ w3.cell? ⟨w.heap.size, 4, none⟩ = some (.slice pk a.key.length ck) ∧ w3.cell? ⟨w.heap.size, 5, none⟩ = some (.int .i64 a.si) ∧ w3.cell? ⟨w.heap.size, 6, none⟩ = some (.slice pi a.its.length ci) ∧ w3.cell? ⟨w.heap.size, 7, none⟩ = some (.slice pe a.evs.length ce) ∧ w3.cell? ⟨w.heap.size, 8, none⟩ = some (.bool a.mo) := nine cA3; have l3 := Nat.le_of_eq (congrArg List.length hL3.out); rw [List.length_append] at l3; have H4 := (by have h := one_any (.slice p3 L3.length c3) L3 a (.slice pk a.key.length ck) (.slice pi a.its.length ci) (.slice pe a.evs.length ce) w3 hv3 (hky.later b3) (by omega); unfold ansC at h; rw [hc.out] at h; exact h))
    | (go_at_call 25; refine H4.mono ?_; rintro e w4 ⟨L4, p4, c4, rfl, hv4, hL4, hb4⟩; have cA4 := cA3.later hb4; have b4 := b3.trans (hb4.mono b3.size); have hS4 : w4.cell? ⟨w.heap.size, 0, none⟩ = some (.int .i64 0) ∧ w4.cell? ⟨w.heap.size, 1, none⟩ = some (.int .i64 a.ep) ∧ w4.cell? ⟨w.heap.size, 2, none⟩ = some (.bool a.pr) ∧ w4.cell? ⟨w.heap.size, 3, none⟩ = some (.bool a.sa) ∧ w4.cell? ⟨w.heap.size, 4, none⟩ = some (.slice pk a.key.length ck) ∧ w4.cell? ⟨w.heap.size, 5, none⟩ = some (.int .i64 a.si) ∧ w4.cell? ⟨w.heap.size, 6, none⟩ = some (.slice pi a.its.length ci) ∧ w4.cell? ⟨w.heap.size, 7, none⟩ = some (.slice pe a.evs.length ce) ∧ w4.cell? ⟨w.heap.size, 8, none⟩ = some (.bool a.mo) := nine cA4))
  clear H3 H4 hS hSd hS3 hS4 cAd hd bD
  have HLL : Hid (L4 = l ++ L) := by
    show L4 = l ++ L
    rw [HL.out, hL4.out, hL3.out, hL2.out]
    simp [List.append_assoc]
  go_wp2
  go_ret
  exact ⟨L4, p4, c4, rfl, hv4, HLL, b4⟩

set_option maxHeartbeats 600000 in
theorem rans7 (v : Value) (l : List UInt8) (a : AA) (kv iv ev : Value) (w : World) (hv : HB w v l) (ha : AnsV w a kv iv ev) (he : a.evs.length ≤ 1000) (hbig : l.length + (wrA 7 a).length ≤ 140737488350000) (hc : Hid (a.code = 0)) (HK : wrK 7 a = wrK 7 a) :
    Calls Try.prog 10 #[v, .int .i64 7, .agg (ansC a kv iv ev)] w (PutT l (wrA 7 a) w) := by
  have b1 := (Below.refl w.heap.size w).alloc (Nat.le_refl _) (.cells (ansC a kv iv ev) 27)
  have cA := CB.made 27 w (ansC a kv iv ev)
  obtain ⟨w1, hw1⟩ : ∃ x, x = w.alloc (.cells (ansC a kv iv ev) 27) := ⟨_, rfl⟩
  rw [← hw1] at b1 cA
  have hF := put_uint v l a.code w1 (hv.later b1) (by omega)
  have HW : Hid (w1 = w.alloc (.cells (ansC a kv iv ev) 27)) := hw1
  rw [hw1] at hF
  clear hw1
  obtain ⟨pv, cv, rfl⟩ := hv.shape
  obtain ⟨hky, hit, hev⟩ := ha
  obtain ⟨pk, ck, rfl⟩ := hky.shape
  obtain ⟨pi, ci, rfl⟩ := hit.shape
  obtain ⟨pe, ce, rfl⟩ := hev.shape
  have hwr : wrA 7 a = numL (clampN a.code) ++ (wrK 7 a) := by unfold wrA; rw [if_pos hc.out, HK]
  rw [hwr] at hbig
  simp only [List.length_append] at hbig
  obtain ⟨L, hL⟩ : ∃ L, L = wrA 7 a := ⟨_, rfl⟩
  rw [← hL]
  have HL : Hid (L = numL (clampN a.code) ++ (wrK 7 a)) := hL.trans hwr
  clear hL hwr
  unfold ansC at hF HW ⊢
  go_enter Try.func10, Try.ntmps10
  go_wp2_with fail
  refine hF.mono ?_
  clear hF
  rintro e w2 ⟨L2, p2, c2, rfl, hv2, hL2, hb2⟩
  rw [← HW.out] at hb2
  have cA2 := cA.later hb2
  have b2 := b1.trans (hb2.mono b1.size)
  have l2 := Nat.le_of_eq (congrArg List.length hL2.out)
  rw [List.length_append] at l2
  clear HW hb2 cA b1 hv
  have m0 : w2.cell? ⟨w.heap.size, 0, none⟩ = some (.int .i64 a.code) := cA2.cell rfl
  rw [hc.out] at m0
  obtain ⟨n0, n1, n2, n3, n4, n5, n6, n7, n8⟩ := ans_cells cA2
  have hG := feed_any (.slice p2 L2.length c2) L2 a (.slice pk a.key.length ck) (.slice pi a.its.length ci) (.slice pe a.evs.length ce) w2 hv2 (hev.later b2) he (by omega)
  unfold ansC at hG
  rw [hc.out] at hG n0
  go_wp2_with fail
  refine hG.mono ?_
  clear hG
  rintro e w3 ⟨L3, p3, c3, rfl, hv3, hL3, hb3⟩
  have b3 := b2.trans (hb3.mono b2.size)
  have HLL : Hid (L3 = l ++ L) := by
    show L3 = l ++ L
    rw [HL.out, hL3.out, hL2.out]
    simp [List.append_assoc]
  go_wp2
  go_ret
  exact ⟨L3, p3, c3, rfl, hv3, HLL, b3⟩

set_option maxHeartbeats 600000 in
theorem rans0 (v : Value) (l : List UInt8) (k : Int) (a : AA) (kv iv ev : Value) (w : World) (hv : HB w v l) (ha : AnsV w a kv iv ev) (hbig : l.length + (wrA k a).length ≤ 140737488350000) (hc : Hid (a.code = 0)) (hk : ¬ (k = 1 ∨ k = 3 ∨ k = 4 ∨ k = 5 ∨ k = 6 ∨ k = 7 ∨ k = 10)) (HK : wrK k a = []) :
    Calls Try.prog 10 #[v, .int .i64 k, .agg (ansC a kv iv ev)] w (PutT l (wrA k a) w) := by
  have b1 := (Below.refl w.heap.size w).alloc (Nat.le_refl _) (.cells (ansC a kv iv ev) 27)
  have cA := CB.made 27 w (ansC a kv iv ev)
  obtain ⟨w1, hw1⟩ : ∃ x, x = w.alloc (.cells (ansC a kv iv ev) 27) := ⟨_, rfl⟩
  rw [← hw1] at b1 cA
  have hF := put_uint v l a.code w1 (hv.later b1) (by omega)
  have HW : Hid (w1 = w.alloc (.cells (ansC a kv iv ev) 27)) := hw1
  rw [hw1] at hF
  clear hw1
  obtain ⟨pv, cv, rfl⟩ := hv.shape
  obtain ⟨hky, hit, hev⟩ := ha
  obtain ⟨pk, ck, rfl⟩ := hky.shape
  obtain ⟨pi, ci, rfl⟩ := hit.shape
  obtain ⟨pe, ce, rfl⟩ := hev.shape
  have hwr : wrA k a = numL (clampN a.code) ++ ([]) := by unfold wrA; rw [if_pos hc.out, HK]
  rw [hwr] at hbig
  simp only [List.length_append] at hbig
  obtain ⟨L, hL⟩ : ∃ L, L = wrA k a := ⟨_, rfl⟩
  rw [← hL]
  have HL : Hid (L = numL (clampN a.code) ++ ([])) := hL.trans hwr
  clear hL hwr
  unfold ansC at hF HW ⊢
  go_enter Try.func10, Try.ntmps10
  go_wp2_with fail
  refine hF.mono ?_
  clear hF
  rintro e w2 ⟨L2, p2, c2, rfl, hv2, hL2, hb2⟩
  rw [← HW.out] at hb2
  have cA2 := cA.later hb2
  have b2 := b1.trans (hb2.mono b1.size)
  have l2 := Nat.le_of_eq (congrArg List.length hL2.out)
  rw [List.length_append] at l2
  clear HW hb2 cA b1 hv
  have m0 : w2.cell? ⟨w.heap.size, 0, none⟩ = some (.int .i64 a.code) := cA2.cell rfl
  rw [hc.out] at m0
  have q1 : (k == 1) = false := by simpa using fun h => hk (by omega)
  have q3 : (k == 3) = false := by simpa using fun h => hk (by omega)
  have q4 : (k == 4) = false := by simpa using fun h => hk (by omega)
  have q5 : (k == 5) = false := by simpa using fun h => hk (by omega)
  have q6 : (k == 6) = false := by simpa using fun h => hk (by omega)
  have q7 : (k == 7) = false := by simpa using fun h => hk (by omega)
  have q10 : (k == 10) = false := by simpa using fun h => hk (by omega)
  have HLL : Hid (L2 = l ++ L) := by
    show L2 = l ++ L
    rw [HL.out, hL2.out]
    simp
  go_wp2
  go_ret
  exact ⟨L2, p2, c2, rfl, hv2, HLL, b2⟩

set_option maxHeartbeats 600000 in
theorem rans6 (v : Value) (l : List UInt8) (a : AA) (kv iv ev : Value) (w : World) (hv : HB w v l) (ha : AnsV w a kv iv ev) (hi : a.its.length ≤ 1000) (hbig : l.length + (wrA 6 a).length ≤ 140737488350000) (hc : Hid (a.code = 0)) (HK : wrK 6 a = numL (clampN (a.its.length : Int)) ++ (wrIs a.its ++ flagL a.mo)) :
    Calls Try.prog 10 #[v, .int .i64 6, .agg (ansC a kv iv ev)] w (PutT l (wrA 6 a) w) := by
  have b1 := (Below.refl w.heap.size w).alloc (Nat.le_refl _) (.cells (ansC a kv iv ev) 27)
  have cA := CB.made 27 w (ansC a kv iv ev)
  obtain ⟨w1, hw1⟩ : ∃ x, x = w.alloc (.cells (ansC a kv iv ev) 27) := ⟨_, rfl⟩
  rw [← hw1] at b1 cA
  have hF := put_uint v l a.code w1 (hv.later b1) (by omega)
  have HW : Hid (w1 = w.alloc (.cells (ansC a kv iv ev) 27)) := hw1
  rw [hw1] at hF
  clear hw1
  obtain ⟨pv, cv, rfl⟩ := hv.shape
  obtain ⟨hky, hit, hev⟩ := ha
  obtain ⟨pk, ck, rfl⟩ := hky.shape
  obtain ⟨pi, ci, rfl⟩ := hit.shape
  obtain ⟨pe, ce, rfl⟩ := hev.shape
  have hwr : wrA 6 a = numL (clampN a.code) ++ (numL (clampN (a.its.length : Int)) ++ (wrIs a.its ++ flagL a.mo)) := by unfold wrA; rw [if_pos hc.out, HK]
  rw [hwr] at hbig
  simp only [List.length_append] at hbig
  obtain ⟨L, hL⟩ : ∃ L, L = wrA 6 a := ⟨_, rfl⟩
  rw [← hL]
  have HL : Hid (L = numL (clampN a.code) ++ (numL (clampN (a.its.length : Int)) ++ (wrIs a.its ++ flagL a.mo))) := hL.trans hwr
  clear hL hwr
  unfold ansC at hF HW ⊢
  go_enter Try.func10, Try.ntmps10
  go_wp2_with fail
  refine hF.mono ?_
  clear hF
  rintro e w2 ⟨L2, p2, c2, rfl, hv2, hL2, hb2⟩
  rw [← HW.out] at hb2
  have cA2 := cA.later hb2
  have b2 := b1.trans (hb2.mono b1.size)
  have l2 := Nat.le_of_eq (congrArg List.length hL2.out)
  rw [List.length_append] at l2
  clear HW hb2 cA b1 hv
  have m0 : w2.cell? ⟨w.heap.size, 0, none⟩ = some (.int .i64 a.code) := cA2.cell rfl
  rw [hc.out] at m0
  obtain ⟨_, n1, n2, n3, n4, n5, n6, n7, n8⟩ := ans_cells cA2
  have hG := (put_uint (.slice p2 L2.length c2) L2 (a.its.length : Int) w2 hv2 (by omega))
  go_wp2_with fail
  refine hG.mono ?_
  clear hG
  rintro e w3 ⟨L3, p3, c3, rfl, hv3, hL3, hb3⟩
  have b3 := b2.trans (hb3.mono b2.size)
  have cA3 := cA2.later hb3
  have l3 := Nat.le_of_eq (congrArg List.length hL3.out)
  rw [List.length_append] at l3
  have m6 : w3.cell? ⟨w.heap.size, 6, none⟩ = some (.slice pi a.its.length ci) := cA3.cell rfl
  clear n1 n2 n3 n4 n5 n6 n7 n8 m0 hb3 cA2 b2 hv2
  go_wp2
  clear m6
  go_loopw [0, 56] (fun y i wr => ∃ k : Nat, k ≤ a.its.length ∧ i = .int .i64 (k : Int) ∧ ∃ LL p c, y = .slice p LL.length c ∧ HB wr (.slice p LL.length c) LL ∧ Hid (LL = L3 ++ wrIs (a.its.take k)) ∧ Below w.heap.size w wr ∧ CB 27 wr w.heap.size (ansC a (.slice pk a.key.length ck) (.slice pi a.its.length ci) (.slice pe a.evs.length ce))) (fun _ i _ => a.its.length - (intOf i).toNat)
  case atStart => exact ⟨0, Nat.zero_le _, rfl, L3, p3, c3, rfl, hv3, by simp [Hid, wrIs], b3, cA3⟩
  case round =>
    clear hv3 b3 cA3
    obtain ⟨k, hk, rfl, L4, p4, c4, rfl, hv4, hL4, b4, cA4⟩ := hrel
    have l4 := Nat.le_of_eq (congrArg List.length hL4.out)
    rw [List.length_append] at l4
    by_cases hlt : k < a.its.length
    · obtain ⟨bl, o, rfl, hx⟩ := hit.addr (by intro h; rw [h] at hlt; simp at hlt)
      obtain ⟨x, hxk⟩ : ∃ x, a.its[k]? = some x := ⟨_, List.getElem?_eq_getElem hlt⟩
      obtain ⟨q, kc, r, d, hE⟩ := hx k x hxk
      have HT : Hid (wrIs (a.its.take (k + 1)) = wrIs (a.its.take k) ++ wrI x) := (wrIs_take hxk).1
      have hlen := (wrIs_take hxk).2
      unfold wrI at hlen
      simp only [List.length_append] at hlen
      have hx1 : x.id.length ≤ (bytesL x.id).length := by unfold bytesL; simp
      have hx2 : x.key.length ≤ (bytesL x.key).length := by unfold bytesL; simp
      have hlt2 : (k : Int) < (a.its.length : Int) := by omega
      obtain ⟨⟨e0, e1, e2⟩, hid, hxy⟩ := hE.later b4
      have bB := (Below.refl wr.heap.size wr).alloc (Nat.le_refl _) (.cells #[.slice q x.id.length kc, .slice r x.key.length d, .int .i64 x.si] 58)
      have cB := CB.made 58 wr #[.slice q x.id.length kc, .slice r x.key.length d, .int .i64 x.si]
      obtain ⟨w5, hw5⟩ : ∃ z, z = wr.alloc (.cells #[.slice q x.id.length kc, .slice r x.key.length d, .int .i64 x.si] 58) := ⟨_, rfl⟩
      rw [← hw5] at bB cB
      have hb5 := b4.trans (bB.mono b4.size)
      have hv5 := hv4.later bB
      have cA5a := cA4.later bB
      have hid5 := hid.later bB
      have hky5 := hxy.later bB
      clear hx hxk hE hid hxy cA4 bB
      go_wp2
      rw [← hw5]
      clear hw5 e0 e1 e2
      have bW := Below.refl w5.heap.size w5
      have hd := Below.drew (Below.refl w5.heap.size w5)
      have bD := Below.drew bW
      have hvd := hv5.later hd
      have hS : w5.cell? ⟨wr.heap.size, 0, none⟩ = some (.slice q x.id.length kc) ∧ w5.cell? ⟨wr.heap.size, 1, none⟩ = some (.slice r x.key.length d) ∧ w5.cell? ⟨wr.heap.size, 2, none⟩ = some (.int .i64 x.si) := ⟨cB.cell rfl, cB.cell rfl, cB.cell rfl⟩
      have hSd : w5.drew.cell? ⟨wr.heap.size, 0, none⟩ = some (.slice q x.id.length kc) ∧ w5.drew.cell? ⟨wr.heap.size, 1, none⟩ = some (.slice r x.key.length d) ∧ w5.drew.cell? ⟨wr.heap.size, 2, none⟩ = some (.int .i64 x.si) := hS
      have cAd := cB.later hd
      have H6 := put_bytes (.slice p4 L4.length c4) (.slice q x.id.length kc) L4 x.id w5.drew hvd (hid5.later bD) (by omega)
      go_region_held3 (fun w' => w'.cell? ⟨wr.heap.size, 0, none⟩ = some (.slice q x.id.length kc) ∧ w'.cell? ⟨wr.heap.size, 1, none⟩ = some (.slice r x.key.length d) ∧ w'.cell? ⟨wr.heap.size, 2, none⟩ = some (.int .i64 x.si)) (first | with_reducible exact hS | with_reducible exact hSd | with_reducible exact hS6 | with_reducible exact hS7 | with_reducible exact hS8) (first
        | (go_at_call_of 27 (Value.slice p4 L4.length c4); refine H6.mono ?_; rintro e w6 ⟨L6, p6, c6, rfl, hv6, hL6, hb6⟩; have cA6 := cAd.later hb6; have bD6 := bD.trans (hb6.mono bD.size); have hS6 : w6.cell? ⟨wr.heap.size, 0, none⟩ = some (.slice q x.id.length kc) ∧ w6.cell? ⟨wr.heap.size, 1, none⟩ = some (.slice r x.key.length d) ∧ w6.cell? ⟨wr.heap.size, 2, none⟩ = some (.int .i64 x.si) := ⟨cA6.cell rfl, cA6.cell rfl, cA6.cell rfl⟩; have l6 := Nat.le_of_eq (congrArg List.length hL6.out); rw [List.length_append] at l6; have H7 := put_bytes (.slice p6 L6.length c6) (.slice r x.key.length d) L6 x.key w6 hv6 (hky5.later bD6) (by omega))
        | (go_at_call_of 27 (Value.slice p6 L6.length c6); refine H7.mono ?_; rintro e w7 ⟨L7, p7, c7, rfl, hv7, hL7, hb7⟩; have cA7 := cA6.later hb7; have bD7 := bD6.trans (hb7.mono bD6.size); have hS7 : w7.cell? ⟨wr.heap.size, 0, none⟩ = some (.slice q x.id.length kc) ∧ w7.cell? ⟨wr.heap.size, 1, none⟩ = some (.slice r x.key.length d) ∧ w7.cell? ⟨wr.heap.size, 2, none⟩ = some (.int .i64 x.si) := ⟨cA7.cell rfl, cA7.cell rfl, cA7.cell rfl⟩; have l7 := Nat.le_of_eq (congrArg List.length hL7.out); rw [List.length_append] at l7; have H8 := put_uint (.slice p7 L7.length c7) L7 x.si w7 hv7 (by omega))
        | (go_at_call_of 24 (Value.slice p7 L7.length c7); refine H8.mono ?_; rintro e w8 ⟨L8, p8, c8, rfl, hv8, hL8, hb8⟩; have cA8 := cA7.later hb8; have bD8 := bD7.trans (hb8.mono bD7.size); have hS8 : w8.cell? ⟨wr.heap.size, 0, none⟩ = some (.slice q x.id.length kc) ∧ w8.cell? ⟨wr.heap.size, 1, none⟩ = some (.slice r x.key.length d) ∧ w8.cell? ⟨wr.heap.size, 2, none⟩ = some (.int .i64 x.si) := ⟨cA8.cell rfl, cA8.cell rfl, cA8.cell rfl⟩; have l8 := Nat.le_of_eq (congrArg List.length hL8.out); rw [List.length_append] at l8))
      clear hS hSd hd bD hvd cAd hS6 hS7 hS8 H6 H7 H8 hb6 hb7 hb8
      have b8 := hb5.trans (bD8.mono hb5.size)
      have cA9 := cA5a.later bD8
      have HL8 : Hid (L8 = L3 ++ wrIs (a.its.take (k + 1))) := by
        show L8 = _
        rw [HT.out, hL8.out, hL7.out, hL6.out, hL4.out]
        unfold wrI
        simp only [List.append_assoc]
      clear HT hL4 hL6 hL7 hL8 hlen hx1 hx2 l4 l6 l7 l8
      go_wp2
      go_roundw
      case rel => first | exact ⟨k + 1, by omega, by go_num, L8, p8, c8, rfl, hv8, HL8, b8, cA9⟩ | ((repeat apply Exists.intro); exact ⟨⟨k + 1, by omega, by go_num, L8, p8, c8, rfl, hv8, HL8, b8, cA9⟩, rfl⟩)
      case measure => simp [intOf]; omega
    · obtain rfl : k = a.its.length := by omega
      rw [List.take_length] at hL4 l4
      have hF := put_flag (.slice p4 L4.length c4) L4 a.mo wr hv4 (by omega)
      have m8 : wr.cell? ⟨w.heap.size, 8, none⟩ = some (.bool a.mo) := cA4.cell rfl
      go_wp2_with fail
      refine hF.mono ?_
      clear hF
      rintro e w6 ⟨L6, p6, c6, rfl, hv6, hL6, hb6⟩
      have b6 := b4.trans (hb6.mono b4.size)
      clear m8 cA4 hb6 b4 hv4
      have HLL : Hid (L6 = l ++ L) := by
        show L6 = l ++ L
        rw [HL.out, hL6.out, hL4.out, hL3.out, hL2.out]
        simp only [List.append_assoc]
      go_wp2
      go_ret
      exact ⟨L6, p6, c6, rfl, hv6, HLL, b6⟩

set_option maxHeartbeats 600000 in
theorem rans10 (v : Value) (l : List UInt8) (a : AA) (kv iv ev : Value) (w : World) (hv : HB w v l) (ha : AnsV w a kv iv ev) (hi : a.its.length ≤ 1000) (hbig : l.length + (wrA 10 a).length ≤ 140737488350000) (hc : Hid (a.code = 0)) (HK : wrK 10 a = numL (clampN (a.its.length : Int)) ++ (wrIs a.its ++ flagL a.mo)) :
    Calls Try.prog 10 #[v, .int .i64 10, .agg (ansC a kv iv ev)] w (PutT l (wrA 10 a) w) := by
  have b1 := (Below.refl w.heap.size w).alloc (Nat.le_refl _) (.cells (ansC a kv iv ev) 27)
  have cA := CB.made 27 w (ansC a kv iv ev)
  obtain ⟨w1, hw1⟩ : ∃ x, x = w.alloc (.cells (ansC a kv iv ev) 27) := ⟨_, rfl⟩
  rw [← hw1] at b1 cA
  have hF := put_uint v l a.code w1 (hv.later b1) (by omega)
  have HW : Hid (w1 = w.alloc (.cells (ansC a kv iv ev) 27)) := hw1
  rw [hw1] at hF
  clear hw1
  obtain ⟨pv, cv, rfl⟩ := hv.shape
  obtain ⟨hky, hit, hev⟩ := ha
  obtain ⟨pk, ck, rfl⟩ := hky.shape
  obtain ⟨pi, ci, rfl⟩ := hit.shape
  obtain ⟨pe, ce, rfl⟩ := hev.shape
  have hwr : wrA 10 a = numL (clampN a.code) ++ (numL (clampN (a.its.length : Int)) ++ (wrIs a.its ++ flagL a.mo)) := by unfold wrA; rw [if_pos hc.out, HK]
  rw [hwr] at hbig
  simp only [List.length_append] at hbig
  obtain ⟨L, hL⟩ : ∃ L, L = wrA 10 a := ⟨_, rfl⟩
  rw [← hL]
  have HL : Hid (L = numL (clampN a.code) ++ (numL (clampN (a.its.length : Int)) ++ (wrIs a.its ++ flagL a.mo))) := hL.trans hwr
  clear hL hwr
  unfold ansC at hF HW ⊢
  go_enter Try.func10, Try.ntmps10
  go_wp2_with fail
  refine hF.mono ?_
  clear hF
  rintro e w2 ⟨L2, p2, c2, rfl, hv2, hL2, hb2⟩
  rw [← HW.out] at hb2
  have cA2 := cA.later hb2
  have b2 := b1.trans (hb2.mono b1.size)
  have l2 := Nat.le_of_eq (congrArg List.length hL2.out)
  rw [List.length_append] at l2
  clear HW hb2 cA b1 hv
  have m0 : w2.cell? ⟨w.heap.size, 0, none⟩ = some (.int .i64 a.code) := cA2.cell rfl
  rw [hc.out] at m0
  obtain ⟨_, n1, n2, n3, n4, n5, n6, n7, n8⟩ := ans_cells cA2
  have hG := (put_uint (.slice p2 L2.length c2) L2 (a.its.length : Int) w2 hv2 (by omega))
  go_wp2_with fail
  refine hG.mono ?_
  clear hG
  rintro e w3 ⟨L3, p3, c3, rfl, hv3, hL3, hb3⟩
  have b3 := b2.trans (hb3.mono b2.size)
  have cA3 := cA2.later hb3
  have l3 := Nat.le_of_eq (congrArg List.length hL3.out)
  rw [List.length_append] at l3
  have m6 : w3.cell? ⟨w.heap.size, 6, none⟩ = some (.slice pi a.its.length ci) := cA3.cell rfl
  clear n1 n2 n3 n4 n5 n6 n7 n8 m0 hb3 cA2 b2 hv2
  go_wp2
  clear m6
  go_loopw [0, 56] (fun y i wr => ∃ k : Nat, k ≤ a.its.length ∧ i = .int .i64 (k : Int) ∧ ∃ LL p c, y = .slice p LL.length c ∧ HB wr (.slice p LL.length c) LL ∧ Hid (LL = L3 ++ wrIs (a.its.take k)) ∧ Below w.heap.size w wr ∧ CB 27 wr w.heap.size (ansC a (.slice pk a.key.length ck) (.slice pi a.its.length ci) (.slice pe a.evs.length ce))) (fun _ i _ => a.its.length - (intOf i).toNat)
  case atStart => exact ⟨0, Nat.zero_le _, rfl, L3, p3, c3, rfl, hv3, by simp [Hid, wrIs], b3, cA3⟩
  case round =>
    clear hv3 b3 cA3
    obtain ⟨k, hk, rfl, L4, p4, c4, rfl, hv4, hL4, b4, cA4⟩ := hrel
    have l4 := Nat.le_of_eq (congrArg List.length hL4.out)
    rw [List.length_append] at l4
    by_cases hlt : k < a.its.length
    · obtain ⟨bl, o, rfl, hx⟩ := hit.addr (by intro h; rw [h] at hlt; simp at hlt)
      obtain ⟨x, hxk⟩ : ∃ x, a.its[k]? = some x := ⟨_, List.getElem?_eq_getElem hlt⟩
      obtain ⟨q, kc, r, d, hE⟩ := hx k x hxk
      have HT : Hid (wrIs (a.its.take (k + 1)) = wrIs (a.its.take k) ++ wrI x) := (wrIs_take hxk).1
      have hlen := (wrIs_take hxk).2
      unfold wrI at hlen
      simp only [List.length_append] at hlen
      have hx1 : x.id.length ≤ (bytesL x.id).length := by unfold bytesL; simp
      have hx2 : x.key.length ≤ (bytesL x.key).length := by unfold bytesL; simp
      have hlt2 : (k : Int) < (a.its.length : Int) := by omega
      obtain ⟨⟨e0, e1, e2⟩, hid, hxy⟩ := hE.later b4
      have bB := (Below.refl wr.heap.size wr).alloc (Nat.le_refl _) (.cells #[.slice q x.id.length kc, .slice r x.key.length d, .int .i64 x.si] 58)
      have cB := CB.made 58 wr #[.slice q x.id.length kc, .slice r x.key.length d, .int .i64 x.si]
      obtain ⟨w5, hw5⟩ : ∃ z, z = wr.alloc (.cells #[.slice q x.id.length kc, .slice r x.key.length d, .int .i64 x.si] 58) := ⟨_, rfl⟩
      rw [← hw5] at bB cB
      have hb5 := b4.trans (bB.mono b4.size)
      have hv5 := hv4.later bB
      have cA5a := cA4.later bB
      have hid5 := hid.later bB
      have hky5 := hxy.later bB
      clear hx hxk hE hid hxy cA4 bB
      go_wp2
      rw [← hw5]
      clear hw5 e0 e1 e2
      have bW := Below.refl w5.heap.size w5
      have hd := Below.drew (Below.refl w5.heap.size w5)
      have bD := Below.drew bW
      have hvd := hv5.later hd
      have hS : w5.cell? ⟨wr.heap.size, 0, none⟩ = some (.slice q x.id.length kc) ∧ w5.cell? ⟨wr.heap.size, 1, none⟩ = some (.slice r x.key.length d) ∧ w5.cell? ⟨wr.heap.size, 2, none⟩ = some (.int .i64 x.si) := ⟨cB.cell rfl, cB.cell rfl, cB.cell rfl⟩
      have hSd : w5.drew.cell? ⟨wr.heap.size, 0, none⟩ = some (.slice q x.id.length kc) ∧ w5.drew.cell? ⟨wr.heap.size, 1, none⟩ = some (.slice r x.key.length d) ∧ w5.drew.cell? ⟨wr.heap.size, 2, none⟩ = some (.int .i64 x.si) := hS
      have cAd := cB.later hd
      have H6 := put_bytes (.slice p4 L4.length c4) (.slice q x.id.length kc) L4 x.id w5.drew hvd (hid5.later bD) (by omega)
      go_region_held3 (fun w' => w'.cell? ⟨wr.heap.size, 0, none⟩ = some (.slice q x.id.length kc) ∧ w'.cell? ⟨wr.heap.size, 1, none⟩ = some (.slice r x.key.length d) ∧ w'.cell? ⟨wr.heap.size, 2, none⟩ = some (.int .i64 x.si)) (first | with_reducible exact hS | with_reducible exact hSd | with_reducible exact hS6 | with_reducible exact hS7 | with_reducible exact hS8) (first
        | (go_at_call_of 27 (Value.slice p4 L4.length c4); refine H6.mono ?_; rintro e w6 ⟨L6, p6, c6, rfl, hv6, hL6, hb6⟩; have cA6 := cAd.later hb6; have bD6 := bD.trans (hb6.mono bD.size); have hS6 : w6.cell? ⟨wr.heap.size, 0, none⟩ = some (.slice q x.id.length kc) ∧ w6.cell? ⟨wr.heap.size, 1, none⟩ = some (.slice r x.key.length d) ∧ w6.cell? ⟨wr.heap.size, 2, none⟩ = some (.int .i64 x.si) := ⟨cA6.cell rfl, cA6.cell rfl, cA6.cell rfl⟩; have l6 := Nat.le_of_eq (congrArg List.length hL6.out); rw [List.length_append] at l6; have H7 := put_bytes (.slice p6 L6.length c6) (.slice r x.key.length d) L6 x.key w6 hv6 (hky5.later bD6) (by omega))
        | (go_at_call_of 27 (Value.slice p6 L6.length c6); refine H7.mono ?_; rintro e w7 ⟨L7, p7, c7, rfl, hv7, hL7, hb7⟩; have cA7 := cA6.later hb7; have bD7 := bD6.trans (hb7.mono bD6.size); have hS7 : w7.cell? ⟨wr.heap.size, 0, none⟩ = some (.slice q x.id.length kc) ∧ w7.cell? ⟨wr.heap.size, 1, none⟩ = some (.slice r x.key.length d) ∧ w7.cell? ⟨wr.heap.size, 2, none⟩ = some (.int .i64 x.si) := ⟨cA7.cell rfl, cA7.cell rfl, cA7.cell rfl⟩; have l7 := Nat.le_of_eq (congrArg List.length hL7.out); rw [List.length_append] at l7; have H8 := put_uint (.slice p7 L7.length c7) L7 x.si w7 hv7 (by omega))
        | (go_at_call_of 24 (Value.slice p7 L7.length c7); refine H8.mono ?_; rintro e w8 ⟨L8, p8, c8, rfl, hv8, hL8, hb8⟩; have cA8 := cA7.later hb8; have bD8 := bD7.trans (hb8.mono bD7.size); have hS8 : w8.cell? ⟨wr.heap.size, 0, none⟩ = some (.slice q x.id.length kc) ∧ w8.cell? ⟨wr.heap.size, 1, none⟩ = some (.slice r x.key.length d) ∧ w8.cell? ⟨wr.heap.size, 2, none⟩ = some (.int .i64 x.si) := ⟨cA8.cell rfl, cA8.cell rfl, cA8.cell rfl⟩; have l8 := Nat.le_of_eq (congrArg List.length hL8.out); rw [List.length_append] at l8))
      clear hS hSd hd bD hvd cAd hS6 hS7 hS8 H6 H7 H8 hb6 hb7 hb8
      have b8 := hb5.trans (bD8.mono hb5.size)
      have cA9 := cA5a.later bD8
      have HL8 : Hid (L8 = L3 ++ wrIs (a.its.take (k + 1))) := by
        show L8 = _
        rw [HT.out, hL8.out, hL7.out, hL6.out, hL4.out]
        unfold wrI
        simp only [List.append_assoc]
      clear HT hL4 hL6 hL7 hL8 hlen hx1 hx2 l4 l6 l7 l8
      go_wp2
      go_roundw
      case rel => first | exact ⟨k + 1, by omega, by go_num, L8, p8, c8, rfl, hv8, HL8, b8, cA9⟩ | ((repeat apply Exists.intro); exact ⟨⟨k + 1, by omega, by go_num, L8, p8, c8, rfl, hv8, HL8, b8, cA9⟩, rfl⟩)
      case measure => simp [intOf]; omega
    · obtain rfl : k = a.its.length := by omega
      rw [List.take_length] at hL4 l4
      have hF := put_flag (.slice p4 L4.length c4) L4 a.mo wr hv4 (by omega)
      have m8 : wr.cell? ⟨w.heap.size, 8, none⟩ = some (.bool a.mo) := cA4.cell rfl
      go_wp2_with fail
      refine hF.mono ?_
      clear hF
      rintro e w6 ⟨L6, p6, c6, rfl, hv6, hL6, hb6⟩
      have b6 := b4.trans (hb6.mono b4.size)
      clear m8 cA4 hb6 b4 hv4
      have HLL : Hid (L6 = l ++ L) := by
        show L6 = l ++ L
        rw [HL.out, hL6.out, hL4.out, hL3.out, hL2.out]
        simp only [List.append_assoc]
      go_wp2
      go_ret
      exact ⟨L6, p6, c6, rfl, hv6, HLL, b6⟩

end Go.Proofs.Ytldmbfemoepfkaa

namespace Go.Proofs.Ytldmbfemoepfkaa
open Go.RowKit

theorem ranswer_any (v : Value) (l : List UInt8) (k : Int) (a : AA) (kv iv ev : Value) (w : World) (hv : HB w v l) (ha : AnsV w a kv iv ev) (hi : a.its.length ≤ 1000) (he : a.evs.length ≤ 1000) (hkb : a.key.length ≤ 70368744177664) (hlb : l.length ≤ 70368744170000) (hbig : l.length + (wrA k a).length ≤ 140737488350000) :
    Calls Try.prog 10 #[v, .int .i64 k, .agg (ansC a kv iv ev)] w (PutT l (wrA k a) w) := by
  by_cases hc : a.code = 0
  · by_cases k1 : k = 1
    · subst k1; exact rans1 v l a kv iv ev w hv ha hbig hc rfl
    by_cases k3 : k = 3
    · subst k3; exact rans3 v l a kv iv ev w hv ha hkb hlb hc rfl
    by_cases k4 : k = 4
    · subst k4; exact rans4 v l a kv iv ev w hv ha hkb hlb hc rfl
    by_cases k5 : k = 5
    · subst k5; exact rans5 v l a kv iv ev w hv ha hkb hlb hc rfl
    by_cases k6 : k = 6
    · subst k6; exact rans6 v l a kv iv ev w hv ha hi hbig hc rfl
    by_cases k7 : k = 7
    · subst k7; exact rans7 v l a kv iv ev w hv ha he hbig hc rfl
    by_cases k10 : k = 10
    · subst k10; exact rans10 v l a kv iv ev w hv ha hi hbig hc rfl
    refine rans0 v l k a kv iv ev w hv ha hbig hc (by omega) ?_
    unfold wrK
    rw [if_neg k1, if_neg k3, if_neg k4, if_neg k5, if_neg (by omega), if_neg k7]
  · exact rans_code v l k a kv iv ev w hv ha hbig hc

end Go.Proofs.Ytldmbfemoepfkaa
