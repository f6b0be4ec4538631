/- What this text proves: the walk of annalsref25.bytes over this program, by kinds. (By program: mkakrb.py.) -/
import Derived.Test.YthkgbgkijdeaoaaJQ1
import Derived.Test.YthkgbgkijdeaoaaJP1
import Derived.Test.YthkgbgkijdeaoaaStepInv
import Derived.Test.YthkgbgkijdeaoaaJW1
namespace Go.Proofs.Ythkgbgkijdeaoaa
open Go.RowKit

set_option maxRecDepth 100000 in
set_option maxHeartbeats 4000000 in
theorem rb1 (fr to ti ep ix li : Int) (so : Bool) (p q : Option Addr) (c d : Nat) (id : List UInt8) (bs : List (List UInt8 × List UInt8)) (w : World) (hba : BA w (.slice q bs.length d) bs) (hbb : bulkB bs ≤ 1048576) (hbn : bs.length ≤ 40) :
    Calls Try.prog 24 #[.agg #[.int .i64 1, .slice p id.length c, .int .i64 fr, .int .i64 to, .int .i64 ti, .bool so, .int .i64 ep, .int .i64 ix, .int .i64 li, .slice q bs.length d]] w (PutT (numL (clampN 1)) (wrL bs) w) := by
  have a0 : AB (w.alloc (.cells #[.int .i64 1, .slice p id.length c, .int .i64 fr, .int .i64 to, .int .i64 ti, .bool so, .int .i64 ep, .int .i64 ix, .int .i64 li, .slice q bs.length d] 25)) w.heap.size #[.int .i64 1, .slice p id.length c, .int .i64 fr, .int .i64 to, .int .i64 ti, .bool so, .int .i64 ep, .int .i64 ix, .int .i64 li, .slice q bs.length d] := heap_alloc_new w _
  have b0 := (Below.refl w.heap.size w).alloc (Nat.le_refl _) (.cells #[.int .i64 1, .slice p id.length c, .int .i64 fr, .int .i64 to, .int .i64 ti, .bool so, .int .i64 ep, .int .i64 ix, .int .i64 li, .slice q bs.length d] 25)
  obtain ⟨w0, hw0⟩ : ∃ x, x = w.alloc (.cells #[.int .i64 1, .slice p id.length c, .int .i64 fr, .int .i64 to, .int .i64 ti, .bool so, .int .i64 ep, .int .i64 ix, .int .i64 li, .slice q bs.length d] 25) := ⟨_, rfl⟩
  rw [← hw0] at a0 b0
  have H0 := put_uint (.slice none 0 0) [] 1 w0 (HB.nil _) (by simp)
  rw [hw0] at H0
  have HW0 : Hid (w0 = w.alloc (.cells #[.int .i64 1, .slice p id.length c, .int .i64 fr, .int .i64 to, .int .i64 ti, .bool so, .int .i64 ep, .int .i64 ix, .int .i64 li, .slice q bs.length d] 25)) := hw0
  clear hw0
  have zK := numL9 1
  go_enter Try.func24, Try.ntmps24
  go_wp2_with fail
  refine H0.mono ?_
  clear H0
  rintro e w1 ⟨L1, p1, c1, rfl, hv1, hL1, hb1⟩
  rw [← HW0.out] at hb1
  have ln1 : L1.length ≤ 9 := len_app hL1 (by simp only [List.length_nil]; omega)
  have a1 := a0.later hb1
  have b1 := b0.trans (hb1.mono b0.size)
  clear a0 b0 hb1 HW0
  obtain ⟨d0, d1, d2, d3, d4, d5, d6, d7, d8, d9⟩ := ask_cells a1
  have H1 := put_batch (.slice p1 L1.length c1) (.slice q bs.length d) L1 bs w1 hv1 (hba.later b1) (by omega) hbb hbn
  go_wp2_with fail
  refine H1.mono ?_
  clear H1 d0 d1 d2 d3 d4 d5 d6 d7 d8 d9
  rintro e w2 ⟨L2, p2, c2, rfl, hv2, hL2, hb2⟩
  have a2 := a1.later hb2
  have b2 := b1.trans (hb2.mono b1.size)
  obtain ⟨d0, d1, d2, d3, d4, d5, d6, d7, d8, d9⟩ := ask_cells a2
  go_wp2
  go_ret
  refine ⟨_, _, _, rfl, hv2, ?_, b2⟩
  show L2 = _
  rw [hL2.out, hL1.out]
  simp only [List.nil_append]

set_option maxRecDepth 100000 in
set_option maxHeartbeats 4000000 in
theorem rb2 (fr to ti ep ix li : Int) (so : Bool) (p q : Option Addr) (c d : Nat) (id : List UInt8) (bs : List (List UInt8 × List UInt8)) (w : World) :
    Calls Try.prog 24 #[.agg #[.int .i64 2, .slice p id.length c, .int .i64 fr, .int .i64 to, .int .i64 ti, .bool so, .int .i64 ep, .int .i64 ix, .int .i64 li, .slice q bs.length d]] w (PutT (numL (clampN 2)) (numL (clampN ti)) w) := by
  have a0 : AB (w.alloc (.cells #[.int .i64 2, .slice p id.length c, .int .i64 fr, .int .i64 to, .int .i64 ti, .bool so, .int .i64 ep, .int .i64 ix, .int .i64 li, .slice q bs.length d] 25)) w.heap.size #[.int .i64 2, .slice p id.length c, .int .i64 fr, .int .i64 to, .int .i64 ti, .bool so, .int .i64 ep, .int .i64 ix, .int .i64 li, .slice q bs.length d] := heap_alloc_new w _
  have b0 := (Below.refl w.heap.size w).alloc (Nat.le_refl _) (.cells #[.int .i64 2, .slice p id.length c, .int .i64 fr, .int .i64 to, .int .i64 ti, .bool so, .int .i64 ep, .int .i64 ix, .int .i64 li, .slice q bs.length d] 25)
  obtain ⟨w0, hw0⟩ : ∃ x, x = w.alloc (.cells #[.int .i64 2, .slice p id.length c, .int .i64 fr, .int .i64 to, .int .i64 ti, .bool so, .int .i64 ep, .int .i64 ix, .int .i64 li, .slice q bs.length d] 25) := ⟨_, rfl⟩
  rw [← hw0] at a0 b0
  have H0 := put_uint (.slice none 0 0) [] 2 w0 (HB.nil _) (by simp)
  rw [hw0] at H0
  have HW0 : Hid (w0 = w.alloc (.cells #[.int .i64 2, .slice p id.length c, .int .i64 fr, .int .i64 to, .int .i64 ti, .bool so, .int .i64 ep, .int .i64 ix, .int .i64 li, .slice q bs.length d] 25)) := hw0
  clear hw0
  have zK := numL9 2
  have z4 := numL9 ti
  go_enter Try.func24, Try.ntmps24
  go_wp2_with fail
  refine H0.mono ?_
  clear H0
  rintro e w1 ⟨L1, p1, c1, rfl, hv1, hL1, hb1⟩
  rw [← HW0.out] at hb1
  have ln1 : L1.length ≤ 9 := len_app hL1 (by simp only [List.length_nil]; omega)
  have a1 := a0.later hb1
  have b1 := b0.trans (hb1.mono b0.size)
  clear a0 b0 hb1 HW0
  obtain ⟨d0, d1, d2, d3, d4, d5, d6, d7, d8, d9⟩ := ask_cells a1
  have H1 := put_uint (.slice p1 L1.length c1) L1 ti w1 hv1 (by omega)
  go_wp2_with fail
  refine H1.mono ?_
  clear H1 d0 d1 d2 d3 d4 d5 d6 d7 d8 d9
  rintro e w2 ⟨L2, p2, c2, rfl, hv2, hL2, hb2⟩
  have a2 := a1.later hb2
  have b2 := b1.trans (hb2.mono b1.size)
  have ln2 : L2.length ≤ 18 := len_app hL2 (by omega)
  obtain ⟨d0, d1, d2, d3, d4, d5, d6, d7, d8, d9⟩ := ask_cells a2
  go_wp2
  go_ret
  refine ⟨_, _, _, rfl, hv2, ?_, b2⟩
  show L2 = _
  rw [hL2.out, hL1.out]
  simp only [List.nil_append]

set_option maxRecDepth 100000 in
set_option maxHeartbeats 4000000 in
theorem rb3 (fr to ti ep ix li : Int) (so : Bool) (p q : Option Addr) (c d : Nat) (id : List UInt8) (bs : List (List UInt8 × List UInt8)) (w : World) (hid : HB w (.slice p id.length c) id) (hil : id.length ≤ 1000) :
    Calls Try.prog 24 #[.agg #[.int .i64 3, .slice p id.length c, .int .i64 fr, .int .i64 to, .int .i64 ti, .bool so, .int .i64 ep, .int .i64 ix, .int .i64 li, .slice q bs.length d]] w (PutT (numL (clampN 3)) (bytesL id ++ (numL (clampN to))) w) := by
  have a0 : AB (w.alloc (.cells #[.int .i64 3, .slice p id.length c, .int .i64 fr, .int .i64 to, .int .i64 ti, .bool so, .int .i64 ep, .int .i64 ix, .int .i64 li, .slice q bs.length d] 25)) w.heap.size #[.int .i64 3, .slice p id.length c, .int .i64 fr, .int .i64 to, .int .i64 ti, .bool so, .int .i64 ep, .int .i64 ix, .int .i64 li, .slice q bs.length d] := heap_alloc_new w _
  have b0 := (Below.refl w.heap.size w).alloc (Nat.le_refl _) (.cells #[.int .i64 3, .slice p id.length c, .int .i64 fr, .int .i64 to, .int .i64 ti, .bool so, .int .i64 ep, .int .i64 ix, .int .i64 li, .slice q bs.length d] 25)
  obtain ⟨w0, hw0⟩ : ∃ x, x = w.alloc (.cells #[.int .i64 3, .slice p id.length c, .int .i64 fr, .int .i64 to, .int .i64 ti, .bool so, .int .i64 ep, .int .i64 ix, .int .i64 li, .slice q bs.length d] 25) := ⟨_, rfl⟩
  rw [← hw0] at a0 b0
  have H0 := put_uint (.slice none 0 0) [] 3 w0 (HB.nil _) (by simp)
  rw [hw0] at H0
  have HW0 : Hid (w0 = w.alloc (.cells #[.int .i64 3, .slice p id.length c, .int .i64 fr, .int .i64 to, .int .i64 ti, .bool so, .int .i64 ep, .int .i64 ix, .int .i64 li, .slice q bs.length d] 25)) := hw0
  clear hw0
  have zK := numL9 3
  have z3 := numL9 to
  have z1 : (bytesL id).length ≤ id.length + 9 := bytesL_big id (by omega)
  go_enter Try.func24, Try.ntmps24
  go_wp2_with fail
  refine H0.mono ?_
  clear H0
  rintro e w1 ⟨L1, p1, c1, rfl, hv1, hL1, hb1⟩
  rw [← HW0.out] at hb1
  have ln1 : L1.length ≤ 9 := len_app hL1 (by simp only [List.length_nil]; omega)
  have a1 := a0.later hb1
  have b1 := b0.trans (hb1.mono b0.size)
  clear a0 b0 hb1 HW0
  have bd := Below.drew b1
  have ad : AB w1.drew w.heap.size #[.int .i64 3, .slice p id.length c, .int .i64 fr, .int .i64 to, .int .i64 ti, .bool so, .int .i64 ep, .int .i64 ix, .int .i64 li, .slice q bs.length d] := a1
  have hvd := hv1.later (Below.drew (Below.refl _ w1))
  have g1 : (w1.drew).cell? ⟨w.heap.size, 1, none⟩ = some (.slice p id.length c) := AB.cell (ad) rfl
  have g3 : (w1.drew).cell? ⟨w.heap.size, 3, none⟩ = some (.int .i64 to) := AB.cell (ad) rfl
  have q0 : w1.cell? ⟨w.heap.size, 0, none⟩ = some (.int .i64 3) := AB.cell a1 rfl
  have H1 := put_bytes (.slice p1 L1.length c1) (.slice p id.length c) L1 id w1.drew hvd (hid.later bd) (by omega)
  go_wp2
  go_region_law (first
    | (refine step_calls2 rfl 42 _ _ _ _ rfl (.slice p1 L1.length c1) (.slice p id.length c) rfl rfl rfl (fun r w' => ∃ L p c, r = .slice p L.length c ∧ HB w' (.slice p L.length c) L ∧ Hid (L = L1 ++ bytesL id) ∧ Below (w1.drew).heap.size (w1.drew) w') (H1.mono fun e w' ⟨L, p, c, h1, h2⟩ => ⟨_, h1, L, p, c, rfl, h2⟩) ?_; rintro r w2 ⟨L2, p2, c2, rfl, hv2, hL2, hb2⟩; have a2 := AB.later ad hb2; have b2 := bd.trans (hb2.mono bd.size); have ln2 : L2.length ≤ 1018 := len_app hL2 (by omega); have H2 := put_uint (.slice p2 L2.length c2) L2 to w2 hv2 (by omega); have x21 : w2.cell? ⟨w.heap.size, 1, none⟩ = some (.slice p id.length c) := AB.cell a2 rfl; have x23 : w2.cell? ⟨w.heap.size, 3, none⟩ = some (.int .i64 to) := AB.cell a2 rfl)
    | (refine step_calls2 rfl 40 _ _ _ _ rfl (.slice p2 L2.length c2) (.int .i64 to) rfl rfl rfl (fun r w' => ∃ L p c, r = .slice p L.length c ∧ HB w' (.slice p L.length c) L ∧ Hid (L = L2 ++ numL (clampN to)) ∧ Below (w2).heap.size (w2) w') (H2.mono fun e w' ⟨L, p, c, h1, h2⟩ => ⟨_, h1, L, p, c, rfl, h2⟩) ?_; rintro r w3 ⟨L3, p3, c3, rfl, hv3, hL3, hb3⟩; have a3 := AB.later a2 hb3; have b3 := b2.trans (hb3.mono b2.size); have ln3 : L3.length ≤ 1027 := len_app hL3 (by omega)))
  all_goals
    obtain ⟨d0, d1, d2, d3, d4, d5, d6, d7, d8, d9⟩ := ask_cells a3
    go_wp2
    go_ret
    refine ⟨_, _, _, rfl, hv3, ?_, b3⟩
    show L3 = _
    rw [hL3.out, hL2.out, hL1.out]
    simp only [List.append_assoc, List.nil_append]

set_option maxRecDepth 100000 in
set_option maxHeartbeats 4000000 in
theorem rb4 (fr to ti ep ix li : Int) (so : Bool) (p q : Option Addr) (c d : Nat) (id : List UInt8) (bs : List (List UInt8 × List UInt8)) (w : World) (hid : HB w (.slice p id.length c) id) (hil : id.length ≤ 1000) :
    Calls Try.prog 24 #[.agg #[.int .i64 4, .slice p id.length c, .int .i64 fr, .int .i64 to, .int .i64 ti, .bool so, .int .i64 ep, .int .i64 ix, .int .i64 li, .slice q bs.length d]] w (PutT (numL (clampN 4)) (bytesL id ++ (numL (clampN ti) ++ (numL (clampN to)))) w) := by
  have a0 : AB (w.alloc (.cells #[.int .i64 4, .slice p id.length c, .int .i64 fr, .int .i64 to, .int .i64 ti, .bool so, .int .i64 ep, .int .i64 ix, .int .i64 li, .slice q bs.length d] 25)) w.heap.size #[.int .i64 4, .slice p id.length c, .int .i64 fr, .int .i64 to, .int .i64 ti, .bool so, .int .i64 ep, .int .i64 ix, .int .i64 li, .slice q bs.length d] := heap_alloc_new w _
  have b0 := (Below.refl w.heap.size w).alloc (Nat.le_refl _) (.cells #[.int .i64 4, .slice p id.length c, .int .i64 fr, .int .i64 to, .int .i64 ti, .bool so, .int .i64 ep, .int .i64 ix, .int .i64 li, .slice q bs.length d] 25)
  obtain ⟨w0, hw0⟩ : ∃ x, x = w.alloc (.cells #[.int .i64 4, .slice p id.length c, .int .i64 fr, .int .i64 to, .int .i64 ti, .bool so, .int .i64 ep, .int .i64 ix, .int .i64 li, .slice q bs.length d] 25) := ⟨_, rfl⟩
  rw [← hw0] at a0 b0
  have H0 := put_uint (.slice none 0 0) [] 4 w0 (HB.nil _) (by simp)
  rw [hw0] at H0
  have HW0 : Hid (w0 = w.alloc (.cells #[.int .i64 4, .slice p id.length c, .int .i64 fr, .int .i64 to, .int .i64 ti, .bool so, .int .i64 ep, .int .i64 ix, .int .i64 li, .slice q bs.length d] 25)) := hw0
  clear hw0
  have zK := numL9 4
  have z3 := numL9 to
  have z4 := numL9 ti
  have z1 : (bytesL id).length ≤ id.length + 9 := bytesL_big id (by omega)
  go_enter Try.func24, Try.ntmps24
  go_wp2_with fail
  refine H0.mono ?_
  clear H0
  rintro e w1 ⟨L1, p1, c1, rfl, hv1, hL1, hb1⟩
  rw [← HW0.out] at hb1
  have ln1 : L1.length ≤ 9 := len_app hL1 (by simp only [List.length_nil]; omega)
  have a1 := a0.later hb1
  have b1 := b0.trans (hb1.mono b0.size)
  clear a0 b0 hb1 HW0
  have bd := Below.drew b1
  have ad : AB w1.drew w.heap.size #[.int .i64 4, .slice p id.length c, .int .i64 fr, .int .i64 to, .int .i64 ti, .bool so, .int .i64 ep, .int .i64 ix, .int .i64 li, .slice q bs.length d] := a1
  have hvd := hv1.later (Below.drew (Below.refl _ w1))
  have g1 : (w1.drew).cell? ⟨w.heap.size, 1, none⟩ = some (.slice p id.length c) := AB.cell (ad) rfl
  have g3 : (w1.drew).cell? ⟨w.heap.size, 3, none⟩ = some (.int .i64 to) := AB.cell (ad) rfl
  have g4 : (w1.drew).cell? ⟨w.heap.size, 4, none⟩ = some (.int .i64 ti) := AB.cell (ad) rfl
  have q0 : w1.cell? ⟨w.heap.size, 0, none⟩ = some (.int .i64 4) := AB.cell a1 rfl
  have H1 := put_bytes (.slice p1 L1.length c1) (.slice p id.length c) L1 id w1.drew hvd (hid.later bd) (by omega)
  go_wp2
  go_region_law (first
    | (refine step_calls2 rfl 42 _ _ _ _ rfl (.slice p1 L1.length c1) (.slice p id.length c) rfl rfl rfl (fun r w' => ∃ L p c, r = .slice p L.length c ∧ HB w' (.slice p L.length c) L ∧ Hid (L = L1 ++ bytesL id) ∧ Below (w1.drew).heap.size (w1.drew) w') (H1.mono fun e w' ⟨L, p, c, h1, h2⟩ => ⟨_, h1, L, p, c, rfl, h2⟩) ?_; rintro r w2 ⟨L2, p2, c2, rfl, hv2, hL2, hb2⟩; have a2 := AB.later ad hb2; have b2 := bd.trans (hb2.mono bd.size); have ln2 : L2.length ≤ 1018 := len_app hL2 (by omega); have H2 := put_uint (.slice p2 L2.length c2) L2 ti w2 hv2 (by omega); have x21 : w2.cell? ⟨w.heap.size, 1, none⟩ = some (.slice p id.length c) := AB.cell a2 rfl; have x23 : w2.cell? ⟨w.heap.size, 3, none⟩ = some (.int .i64 to) := AB.cell a2 rfl; have x24 : w2.cell? ⟨w.heap.size, 4, none⟩ = some (.int .i64 ti) := AB.cell a2 rfl)
    | (refine step_calls2 rfl 40 _ _ _ _ rfl (.slice p2 L2.length c2) (.int .i64 ti) rfl rfl rfl (fun r w' => ∃ L p c, r = .slice p L.length c ∧ HB w' (.slice p L.length c) L ∧ Hid (L = L2 ++ numL (clampN ti)) ∧ Below (w2).heap.size (w2) w') (H2.mono fun e w' ⟨L, p, c, h1, h2⟩ => ⟨_, h1, L, p, c, rfl, h2⟩) ?_; rintro r w3 ⟨L3, p3, c3, rfl, hv3, hL3, hb3⟩; have a3 := AB.later a2 hb3; have b3 := b2.trans (hb3.mono b2.size); have ln3 : L3.length ≤ 1027 := len_app hL3 (by omega); have H3 := put_uint (.slice p3 L3.length c3) L3 to w3 hv3 (by omega); have x31 : w3.cell? ⟨w.heap.size, 1, none⟩ = some (.slice p id.length c) := AB.cell a3 rfl; have x33 : w3.cell? ⟨w.heap.size, 3, none⟩ = some (.int .i64 to) := AB.cell a3 rfl; have x34 : w3.cell? ⟨w.heap.size, 4, none⟩ = some (.int .i64 ti) := AB.cell a3 rfl)
    | (refine step_calls2 rfl 40 _ _ _ _ rfl (.slice p3 L3.length c3) (.int .i64 to) rfl rfl rfl (fun r w' => ∃ L p c, r = .slice p L.length c ∧ HB w' (.slice p L.length c) L ∧ Hid (L = L3 ++ numL (clampN to)) ∧ Below (w3).heap.size (w3) w') (H3.mono fun e w' ⟨L, p, c, h1, h2⟩ => ⟨_, h1, L, p, c, rfl, h2⟩) ?_; rintro r w4 ⟨L4, p4, c4, rfl, hv4, hL4, hb4⟩; have a4 := AB.later a3 hb4; have b4 := b3.trans (hb4.mono b3.size); have ln4 : L4.length ≤ 1036 := len_app hL4 (by omega)))
  all_goals
    obtain ⟨d0, d1, d2, d3, d4, d5, d6, d7, d8, d9⟩ := ask_cells a4
    go_wp2
    go_ret
    refine ⟨_, _, _, rfl, hv4, ?_, b4⟩
    show L4 = _
    rw [hL4.out, hL3.out, hL2.out, hL1.out]
    simp only [List.append_assoc, List.nil_append]

set_option maxRecDepth 100000 in
set_option maxHeartbeats 4000000 in
theorem rb5 (fr to ti ep ix li : Int) (so : Bool) (p q : Option Addr) (c d : Nat) (id : List UInt8) (bs : List (List UInt8 × List UInt8)) (w : World) (hid : HB w (.slice p id.length c) id) (hil : id.length ≤ 1000) :
    Calls Try.prog 24 #[.agg #[.int .i64 5, .slice p id.length c, .int .i64 fr, .int .i64 to, .int .i64 ti, .bool so, .int .i64 ep, .int .i64 ix, .int .i64 li, .slice q bs.length d]] w (PutT (numL (clampN 5)) (bytesL id ++ (numL (clampN fr) ++ (numL (clampN to)))) w) := by
  have a0 : AB (w.alloc (.cells #[.int .i64 5, .slice p id.length c, .int .i64 fr, .int .i64 to, .int .i64 ti, .bool so, .int .i64 ep, .int .i64 ix, .int .i64 li, .slice q bs.length d] 25)) w.heap.size #[.int .i64 5, .slice p id.length c, .int .i64 fr, .int .i64 to, .int .i64 ti, .bool so, .int .i64 ep, .int .i64 ix, .int .i64 li, .slice q bs.length d] := heap_alloc_new w _
  have b0 := (Below.refl w.heap.size w).alloc (Nat.le_refl _) (.cells #[.int .i64 5, .slice p id.length c, .int .i64 fr, .int .i64 to, .int .i64 ti, .bool so, .int .i64 ep, .int .i64 ix, .int .i64 li, .slice q bs.length d] 25)
  obtain ⟨w0, hw0⟩ : ∃ x, x = w.alloc (.cells #[.int .i64 5, .slice p id.length c, .int .i64 fr, .int .i64 to, .int .i64 ti, .bool so, .int .i64 ep, .int .i64 ix, .int .i64 li, .slice q bs.length d] 25) := ⟨_, rfl⟩
  rw [← hw0] at a0 b0
  have H0 := put_uint (.slice none 0 0) [] 5 w0 (HB.nil _) (by simp)
  rw [hw0] at H0
  have HW0 : Hid (w0 = w.alloc (.cells #[.int .i64 5, .slice p id.length c, .int .i64 fr, .int .i64 to, .int .i64 ti, .bool so, .int .i64 ep, .int .i64 ix, .int .i64 li, .slice q bs.length d] 25)) := hw0
  clear hw0
  have zK := numL9 5
  have z2 := numL9 fr
  have z3 := numL9 to
  have z1 : (bytesL id).length ≤ id.length + 9 := bytesL_big id (by omega)
  go_enter Try.func24, Try.ntmps24
  go_wp2_with fail
  refine H0.mono ?_
  clear H0
  rintro e w1 ⟨L1, p1, c1, rfl, hv1, hL1, hb1⟩
  rw [← HW0.out] at hb1
  have ln1 : L1.length ≤ 9 := len_app hL1 (by simp only [List.length_nil]; omega)
  have a1 := a0.later hb1
  have b1 := b0.trans (hb1.mono b0.size)
  clear a0 b0 hb1 HW0
  have bd := Below.drew b1
  have ad : AB w1.drew w.heap.size #[.int .i64 5, .slice p id.length c, .int .i64 fr, .int .i64 to, .int .i64 ti, .bool so, .int .i64 ep, .int .i64 ix, .int .i64 li, .slice q bs.length d] := a1
  have hvd := hv1.later (Below.drew (Below.refl _ w1))
  have g1 : (w1.drew).cell? ⟨w.heap.size, 1, none⟩ = some (.slice p id.length c) := AB.cell (ad) rfl
  have g2 : (w1.drew).cell? ⟨w.heap.size, 2, none⟩ = some (.int .i64 fr) := AB.cell (ad) rfl
  have g3 : (w1.drew).cell? ⟨w.heap.size, 3, none⟩ = some (.int .i64 to) := AB.cell (ad) rfl
  have q0 : w1.cell? ⟨w.heap.size, 0, none⟩ = some (.int .i64 5) := AB.cell a1 rfl
  have H1 := put_bytes (.slice p1 L1.length c1) (.slice p id.length c) L1 id w1.drew hvd (hid.later bd) (by omega)
  go_wp2
  go_region_law (first
    | (refine step_calls2 rfl 42 _ _ _ _ rfl (.slice p1 L1.length c1) (.slice p id.length c) rfl rfl rfl (fun r w' => ∃ L p c, r = .slice p L.length c ∧ HB w' (.slice p L.length c) L ∧ Hid (L = L1 ++ bytesL id) ∧ Below (w1.drew).heap.size (w1.drew) w') (H1.mono fun e w' ⟨L, p, c, h1, h2⟩ => ⟨_, h1, L, p, c, rfl, h2⟩) ?_; rintro r w2 ⟨L2, p2, c2, rfl, hv2, hL2, hb2⟩; have a2 := AB.later ad hb2; have b2 := bd.trans (hb2.mono bd.size); have ln2 : L2.length ≤ 1018 := len_app hL2 (by omega); have H2 := put_uint (.slice p2 L2.length c2) L2 fr w2 hv2 (by omega); have x21 : w2.cell? ⟨w.heap.size, 1, none⟩ = some (.slice p id.length c) := AB.cell a2 rfl; have x22 : w2.cell? ⟨w.heap.size, 2, none⟩ = some (.int .i64 fr) := AB.cell a2 rfl; have x23 : w2.cell? ⟨w.heap.size, 3, none⟩ = some (.int .i64 to) := AB.cell a2 rfl)
    | (refine step_calls2 rfl 40 _ _ _ _ rfl (.slice p2 L2.length c2) (.int .i64 fr) rfl rfl rfl (fun r w' => ∃ L p c, r = .slice p L.length c ∧ HB w' (.slice p L.length c) L ∧ Hid (L = L2 ++ numL (clampN fr)) ∧ Below (w2).heap.size (w2) w') (H2.mono fun e w' ⟨L, p, c, h1, h2⟩ => ⟨_, h1, L, p, c, rfl, h2⟩) ?_; rintro r w3 ⟨L3, p3, c3, rfl, hv3, hL3, hb3⟩; have a3 := AB.later a2 hb3; have b3 := b2.trans (hb3.mono b2.size); have ln3 : L3.length ≤ 1027 := len_app hL3 (by omega); have H3 := put_uint (.slice p3 L3.length c3) L3 to w3 hv3 (by omega); have x31 : w3.cell? ⟨w.heap.size, 1, none⟩ = some (.slice p id.length c) := AB.cell a3 rfl; have x32 : w3.cell? ⟨w.heap.size, 2, none⟩ = some (.int .i64 fr) := AB.cell a3 rfl; have x33 : w3.cell? ⟨w.heap.size, 3, none⟩ = some (.int .i64 to) := AB.cell a3 rfl)
    | (refine step_calls2 rfl 40 _ _ _ _ rfl (.slice p3 L3.length c3) (.int .i64 to) rfl rfl rfl (fun r w' => ∃ L p c, r = .slice p L.length c ∧ HB w' (.slice p L.length c) L ∧ Hid (L = L3 ++ numL (clampN to)) ∧ Below (w3).heap.size (w3) w') (H3.mono fun e w' ⟨L, p, c, h1, h2⟩ => ⟨_, h1, L, p, c, rfl, h2⟩) ?_; rintro r w4 ⟨L4, p4, c4, rfl, hv4, hL4, hb4⟩; have a4 := AB.later a3 hb4; have b4 := b3.trans (hb4.mono b3.size); have ln4 : L4.length ≤ 1036 := len_app hL4 (by omega)))
  all_goals
    obtain ⟨d0, d1, d2, d3, d4, d5, d6, d7, d8, d9⟩ := ask_cells a4
    go_wp2
    go_ret
    refine ⟨_, _, _, rfl, hv4, ?_, b4⟩
    show L4 = _
    rw [hL4.out, hL3.out, hL2.out, hL1.out]
    simp only [List.append_assoc, List.nil_append]

set_option maxRecDepth 100000 in
set_option maxHeartbeats 4000000 in
theorem rb6a (fr to ti ep ix li : Int) (p q : Option Addr) (c d : Nat) (id : List UInt8) (bs : List (List UInt8 × List UInt8)) (w : World) (hid : HB w (.slice p id.length c) id) (hil : id.length ≤ 1000) :
    Calls Try.prog 24 #[.agg #[.int .i64 6, .slice p id.length c, .int .i64 fr, .int .i64 to, .int .i64 ti, .bool true, .int .i64 ep, .int .i64 ix, .int .i64 li, .slice q bs.length d]] w (PutT (numL (clampN 6)) (numL (clampN fr) ++ (numL (clampN to) ++ (flagL true ++ (bytesL id ++ (numL (clampN li)))))) w) := by
  have a0 : AB (w.alloc (.cells #[.int .i64 6, .slice p id.length c, .int .i64 fr, .int .i64 to, .int .i64 ti, .bool true, .int .i64 ep, .int .i64 ix, .int .i64 li, .slice q bs.length d] 25)) w.heap.size #[.int .i64 6, .slice p id.length c, .int .i64 fr, .int .i64 to, .int .i64 ti, .bool true, .int .i64 ep, .int .i64 ix, .int .i64 li, .slice q bs.length d] := heap_alloc_new w _
  have b0 := (Below.refl w.heap.size w).alloc (Nat.le_refl _) (.cells #[.int .i64 6, .slice p id.length c, .int .i64 fr, .int .i64 to, .int .i64 ti, .bool true, .int .i64 ep, .int .i64 ix, .int .i64 li, .slice q bs.length d] 25)
  obtain ⟨w0, hw0⟩ : ∃ x, x = w.alloc (.cells #[.int .i64 6, .slice p id.length c, .int .i64 fr, .int .i64 to, .int .i64 ti, .bool true, .int .i64 ep, .int .i64 ix, .int .i64 li, .slice q bs.length d] 25) := ⟨_, rfl⟩
  rw [← hw0] at a0 b0
  have H0 := put_uint (.slice none 0 0) [] 6 w0 (HB.nil _) (by simp)
  rw [hw0] at H0
  have HW0 : Hid (w0 = w.alloc (.cells #[.int .i64 6, .slice p id.length c, .int .i64 fr, .int .i64 to, .int .i64 ti, .bool true, .int .i64 ep, .int .i64 ix, .int .i64 li, .slice q bs.length d] 25)) := hw0
  clear hw0
  have zK := numL9 6
  have z2 := numL9 fr
  have z3 := numL9 to
  have z8 := numL9 li
  have z5 : (flagL true).length = 1 := rfl
  have z1 : (bytesL id).length ≤ id.length + 9 := bytesL_big id (by omega)
  go_enter Try.func24, Try.ntmps24
  go_wp2_with fail
  refine H0.mono ?_
  clear H0
  rintro e w1 ⟨L1, p1, c1, rfl, hv1, hL1, hb1⟩
  rw [← HW0.out] at hb1
  have ln1 : L1.length ≤ 9 := len_app hL1 (by simp only [List.length_nil]; omega)
  have a1 := a0.later hb1
  have b1 := b0.trans (hb1.mono b0.size)
  clear a0 b0 hb1 HW0
  have bd := Below.drew b1
  have ad : AB w1.drew w.heap.size #[.int .i64 6, .slice p id.length c, .int .i64 fr, .int .i64 to, .int .i64 ti, .bool true, .int .i64 ep, .int .i64 ix, .int .i64 li, .slice q bs.length d] := a1
  have hvd := hv1.later (Below.drew (Below.refl _ w1))
  have g2 : (w1.drew).cell? ⟨w.heap.size, 2, none⟩ = some (.int .i64 fr) := AB.cell (ad) rfl
  have g3 : (w1.drew).cell? ⟨w.heap.size, 3, none⟩ = some (.int .i64 to) := AB.cell (ad) rfl
  have g5 : (w1.drew).cell? ⟨w.heap.size, 5, none⟩ = some (.bool true) := AB.cell (ad) rfl
  have q0 : w1.cell? ⟨w.heap.size, 0, none⟩ = some (.int .i64 6) := AB.cell a1 rfl
  have H1 := put_uint (.slice p1 L1.length c1) L1 fr w1.drew hvd (by omega)
  go_wp2
  go_region_law (first
    | (refine step_calls2 rfl 40 _ _ _ _ rfl (.slice p1 L1.length c1) (.int .i64 fr) rfl rfl rfl (fun r w' => ∃ L p c, r = .slice p L.length c ∧ HB w' (.slice p L.length c) L ∧ Hid (L = L1 ++ numL (clampN fr)) ∧ Below (w1.drew).heap.size (w1.drew) w') (H1.mono fun e w' ⟨L, p, c, h1, h2⟩ => ⟨_, h1, L, p, c, rfl, h2⟩) ?_; rintro r w2 ⟨L2, p2, c2, rfl, hv2, hL2, hb2⟩; have a2 := AB.later ad hb2; have b2 := bd.trans (hb2.mono bd.size); have ln2 : L2.length ≤ 18 := len_app hL2 (by omega); have H2 := put_uint (.slice p2 L2.length c2) L2 to w2 hv2 (by omega); have x22 : w2.cell? ⟨w.heap.size, 2, none⟩ = some (.int .i64 fr) := AB.cell a2 rfl; have x23 : w2.cell? ⟨w.heap.size, 3, none⟩ = some (.int .i64 to) := AB.cell a2 rfl; have x25 : w2.cell? ⟨w.heap.size, 5, none⟩ = some (.bool true) := AB.cell a2 rfl)
    | (refine step_calls2 rfl 40 _ _ _ _ rfl (.slice p2 L2.length c2) (.int .i64 to) rfl rfl rfl (fun r w' => ∃ L p c, r = .slice p L.length c ∧ HB w' (.slice p L.length c) L ∧ Hid (L = L2 ++ numL (clampN to)) ∧ Below (w2).heap.size (w2) w') (H2.mono fun e w' ⟨L, p, c, h1, h2⟩ => ⟨_, h1, L, p, c, rfl, h2⟩) ?_; rintro r w3 ⟨L3, p3, c3, rfl, hv3, hL3, hb3⟩; have a3 := AB.later a2 hb3; have b3 := b2.trans (hb3.mono b2.size); have ln3 : L3.length ≤ 27 := len_app hL3 (by omega); have H3 := put_flag (.slice p3 L3.length c3) L3 true w3 hv3 (by omega); have x32 : w3.cell? ⟨w.heap.size, 2, none⟩ = some (.int .i64 fr) := AB.cell a3 rfl; have x33 : w3.cell? ⟨w.heap.size, 3, none⟩ = some (.int .i64 to) := AB.cell a3 rfl; have x35 : w3.cell? ⟨w.heap.size, 5, none⟩ = some (.bool true) := AB.cell a3 rfl)
    | (refine step_calls2 rfl 43 _ _ _ _ rfl (.slice p3 L3.length c3) (.bool true) rfl rfl rfl (fun r w' => ∃ L p c, r = .slice p L.length c ∧ HB w' (.slice p L.length c) L ∧ Hid (L = L3 ++ flagL true) ∧ Below (w3).heap.size (w3) w') (H3.mono fun e w' ⟨L, p, c, h1, h2⟩ => ⟨_, h1, L, p, c, rfl, h2⟩) ?_; rintro r w4 ⟨L4, p4, c4, rfl, hv4, hL4, hb4⟩; have a4 := AB.later a3 hb4; have b4 := b3.trans (hb4.mono b3.size); have ln4 : L4.length ≤ 28 := len_app hL4 (by omega)))
  all_goals
    obtain ⟨d0, d1, d2, d3, d4, d5, d6, d7, d8, d9⟩ := ask_cells a4
    have H4 := put_bytes (.slice p4 L4.length c4) (.slice p id.length c) L4 id w4 hv4 (hid.later b4) (by omega)
    go_wp2_with fail
    refine H4.mono ?_
    clear H4 d0 d1 d2 d3 d4 d5 d6 d7 d8 d9
    rintro e w5 ⟨L5, p5, c5, rfl, hv5, hL5, hb5⟩
    have a5 := a4.later hb5
    have b5 := b4.trans (hb5.mono b4.size)
    have ln5 : L5.length ≤ 1037 := len_app hL5 (by omega)
    obtain ⟨d0, d1, d2, d3, d4, d5, d6, d7, d8, d9⟩ := ask_cells a5
    have H5 := put_uint (.slice p5 L5.length c5) L5 li w5 hv5 (by omega)
    go_wp2_with fail
    refine H5.mono ?_
    clear H5 d0 d1 d2 d3 d4 d5 d6 d7 d8 d9
    rintro e w6 ⟨L6, p6, c6, rfl, hv6, hL6, hb6⟩
    have a6 := a5.later hb6
    have b6 := b5.trans (hb6.mono b5.size)
    have ln6 : L6.length ≤ 1046 := len_app hL6 (by omega)
    obtain ⟨d0, d1, d2, d3, d4, d5, d6, d7, d8, d9⟩ := ask_cells a6
    go_wp2
    go_ret
    refine ⟨_, _, _, rfl, hv6, ?_, b6⟩
    show L6 = _
    rw [hL6.out, hL5.out, hL4.out, hL3.out, hL2.out, hL1.out]
    simp only [List.append_assoc, List.nil_append]

set_option maxRecDepth 100000 in
set_option maxHeartbeats 4000000 in
theorem rb6b (fr to ti ep ix li : Int) (p q : Option Addr) (c d : Nat) (id : List UInt8) (bs : List (List UInt8 × List UInt8)) (w : World) :
    Calls Try.prog 24 #[.agg #[.int .i64 6, .slice p id.length c, .int .i64 fr, .int .i64 to, .int .i64 ti, .bool false, .int .i64 ep, .int .i64 ix, .int .i64 li, .slice q bs.length d]] w (PutT (numL (clampN 6)) (numL (clampN fr) ++ (numL (clampN to) ++ (flagL false ++ (numL (clampN li))))) w) := by
  have a0 : AB (w.alloc (.cells #[.int .i64 6, .slice p id.length c, .int .i64 fr, .int .i64 to, .int .i64 ti, .bool false, .int .i64 ep, .int .i64 ix, .int .i64 li, .slice q bs.length d] 25)) w.heap.size #[.int .i64 6, .slice p id.length c, .int .i64 fr, .int .i64 to, .int .i64 ti, .bool false, .int .i64 ep, .int .i64 ix, .int .i64 li, .slice q bs.length d] := heap_alloc_new w _
  have b0 := (Below.refl w.heap.size w).alloc (Nat.le_refl _) (.cells #[.int .i64 6, .slice p id.length c, .int .i64 fr, .int .i64 to, .int .i64 ti, .bool false, .int .i64 ep, .int .i64 ix, .int .i64 li, .slice q bs.length d] 25)
  obtain ⟨w0, hw0⟩ : ∃ x, x = w.alloc (.cells #[.int .i64 6, .slice p id.length c, .int .i64 fr, .int .i64 to, .int .i64 ti, .bool false, .int .i64 ep, .int .i64 ix, .int .i64 li, .slice q bs.length d] 25) := ⟨_, rfl⟩
  rw [← hw0] at a0 b0
  have H0 := put_uint (.slice none 0 0) [] 6 w0 (HB.nil _) (by simp)
  rw [hw0] at H0
  have HW0 : Hid (w0 = w.alloc (.cells #[.int .i64 6, .slice p id.length c, .int .i64 fr, .int .i64 to, .int .i64 ti, .bool false, .int .i64 ep, .int .i64 ix, .int .i64 li, .slice q bs.length d] 25)) := hw0
  clear hw0
  have zK := numL9 6
  have z2 := numL9 fr
  have z3 := numL9 to
  have z8 := numL9 li
  have z5 : (flagL false).length = 1 := rfl
  go_enter Try.func24, Try.ntmps24
  go_wp2_with fail
  refine H0.mono ?_
  clear H0
  rintro e w1 ⟨L1, p1, c1, rfl, hv1, hL1, hb1⟩
  rw [← HW0.out] at hb1
  have ln1 : L1.length ≤ 9 := len_app hL1 (by simp only [List.length_nil]; omega)
  have a1 := a0.later hb1
  have b1 := b0.trans (hb1.mono b0.size)
  clear a0 b0 hb1 HW0
  have bd := Below.drew b1
  have ad : AB w1.drew w.heap.size #[.int .i64 6, .slice p id.length c, .int .i64 fr, .int .i64 to, .int .i64 ti, .bool false, .int .i64 ep, .int .i64 ix, .int .i64 li, .slice q bs.length d] := a1
  have hvd := hv1.later (Below.drew (Below.refl _ w1))
  have g2 : (w1.drew).cell? ⟨w.heap.size, 2, none⟩ = some (.int .i64 fr) := AB.cell (ad) rfl
  have g3 : (w1.drew).cell? ⟨w.heap.size, 3, none⟩ = some (.int .i64 to) := AB.cell (ad) rfl
  have g5 : (w1.drew).cell? ⟨w.heap.size, 5, none⟩ = some (.bool false) := AB.cell (ad) rfl
  have q0 : w1.cell? ⟨w.heap.size, 0, none⟩ = some (.int .i64 6) := AB.cell a1 rfl
  have H1 := put_uint (.slice p1 L1.length c1) L1 fr w1.drew hvd (by omega)
  go_wp2
  go_region_law (first
    | (refine step_calls2 rfl 40 _ _ _ _ rfl (.slice p1 L1.length c1) (.int .i64 fr) rfl rfl rfl (fun r w' => ∃ L p c, r = .slice p L.length c ∧ HB w' (.slice p L.length c) L ∧ Hid (L = L1 ++ numL (clampN fr)) ∧ Below (w1.drew).heap.size (w1.drew) w') (H1.mono fun e w' ⟨L, p, c, h1, h2⟩ => ⟨_, h1, L, p, c, rfl, h2⟩) ?_; rintro r w2 ⟨L2, p2, c2, rfl, hv2, hL2, hb2⟩; have a2 := AB.later ad hb2; have b2 := bd.trans (hb2.mono bd.size); have ln2 : L2.length ≤ 18 := len_app hL2 (by omega); have H2 := put_uint (.slice p2 L2.length c2) L2 to w2 hv2 (by omega); have x22 : w2.cell? ⟨w.heap.size, 2, none⟩ = some (.int .i64 fr) := AB.cell a2 rfl; have x23 : w2.cell? ⟨w.heap.size, 3, none⟩ = some (.int .i64 to) := AB.cell a2 rfl; have x25 : w2.cell? ⟨w.heap.size, 5, none⟩ = some (.bool false) := AB.cell a2 rfl)
    | (refine step_calls2 rfl 40 _ _ _ _ rfl (.slice p2 L2.length c2) (.int .i64 to) rfl rfl rfl (fun r w' => ∃ L p c, r = .slice p L.length c ∧ HB w' (.slice p L.length c) L ∧ Hid (L = L2 ++ numL (clampN to)) ∧ Below (w2).heap.size (w2) w') (H2.mono fun e w' ⟨L, p, c, h1, h2⟩ => ⟨_, h1, L, p, c, rfl, h2⟩) ?_; rintro r w3 ⟨L3, p3, c3, rfl, hv3, hL3, hb3⟩; have a3 := AB.later a2 hb3; have b3 := b2.trans (hb3.mono b2.size); have ln3 : L3.length ≤ 27 := len_app hL3 (by omega); have H3 := put_flag (.slice p3 L3.length c3) L3 false w3 hv3 (by omega); have x32 : w3.cell? ⟨w.heap.size, 2, none⟩ = some (.int .i64 fr) := AB.cell a3 rfl; have x33 : w3.cell? ⟨w.heap.size, 3, none⟩ = some (.int .i64 to) := AB.cell a3 rfl; have x35 : w3.cell? ⟨w.heap.size, 5, none⟩ = some (.bool false) := AB.cell a3 rfl)
    | (refine step_calls2 rfl 43 _ _ _ _ rfl (.slice p3 L3.length c3) (.bool false) rfl rfl rfl (fun r w' => ∃ L p c, r = .slice p L.length c ∧ HB w' (.slice p L.length c) L ∧ Hid (L = L3 ++ flagL false) ∧ Below (w3).heap.size (w3) w') (H3.mono fun e w' ⟨L, p, c, h1, h2⟩ => ⟨_, h1, L, p, c, rfl, h2⟩) ?_; rintro r w4 ⟨L4, p4, c4, rfl, hv4, hL4, hb4⟩; have a4 := AB.later a3 hb4; have b4 := b3.trans (hb4.mono b3.size); have ln4 : L4.length ≤ 28 := len_app hL4 (by omega)))
  all_goals
    obtain ⟨d0, d1, d2, d3, d4, d5, d6, d7, d8, d9⟩ := ask_cells a4
    have H4 := put_uint (.slice p4 L4.length c4) L4 li w4 hv4 (by omega)
    go_wp2_with fail
    refine H4.mono ?_
    clear H4 d0 d1 d2 d3 d4 d5 d6 d7 d8 d9
    rintro e w5 ⟨L5, p5, c5, rfl, hv5, hL5, hb5⟩
    have a5 := a4.later hb5
    have b5 := b4.trans (hb5.mono b4.size)
    have ln5 : L5.length ≤ 37 := len_app hL5 (by omega)
    obtain ⟨d0, d1, d2, d3, d4, d5, d6, d7, d8, d9⟩ := ask_cells a5
    go_wp2
    go_ret
    refine ⟨_, _, _, rfl, hv5, ?_, b5⟩
    show L5 = _
    rw [hL5.out, hL4.out, hL3.out, hL2.out, hL1.out]
    simp only [List.append_assoc, List.nil_append]

set_option maxRecDepth 100000 in
set_option maxHeartbeats 4000000 in
theorem rb7 (fr to ti ep ix li : Int) (so : Bool) (p q : Option Addr) (c d : Nat) (id : List UInt8) (bs : List (List UInt8 × List UInt8)) (w : World) :
    Calls Try.prog 24 #[.agg #[.int .i64 7, .slice p id.length c, .int .i64 fr, .int .i64 to, .int .i64 ti, .bool so, .int .i64 ep, .int .i64 ix, .int .i64 li, .slice q bs.length d]] w (PutT (numL (clampN 7)) (numL (clampN fr) ++ (numL (clampN to) ++ (numL (clampN ep) ++ (numL (clampN ix) ++ (numL (clampN li)))))) w) := by
  have a0 : AB (w.alloc (.cells #[.int .i64 7, .slice p id.length c, .int .i64 fr, .int .i64 to, .int .i64 ti, .bool so, .int .i64 ep, .int .i64 ix, .int .i64 li, .slice q bs.length d] 25)) w.heap.size #[.int .i64 7, .slice p id.length c, .int .i64 fr, .int .i64 to, .int .i64 ti, .bool so, .int .i64 ep, .int .i64 ix, .int .i64 li, .slice q bs.length d] := heap_alloc_new w _
  have b0 := (Below.refl w.heap.size w).alloc (Nat.le_refl _) (.cells #[.int .i64 7, .slice p id.length c, .int .i64 fr, .int .i64 to, .int .i64 ti, .bool so, .int .i64 ep, .int .i64 ix, .int .i64 li, .slice q bs.length d] 25)
  obtain ⟨w0, hw0⟩ : ∃ x, x = w.alloc (.cells #[.int .i64 7, .slice p id.length c, .int .i64 fr, .int .i64 to, .int .i64 ti, .bool so, .int .i64 ep, .int .i64 ix, .int .i64 li, .slice q bs.length d] 25) := ⟨_, rfl⟩
  rw [← hw0] at a0 b0
  have H0 := put_uint (.slice none 0 0) [] 7 w0 (HB.nil _) (by simp)
  rw [hw0] at H0
  have HW0 : Hid (w0 = w.alloc (.cells #[.int .i64 7, .slice p id.length c, .int .i64 fr, .int .i64 to, .int .i64 ti, .bool so, .int .i64 ep, .int .i64 ix, .int .i64 li, .slice q bs.length d] 25)) := hw0
  clear hw0
  have zK := numL9 7
  have z2 := numL9 fr
  have z3 := numL9 to
  have z6 := numL9 ep
  have z7 := numL9 ix
  have z8 := numL9 li
  go_enter Try.func24, Try.ntmps24
  go_wp2_with fail
  refine H0.mono ?_
  clear H0
  rintro e w1 ⟨L1, p1, c1, rfl, hv1, hL1, hb1⟩
  rw [← HW0.out] at hb1
  have ln1 : L1.length ≤ 9 := len_app hL1 (by simp only [List.length_nil]; omega)
  have a1 := a0.later hb1
  have b1 := b0.trans (hb1.mono b0.size)
  clear a0 b0 hb1 HW0
  have bd := Below.drew b1
  have ad : AB w1.drew w.heap.size #[.int .i64 7, .slice p id.length c, .int .i64 fr, .int .i64 to, .int .i64 ti, .bool so, .int .i64 ep, .int .i64 ix, .int .i64 li, .slice q bs.length d] := a1
  have hvd := hv1.later (Below.drew (Below.refl _ w1))
  have g2 : (w1.drew).cell? ⟨w.heap.size, 2, none⟩ = some (.int .i64 fr) := AB.cell (ad) rfl
  have g3 : (w1.drew).cell? ⟨w.heap.size, 3, none⟩ = some (.int .i64 to) := AB.cell (ad) rfl
  have q0 : w1.cell? ⟨w.heap.size, 0, none⟩ = some (.int .i64 7) := AB.cell a1 rfl
  have H1 := put_uint (.slice p1 L1.length c1) L1 fr w1.drew hvd (by omega)
  go_wp2
  go_region_law (first
    | (refine step_calls2 rfl 40 _ _ _ _ rfl (.slice p1 L1.length c1) (.int .i64 fr) rfl rfl rfl (fun r w' => ∃ L p c, r = .slice p L.length c ∧ HB w' (.slice p L.length c) L ∧ Hid (L = L1 ++ numL (clampN fr)) ∧ Below (w1.drew).heap.size (w1.drew) w') (H1.mono fun e w' ⟨L, p, c, h1, h2⟩ => ⟨_, h1, L, p, c, rfl, h2⟩) ?_; rintro r w2 ⟨L2, p2, c2, rfl, hv2, hL2, hb2⟩; have a2 := AB.later ad hb2; have b2 := bd.trans (hb2.mono bd.size); have ln2 : L2.length ≤ 18 := len_app hL2 (by omega); have H2 := put_uint (.slice p2 L2.length c2) L2 to w2 hv2 (by omega); have x22 : w2.cell? ⟨w.heap.size, 2, none⟩ = some (.int .i64 fr) := AB.cell a2 rfl; have x23 : w2.cell? ⟨w.heap.size, 3, none⟩ = some (.int .i64 to) := AB.cell a2 rfl)
    | (refine step_calls2 rfl 40 _ _ _ _ rfl (.slice p2 L2.length c2) (.int .i64 to) rfl rfl rfl (fun r w' => ∃ L p c, r = .slice p L.length c ∧ HB w' (.slice p L.length c) L ∧ Hid (L = L2 ++ numL (clampN to)) ∧ Below (w2).heap.size (w2) w') (H2.mono fun e w' ⟨L, p, c, h1, h2⟩ => ⟨_, h1, L, p, c, rfl, h2⟩) ?_; rintro r w3 ⟨L3, p3, c3, rfl, hv3, hL3, hb3⟩; have a3 := AB.later a2 hb3; have b3 := b2.trans (hb3.mono b2.size); have ln3 : L3.length ≤ 27 := len_app hL3 (by omega)))
  all_goals
    have bd := Below.drew b3
    have ad : AB w3.drew w.heap.size #[.int .i64 7, .slice p id.length c, .int .i64 fr, .int .i64 to, .int .i64 ti, .bool so, .int .i64 ep, .int .i64 ix, .int .i64 li, .slice q bs.length d] := a3
    have hvd := hv3.later (Below.drew (Below.refl _ w3))
    have g6 : (w3.drew).cell? ⟨w.heap.size, 6, none⟩ = some (.int .i64 ep) := AB.cell (ad) rfl
    have g7 : (w3.drew).cell? ⟨w.heap.size, 7, none⟩ = some (.int .i64 ix) := AB.cell (ad) rfl
    have g8 : (w3.drew).cell? ⟨w.heap.size, 8, none⟩ = some (.int .i64 li) := AB.cell (ad) rfl
    have q0 : w3.cell? ⟨w.heap.size, 0, none⟩ = some (.int .i64 7) := AB.cell a3 rfl
    have H3 := put_uint (.slice p3 L3.length c3) L3 ep w3.drew hvd (by omega)
    go_wp2
    go_region_law (first
      | (refine step_calls2 rfl 40 _ _ _ _ rfl (.slice p3 L3.length c3) (.int .i64 ep) rfl rfl rfl (fun r w' => ∃ L p c, r = .slice p L.length c ∧ HB w' (.slice p L.length c) L ∧ Hid (L = L3 ++ numL (clampN ep)) ∧ Below (w3.drew).heap.size (w3.drew) w') (H3.mono fun e w' ⟨L, p, c, h1, h2⟩ => ⟨_, h1, L, p, c, rfl, h2⟩) ?_; rintro r w4 ⟨L4, p4, c4, rfl, hv4, hL4, hb4⟩; have a4 := AB.later ad hb4; have b4 := bd.trans (hb4.mono bd.size); have ln4 : L4.length ≤ 36 := len_app hL4 (by omega); have H4 := put_uint (.slice p4 L4.length c4) L4 ix w4 hv4 (by omega); have x46 : w4.cell? ⟨w.heap.size, 6, none⟩ = some (.int .i64 ep) := AB.cell a4 rfl; have x47 : w4.cell? ⟨w.heap.size, 7, none⟩ = some (.int .i64 ix) := AB.cell a4 rfl; have x48 : w4.cell? ⟨w.heap.size, 8, none⟩ = some (.int .i64 li) := AB.cell a4 rfl)
      | (refine step_calls2 rfl 40 _ _ _ _ rfl (.slice p4 L4.length c4) (.int .i64 ix) rfl rfl rfl (fun r w' => ∃ L p c, r = .slice p L.length c ∧ HB w' (.slice p L.length c) L ∧ Hid (L = L4 ++ numL (clampN ix)) ∧ Below (w4).heap.size (w4) w') (H4.mono fun e w' ⟨L, p, c, h1, h2⟩ => ⟨_, h1, L, p, c, rfl, h2⟩) ?_; rintro r w5 ⟨L5, p5, c5, rfl, hv5, hL5, hb5⟩; have a5 := AB.later a4 hb5; have b5 := b4.trans (hb5.mono b4.size); have ln5 : L5.length ≤ 45 := len_app hL5 (by omega); have H5 := put_uint (.slice p5 L5.length c5) L5 li w5 hv5 (by omega); have x56 : w5.cell? ⟨w.heap.size, 6, none⟩ = some (.int .i64 ep) := AB.cell a5 rfl; have x57 : w5.cell? ⟨w.heap.size, 7, none⟩ = some (.int .i64 ix) := AB.cell a5 rfl; have x58 : w5.cell? ⟨w.heap.size, 8, none⟩ = some (.int .i64 li) := AB.cell a5 rfl)
      | (refine step_calls2 rfl 40 _ _ _ _ rfl (.slice p5 L5.length c5) (.int .i64 li) rfl rfl rfl (fun r w' => ∃ L p c, r = .slice p L.length c ∧ HB w' (.slice p L.length c) L ∧ Hid (L = L5 ++ numL (clampN li)) ∧ Below (w5).heap.size (w5) w') (H5.mono fun e w' ⟨L, p, c, h1, h2⟩ => ⟨_, h1, L, p, c, rfl, h2⟩) ?_; rintro r w6 ⟨L6, p6, c6, rfl, hv6, hL6, hb6⟩; have a6 := AB.later a5 hb6; have b6 := b5.trans (hb6.mono b5.size); have ln6 : L6.length ≤ 54 := len_app hL6 (by omega)))
    all_goals
      obtain ⟨d0, d1, d2, d3, d4, d5, d6, d7, d8, d9⟩ := ask_cells a6
      go_wp2
      go_ret
      refine ⟨_, _, _, rfl, hv6, ?_, b6⟩
      show L6 = _
      rw [hL6.out, hL5.out, hL4.out, hL3.out, hL2.out, hL1.out]
      simp only [List.append_assoc, List.nil_append]

set_option maxRecDepth 100000 in
set_option maxHeartbeats 4000000 in
theorem rb8 (fr to ti ep ix li : Int) (so : Bool) (p q : Option Addr) (c d : Nat) (id : List UInt8) (bs : List (List UInt8 × List UInt8)) (w : World) :
    Calls Try.prog 24 #[.agg #[.int .i64 8, .slice p id.length c, .int .i64 fr, .int .i64 to, .int .i64 ti, .bool so, .int .i64 ep, .int .i64 ix, .int .i64 li, .slice q bs.length d]] w (PutT (numL (clampN 8)) ([]) w) := by
  have a0 : AB (w.alloc (.cells #[.int .i64 8, .slice p id.length c, .int .i64 fr, .int .i64 to, .int .i64 ti, .bool so, .int .i64 ep, .int .i64 ix, .int .i64 li, .slice q bs.length d] 25)) w.heap.size #[.int .i64 8, .slice p id.length c, .int .i64 fr, .int .i64 to, .int .i64 ti, .bool so, .int .i64 ep, .int .i64 ix, .int .i64 li, .slice q bs.length d] := heap_alloc_new w _
  have b0 := (Below.refl w.heap.size w).alloc (Nat.le_refl _) (.cells #[.int .i64 8, .slice p id.length c, .int .i64 fr, .int .i64 to, .int .i64 ti, .bool so, .int .i64 ep, .int .i64 ix, .int .i64 li, .slice q bs.length d] 25)
  obtain ⟨w0, hw0⟩ : ∃ x, x = w.alloc (.cells #[.int .i64 8, .slice p id.length c, .int .i64 fr, .int .i64 to, .int .i64 ti, .bool so, .int .i64 ep, .int .i64 ix, .int .i64 li, .slice q bs.length d] 25) := ⟨_, rfl⟩
  rw [← hw0] at a0 b0
  have H0 := put_uint (.slice none 0 0) [] 8 w0 (HB.nil _) (by simp)
  rw [hw0] at H0
  have HW0 : Hid (w0 = w.alloc (.cells #[.int .i64 8, .slice p id.length c, .int .i64 fr, .int .i64 to, .int .i64 ti, .bool so, .int .i64 ep, .int .i64 ix, .int .i64 li, .slice q bs.length d] 25)) := hw0
  clear hw0
  have zK := numL9 8
  go_enter Try.func24, Try.ntmps24
  go_wp2_with fail
  refine H0.mono ?_
  clear H0
  rintro e w1 ⟨L1, p1, c1, rfl, hv1, hL1, hb1⟩
  rw [← HW0.out] at hb1
  have ln1 : L1.length ≤ 9 := len_app hL1 (by simp only [List.length_nil]; omega)
  have a1 := a0.later hb1
  have b1 := b0.trans (hb1.mono b0.size)
  clear a0 b0 hb1 HW0
  obtain ⟨d0, d1, d2, d3, d4, d5, d6, d7, d8, d9⟩ := ask_cells a1
  go_wp2
  go_ret
  refine ⟨_, _, _, rfl, hv1, ?_, b1⟩
  show L1 = _
  rw [hL1.out]
  simp only [List.nil_append, List.append_nil]

set_option maxRecDepth 100000 in
set_option maxHeartbeats 4000000 in
theorem rb9 (fr to ti ep ix li : Int) (so : Bool) (p q : Option Addr) (c d : Nat) (id : List UInt8) (bs : List (List UInt8 × List UInt8)) (w : World) :
    Calls Try.prog 24 #[.agg #[.int .i64 9, .slice p id.length c, .int .i64 fr, .int .i64 to, .int .i64 ti, .bool so, .int .i64 ep, .int .i64 ix, .int .i64 li, .slice q bs.length d]] w (PutT (numL (clampN 9)) ([]) w) := by
  have a0 : AB (w.alloc (.cells #[.int .i64 9, .slice p id.length c, .int .i64 fr, .int .i64 to, .int .i64 ti, .bool so, .int .i64 ep, .int .i64 ix, .int .i64 li, .slice q bs.length d] 25)) w.heap.size #[.int .i64 9, .slice p id.length c, .int .i64 fr, .int .i64 to, .int .i64 ti, .bool so, .int .i64 ep, .int .i64 ix, .int .i64 li, .slice q bs.length d] := heap_alloc_new w _
  have b0 := (Below.refl w.heap.size w).alloc (Nat.le_refl _) (.cells #[.int .i64 9, .slice p id.length c, .int .i64 fr, .int .i64 to, .int .i64 ti, .bool so, .int .i64 ep, .int .i64 ix, .int .i64 li, .slice q bs.length d] 25)
  obtain ⟨w0, hw0⟩ : ∃ x, x = w.alloc (.cells #[.int .i64 9, .slice p id.length c, .int .i64 fr, .int .i64 to, .int .i64 ti, .bool so, .int .i64 ep, .int .i64 ix, .int .i64 li, .slice q bs.length d] 25) := ⟨_, rfl⟩
  rw [← hw0] at a0 b0
  have H0 := put_uint (.slice none 0 0) [] 9 w0 (HB.nil _) (by simp)
  rw [hw0] at H0
  have HW0 : Hid (w0 = w.alloc (.cells #[.int .i64 9, .slice p id.length c, .int .i64 fr, .int .i64 to, .int .i64 ti, .bool so, .int .i64 ep, .int .i64 ix, .int .i64 li, .slice q bs.length d] 25)) := hw0
  clear hw0
  have zK := numL9 9
  go_enter Try.func24, Try.ntmps24
  go_wp2_with fail
  refine H0.mono ?_
  clear H0
  rintro e w1 ⟨L1, p1, c1, rfl, hv1, hL1, hb1⟩
  rw [← HW0.out] at hb1
  have ln1 : L1.length ≤ 9 := len_app hL1 (by simp only [List.length_nil]; omega)
  have a1 := a0.later hb1
  have b1 := b0.trans (hb1.mono b0.size)
  clear a0 b0 hb1 HW0
  obtain ⟨d0, d1, d2, d3, d4, d5, d6, d7, d8, d9⟩ := ask_cells a1
  go_wp2
  go_ret
  refine ⟨_, _, _, rfl, hv1, ?_, b1⟩
  show L1 = _
  rw [hL1.out]
  simp only [List.nil_append, List.append_nil]

set_option maxRecDepth 100000 in
set_option maxHeartbeats 4000000 in
theorem rb10 (fr to ti ep ix li : Int) (so : Bool) (p q : Option Addr) (c d : Nat) (id : List UInt8) (bs : List (List UInt8 × List UInt8)) (w : World) (hid : HB w (.slice p id.length c) id) (hil : id.length ≤ 1000) :
    Calls Try.prog 24 #[.agg #[.int .i64 10, .slice p id.length c, .int .i64 fr, .int .i64 to, .int .i64 ti, .bool so, .int .i64 ep, .int .i64 ix, .int .i64 li, .slice q bs.length d]] w (PutT (numL (clampN 10)) (bytesL id ++ (numL (clampN fr) ++ (numL (clampN to) ++ (numL (clampN li))))) w) := by
  have a0 : AB (w.alloc (.cells #[.int .i64 10, .slice p id.length c, .int .i64 fr, .int .i64 to, .int .i64 ti, .bool so, .int .i64 ep, .int .i64 ix, .int .i64 li, .slice q bs.length d] 25)) w.heap.size #[.int .i64 10, .slice p id.length c, .int .i64 fr, .int .i64 to, .int .i64 ti, .bool so, .int .i64 ep, .int .i64 ix, .int .i64 li, .slice q bs.length d] := heap_alloc_new w _
  have b0 := (Below.refl w.heap.size w).alloc (Nat.le_refl _) (.cells #[.int .i64 10, .slice p id.length c, .int .i64 fr, .int .i64 to, .int .i64 ti, .bool so, .int .i64 ep, .int .i64 ix, .int .i64 li, .slice q bs.length d] 25)
  obtain ⟨w0, hw0⟩ : ∃ x, x = w.alloc (.cells #[.int .i64 10, .slice p id.length c, .int .i64 fr, .int .i64 to, .int .i64 ti, .bool so, .int .i64 ep, .int .i64 ix, .int .i64 li, .slice q bs.length d] 25) := ⟨_, rfl⟩
  rw [← hw0] at a0 b0
  have H0 := put_uint (.slice none 0 0) [] 10 w0 (HB.nil _) (by simp)
  rw [hw0] at H0
  have HW0 : Hid (w0 = w.alloc (.cells #[.int .i64 10, .slice p id.length c, .int .i64 fr, .int .i64 to, .int .i64 ti, .bool so, .int .i64 ep, .int .i64 ix, .int .i64 li, .slice q bs.length d] 25)) := hw0
  clear hw0
  have zK := numL9 10
  have z2 := numL9 fr
  have z3 := numL9 to
  have z8 := numL9 li
  have z1 : (bytesL id).length ≤ id.length + 9 := bytesL_big id (by omega)
  go_enter Try.func24, Try.ntmps24
  go_wp2_with fail
  refine H0.mono ?_
  clear H0
  rintro e w1 ⟨L1, p1, c1, rfl, hv1, hL1, hb1⟩
  rw [← HW0.out] at hb1
  have ln1 : L1.length ≤ 9 := len_app hL1 (by simp only [List.length_nil]; omega)
  have a1 := a0.later hb1
  have b1 := b0.trans (hb1.mono b0.size)
  clear a0 b0 hb1 HW0
  have bd := Below.drew b1
  have ad : AB w1.drew w.heap.size #[.int .i64 10, .slice p id.length c, .int .i64 fr, .int .i64 to, .int .i64 ti, .bool so, .int .i64 ep, .int .i64 ix, .int .i64 li, .slice q bs.length d] := a1
  have hvd := hv1.later (Below.drew (Below.refl _ w1))
  have g1 : (w1.drew).cell? ⟨w.heap.size, 1, none⟩ = some (.slice p id.length c) := AB.cell (ad) rfl
  have g2 : (w1.drew).cell? ⟨w.heap.size, 2, none⟩ = some (.int .i64 fr) := AB.cell (ad) rfl
  have q0 : w1.cell? ⟨w.heap.size, 0, none⟩ = some (.int .i64 10) := AB.cell a1 rfl
  have H1 := put_bytes (.slice p1 L1.length c1) (.slice p id.length c) L1 id w1.drew hvd (hid.later bd) (by omega)
  go_wp2
  go_region_law (first
    | (refine step_calls2 rfl 42 _ _ _ _ rfl (.slice p1 L1.length c1) (.slice p id.length c) rfl rfl rfl (fun r w' => ∃ L p c, r = .slice p L.length c ∧ HB w' (.slice p L.length c) L ∧ Hid (L = L1 ++ bytesL id) ∧ Below (w1.drew).heap.size (w1.drew) w') (H1.mono fun e w' ⟨L, p, c, h1, h2⟩ => ⟨_, h1, L, p, c, rfl, h2⟩) ?_; rintro r w2 ⟨L2, p2, c2, rfl, hv2, hL2, hb2⟩; have a2 := AB.later ad hb2; have b2 := bd.trans (hb2.mono bd.size); have ln2 : L2.length ≤ 1018 := len_app hL2 (by omega); have H2 := put_uint (.slice p2 L2.length c2) L2 fr w2 hv2 (by omega); have x21 : w2.cell? ⟨w.heap.size, 1, none⟩ = some (.slice p id.length c) := AB.cell a2 rfl; have x22 : w2.cell? ⟨w.heap.size, 2, none⟩ = some (.int .i64 fr) := AB.cell a2 rfl)
    | (refine step_calls2 rfl 40 _ _ _ _ rfl (.slice p2 L2.length c2) (.int .i64 fr) rfl rfl rfl (fun r w' => ∃ L p c, r = .slice p L.length c ∧ HB w' (.slice p L.length c) L ∧ Hid (L = L2 ++ numL (clampN fr)) ∧ Below (w2).heap.size (w2) w') (H2.mono fun e w' ⟨L, p, c, h1, h2⟩ => ⟨_, h1, L, p, c, rfl, h2⟩) ?_; rintro r w3 ⟨L3, p3, c3, rfl, hv3, hL3, hb3⟩; have a3 := AB.later a2 hb3; have b3 := b2.trans (hb3.mono b2.size); have ln3 : L3.length ≤ 1027 := len_app hL3 (by omega)))
  all_goals
    have bd := Below.drew b3
    have ad : AB w3.drew w.heap.size #[.int .i64 10, .slice p id.length c, .int .i64 fr, .int .i64 to, .int .i64 ti, .bool so, .int .i64 ep, .int .i64 ix, .int .i64 li, .slice q bs.length d] := a3
    have hvd := hv3.later (Below.drew (Below.refl _ w3))
    have g3 : (w3.drew).cell? ⟨w.heap.size, 3, none⟩ = some (.int .i64 to) := AB.cell (ad) rfl
    have g8 : (w3.drew).cell? ⟨w.heap.size, 8, none⟩ = some (.int .i64 li) := AB.cell (ad) rfl
    have q0 : w3.cell? ⟨w.heap.size, 0, none⟩ = some (.int .i64 10) := AB.cell a3 rfl
    have H3 := put_uint (.slice p3 L3.length c3) L3 to w3.drew hvd (by omega)
    go_wp2
    go_region_law (first
      | (refine step_calls2 rfl 40 _ _ _ _ rfl (.slice p3 L3.length c3) (.int .i64 to) rfl rfl rfl (fun r w' => ∃ L p c, r = .slice p L.length c ∧ HB w' (.slice p L.length c) L ∧ Hid (L = L3 ++ numL (clampN to)) ∧ Below (w3.drew).heap.size (w3.drew) w') (H3.mono fun e w' ⟨L, p, c, h1, h2⟩ => ⟨_, h1, L, p, c, rfl, h2⟩) ?_; rintro r w4 ⟨L4, p4, c4, rfl, hv4, hL4, hb4⟩; have a4 := AB.later ad hb4; have b4 := bd.trans (hb4.mono bd.size); have ln4 : L4.length ≤ 1036 := len_app hL4 (by omega); have H4 := put_uint (.slice p4 L4.length c4) L4 li w4 hv4 (by omega); have x43 : w4.cell? ⟨w.heap.size, 3, none⟩ = some (.int .i64 to) := AB.cell a4 rfl; have x48 : w4.cell? ⟨w.heap.size, 8, none⟩ = some (.int .i64 li) := AB.cell a4 rfl)
      | (refine step_calls2 rfl 40 _ _ _ _ rfl (.slice p4 L4.length c4) (.int .i64 li) rfl rfl rfl (fun r w' => ∃ L p c, r = .slice p L.length c ∧ HB w' (.slice p L.length c) L ∧ Hid (L = L4 ++ numL (clampN li)) ∧ Below (w4).heap.size (w4) w') (H4.mono fun e w' ⟨L, p, c, h1, h2⟩ => ⟨_, h1, L, p, c, rfl, h2⟩) ?_; rintro r w5 ⟨L5, p5, c5, rfl, hv5, hL5, hb5⟩; have a5 := AB.later a4 hb5; have b5 := b4.trans (hb5.mono b4.size); have ln5 : L5.length ≤ 1045 := len_app hL5 (by omega)))
    all_goals
      obtain ⟨d0, d1, d2, d3, d4, d5, d6, d7, d8, d9⟩ := ask_cells a5
      go_wp2
      go_ret
      refine ⟨_, _, _, rfl, hv5, ?_, b5⟩
      show L5 = _
      rw [hL5.out, hL4.out, hL3.out, hL2.out, hL1.out]
      simp only [List.append_assoc, List.nil_append]

end Go.Proofs.Ythkgbgkijdeaoaa
