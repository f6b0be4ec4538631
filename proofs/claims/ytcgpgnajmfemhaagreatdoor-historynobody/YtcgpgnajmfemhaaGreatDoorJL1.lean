/- What this text proves: the walk of seglog's Append over this program, with the records that the log has (the device lives). What this text proves: the walk of seglog's Records over this program: the log's records, each in bytes of its own. What this text proves: the walks of seglog's Append over this program: no record, no room, and a record that goes in, with the records that the log has then (the device lives). -/
import Derived.Test.YtcgpgnajmfemhaaGreatDoorJW1
namespace Go.Proofs.YtcgpgnajmfemhaaGreatDoor
open Go.RowKit

/-- The slice lies in a block of bytes. -/
def BY (w : World) (u : Value) : Prop := ∀ a n c, u = .slice (some a) n c → ∃ cur fr, w.heap[a.block]? = some (.cells cur 5 fr)

theorem HB.sty {w w' : World} {u : Value} {l : List UInt8} (h : HB w u l) (hb : BY w u) (hs : Sty 5 w w') : HB w' u l ∧ BY w' u := by
  obtain ⟨p, c, rfl⟩ := h.shape
  constructor
  · have hl := h.len
    refine ⟨p, c, rfl, hl.2.1, hl.2.2.1, hl.2.2.2, fun hn => ?_⟩
    obtain ⟨b, o, rfl, hc⟩ := h.addr (List.length_pos_iff.2 hn)
    obtain ⟨cur, fr, hg⟩ := hb _ _ _ rfl
    refine ⟨b, o, rfl, fun i x hx => ?_⟩
    have := hc i x hx
    rw [World.cell?_of_block ((hs b cur fr hg).trans hg.symm)]
    exact this
  · intro a n' c' e
    obtain ⟨cur, fr, hg⟩ := hb a n' c' e
    exact ⟨cur, fr, hs _ _ _ hg⟩

theorem own_by {w : World} {base n m : Nat} {v : Value} {xs : List Value} (h : w.ownsRow base 5 m v n xs) : BY w v := by
  intro a k c e
  rcases h.2 with ⟨rfl, _⟩ | ⟨g, cap, cur, rfl, _, hg, _⟩
  · cases e
  · simp only [Value.slice.injEq, Option.some.injEq] at e
    obtain ⟨rfl, _⟩ := e
    exact ⟨cur, _, hg⟩

/-- A row of rows of bytes that the call owns. -/
def RB (w : World) (base : Nat) (v : Value) (ls : List (List UInt8)) : Prop :=
  ∃ vs : List Value, w.ownsRow base 37 1 v ls.length vs ∧ ∀ (j : Nat) u l, vs[j]? = some u → ls[j]? = some l → HB w u l ∧ BY w u

theorem RB.nil (w : World) (base : Nat) : RB w base (.slice none 0 0) [] := ⟨[], World.ownsRow_nil _ _ _ _, fun j u l h => by simp at h⟩
theorem RB.keep {w w' : World} {base : Nat} {v : Value} {ls : List (List UInt8)} (h : RB w base v ls) (hs : Sty 5 w w') (ho : ∀ b, v.ownBlock = some b → w'.heap[b]? = w.heap[b]?) : RB w' base v ls := by
  obtain ⟨vs, h1, h2⟩ := h
  exact ⟨vs, owns_same h1 ho, fun j u l hu hl => (h2 j u l hu hl).1.sty (h2 j u l hu hl).2 hs⟩
theorem RB.later {w w' : World} {base : Nat} {v : Value} {ls : List (List UInt8)} (h : RB w base v ls) (hb : Below w.heap.size w w') : RB w' base v ls := by
  obtain ⟨vs, h1, h2⟩ := h
  exact RB.keep ⟨vs, h1, h2⟩ (Sty.of_below hb) (fun b e => hb.block b (own_lt h1 b e))
theorem RB.pa {w : World} {base : Nat} {v : Value} {ls : List (List UInt8)} (h : RB w base v ls) : PA w v ls := by
  obtain ⟨vs, h1, h2⟩ := h
  have hl := h1.1
  rw [Nat.mul_one] at hl
  obtain ⟨_, q⟩ := h1
  rcases q with ⟨e0, h0⟩ | ⟨g, cap, cur, rfl, hb, hg, hle, hm, hsz, ht⟩
  · have h3 := List.eq_nil_of_length_eq_zero h0
    subst h3
    rw [e0]
    exact ⟨none, 0, [], rfl, Nat.le_refl _, Nat.zero_le _, fun _ => rfl, rfl, fun h => absurd rfl h, fun i x l h => by simp at h⟩
  · refine ⟨_, cap, vs, rfl, by simpa using hle, hm, (fun h => by cases h), by simp [hl], fun _ => ⟨g, 0, rfl, fun i x hx => ?_⟩, fun j u l hu hl => (h2 j u l hu hl).1⟩
    rw [Nat.zero_add, cell_of_row w g i cur 37 (0, 0) hg]
    have hi : i < vs.length := (List.getElem?_eq_some_iff.1 hx).1
    rw [← ht, List.getElem?_take, if_pos (by omega)] at hx
    simpa using hx

theorem own_not {w : World} {base n g bd : Nat} {v rs : Value} {xs : List Value} {a b : Int} {st : Bool} (h : w.ownsRow base 37 1 v n xs) (l : LB w g bd a b rs st) : ∀ q, v.ownBlock = some q → q ≠ g := by
  intro q hq
  rcases h.2 with ⟨rfl, _⟩ | ⟨g', cap, cur, rfl, _, hg, _⟩
  · cases hq
  · obtain rfl : g' = q := by simpa [Value.ownBlock] using hq
    rintro rfl
    unfold LB at l
    rw [hg] at l
    simp at l

theorem take_log {g bd base k : Nat} {n : Int} {rs : Value} {st : Bool} {ls : List (List UInt8)} {b : List UInt8} {pb : Option Addr} {cb : Nat} {w : World} (h : LB w g bd n (k : Int) rs st) (ho : RB w base rs ls) (hbase : base ≤ w.heap.size) (hr : ls.length ≤ 1000000) (hm : b.length ≤ 4000) (hk : k ≤ 16384) (hb : HB w (.slice pb b.length cb) b) (hy : BY w (.slice pb b.length cb)) :
    Calls Tryz.prog 85 #[.pointer (some ⟨g, 0, none⟩), .slice pb b.length cb] w fun e w' => e = .returned (.tuple #[]) ∧ ∃ rs', LB w' g bd n ((k + (tsec b.length + 1) : Nat) : Int) rs' st ∧ RB w' base rs' (ls ++ [b]) ∧ Part (fun q => q = g ∨ some q = rs.ownBlock) w w' := by
  obtain ⟨vs, h1, h2⟩ := ho
  have bA := (Below.refl _ w).alloc (Nat.le_refl _) (.cells #[.slice pb b.length cb] 37)
  have hvl := h1.1
  rw [Nat.mul_one] at hvl
  refine (take_any (pb := pb) (m := b.length) (cb := cb) h h1 hbase hr hm hk).mono ?_
  rintro e w' ⟨rfl, rs', w1, o1, l1, p1, g1, p2⟩
  refine ⟨rfl, rs', l1, ?_, p1⟩
  have hA := owns_later h1 bA
  have s1 : Sty 5 w w1 := (Sty.of_below bA).trans (Sty.of_grown hA g1 (by decide))
  have lA := h.same (bA.block _ h.lt)
  have hgw : w1.heap[g]? = (w.alloc (.cells #[.slice pb b.length cb] 37)).heap[g]? := g1.block g lA.lt (fun e => own_not hA lA g e.symm rfl)
  have lw1 : LB w1 g bd n (k : Int) rs st := lA.same hgw
  have s2 : Sty 5 w1 w' := Sty.of_part p2 (by rintro q cur fr rfl hq; unfold LB at lw1; rw [lw1] at hq; simp at hq)
  have hR : RB w1 base rs' (ls ++ [b]) := by
    refine ⟨vs ++ [.slice pb b.length cb], by simpa using o1, fun j u l hu hl => ?_⟩
    by_cases hj : j < ls.length
    · rw [List.getElem?_append_left (by omega)] at hu
      rw [List.getElem?_append_left hj] at hl
      exact (h2 j u l hu hl).1.sty (h2 j u l hu hl).2 s1
    · rw [List.getElem?_append_right (by omega), hvl] at hu
      rw [List.getElem?_append_right (by omega)] at hl
      cases hjk : j - ls.length with
      | zero =>
        rw [hjk] at hu hl
        simp at hu hl
        subst hu; subst hl
        exact hb.sty hy s1
      | succ m => rw [hjk] at hu; simp at hu
  exact hR.keep s2 (fun q hq => p2.2 q (own_lt o1 q hq) (own_not o1 lw1 q hq))

end Go.Proofs.YtcgpgnajmfemhaaGreatDoor

namespace Go.Proofs.YtcgpgnajmfemhaaGreatDoor
open Go.RowKit

/-- A made list of N rows of bytes that the call owns, the first k of them told. -/
def QB (w : World) (base g N k : Nat) (sig : Nat → List UInt8) : Prop :=
  ∃ vs : List Value, w.ownsRow base 37 1 (.slice (some ⟨g, 0, none⟩) N N) N vs ∧ ∀ (j : Nat) u, j < k → vs[j]? = some u → HB w u (sig j) ∧ BY w u

theorem QB.later {w w' : World} {base g N k : Nat} {sig : Nat → List UInt8} (h : QB w base g N k sig) (hb : Below w.heap.size w w') : QB w' base g N k sig := by
  obtain ⟨vs, h1, h3⟩ := h
  exact ⟨vs, owns_later h1 hb, fun j u hj hu => (h3 j u hj hu).1.sty (h3 j u hj hu).2 (Sty.of_below hb)⟩

theorem QB.cell {w : World} {base g N k : Nat} {sig : Nat → List UInt8} (h : QB w base g N k sig) (i : Nat) (hi : i < N) : ∃ y, w.cell? ⟨g, i, none⟩ = some y ∧ w.frozen? ⟨g, i, none⟩ = false := by
  obtain ⟨vs, q1, _⟩ := h
  have hl := q1.1
  rw [Nat.mul_one] at hl
  have hc := q1.cellAt i (by omega)
  rw [List.getElem?_eq_getElem (by omega)] at hc
  exact ⟨_, hc, q1.frozenAt i⟩

theorem QB.put {w : World} {base g N k : Nat} {sig : Nat → List UInt8} (h : QB w base g N k sig) (x : Value) (hx : HB w x (sig k)) (tx : BY w x) : QB (w.setCell ⟨g, k, none⟩ x) base g N (k + 1) sig := by
  obtain ⟨vs, h1, h3⟩ := h
  obtain ⟨q1, q2⟩ := h1.stored k x
  have hs : Sty 5 w (w.setCell ⟨g, k, none⟩ x) := Sty.of_grown h1 q2 (by decide)
  refine ⟨vs.set k x, q1, fun j u hj hu => ?_⟩
  by_cases hjk : k = j
  · subst hjk
    rw [List.getElem?_set_self'] at hu
    cases hv : vs[k]? with
    | none => rw [hv] at hu; simp at hu
    | some y =>
      rw [hv] at hu
      simp at hu
      subst hu
      exact hx.sty tx hs
  · rw [List.getElem?_set_ne hjk] at hu
    obtain ⟨a, b⟩ := h3 j u (by omega) hu
    exact a.sty b hs

theorem QB.rb {w : World} {base g : Nat} {ls : List (List UInt8)} (h : QB w base g ls.length ls.length (fun j => ls.getD j [])) : RB w base (.slice (some ⟨g, 0, none⟩) ls.length ls.length) ls := by
  obtain ⟨vs, h1, h3⟩ := h
  refine ⟨vs, h1, fun j u l hu hl => ?_⟩
  have := h3 j u (List.getElem?_eq_some_iff.1 hl).1 hu
  simpa [List.getD, hl] using this

set_option maxRecDepth 100000 in
set_option maxHeartbeats 4000000 in
theorem srecs_any {g bd base : Nat} {n k : Int} {rs : Value} {st : Bool} {ls : List (List UInt8)} {w : World} (h : LB w g bd n k rs st) (ho : RB w base rs ls) (hr : ls.length ≤ 1000000) (hm : ∀ l ∈ ls, l.length ≤ 140737488355328) :
    Calls Tryz.prog 72 #[.pointer (some ⟨g, 0, none⟩)] w fun e w' => ∃ p c, e = .returned (.slice p ls.length c) ∧ RB w' w.heap.size (.slice p ls.length c) ls ∧ Below w.heap.size w w' := by
  have hp := ho.pa
  obtain ⟨pr, cr, rfl⟩ := hp.shape
  obtain ⟨c0, c1, c2, c3, c4⟩ := h.cells
  have hMs := smiss_no g bd w c0
  obtain ⟨i0, hi0, hz0, hz1, hz2⟩ := info_parts i_byt
  have HS : Hid (∀ k x, ls[k]? = some x → (fun j => ls.getD j []) k = x) := by
    intro k x hx
    simp [List.getD, hx]
  have HQ : Hid (∀ W, QB W w.heap.size w.heap.size ls.length ls.length (fun j => ls.getD j []) → RB W w.heap.size (.slice (some ⟨w.heap.size, 0, none⟩) ls.length ls.length) ls) := fun W h => h.rb
  have HM : Hid (∀ l ∈ ls, l.length ≤ 140737488355328) := hm
  generalize (fun j => ls.getD j []) = sig at *
  clear h ho hm
  go_enter Tryz.func72, Tryz.ntmps72
  go_wp2_with (first
    | (go_at_call 81; refine hMs.mono ?_; rintro e w1 ⟨rfl, rfl⟩)
    | (at_make; refine wpList_make_full _ rfl _ _ 38 rfl _ 37 i0 (.slice none 0 0) 1 Tryz.underlying38 hi0 hz0 hz1 .i64 .i64 _ _ ls.length rfl rfl ?_ ?_ ?_ ?_ (Nat.le_refl _) ?_))
  all_goals (try (first | omega | (unfold maxLen; omega) | (rw [hz2]; omega)))
  intro w2 hown hgrow
  have hb2 : Below w1.heap.size w1 w2 := (Below.refl _ w1).grown hgrow (Nat.le_refl _) (by intro k hk; cases hk)
  have hq2 : QB w2 w1.heap.size w1.heap.size ls.length 0 sig := ⟨_, hown, fun j u hj => by omega⟩
  have e3 := cell_later hb2 c3
  clear hown hgrow
  go_wp2
  go_loopw [19] (fun i wr => ∃ k : Nat, k ≤ ls.length ∧ i = .int .i64 k ∧ QB wr w1.heap.size w1.heap.size ls.length k sig ∧ Below w1.heap.size w1 wr) (fun i _ => ls.length - (Go.RowKit.intOf i).toNat)
  case atStart => exact ⟨0, Nat.zero_le _, rfl, hq2, hb2⟩
  case round =>
    obtain ⟨k, hk, rfl, hq, hbe⟩ := hrel
    clear hq2 hb2
    have hsz := hbe.size
    by_cases hlt : k < ls.length
    · obtain ⟨bl, o, rfl⟩ := hp.addr (by omega)
      obtain ⟨q, kc, x, hx, hc, hu⟩ := hp.get k hlt
      have hlt2 : (k : Int) < (ls.length : Int) := by omega
      have e1 := cell_later hbe hc
      have hxl := HM.out x (List.mem_of_getElem? hx.out)
      have hL := clone_own (.slice q x.length kc) x wr (hu.later hbe) hxl
      have hsx := HS.out k x hx.out
      clear hu hc hx
      go_wp2_with fail
      refine hL.mono ?_
      rintro e w3 ⟨p3, c3, rfl, o3, hb3⟩
      have hq3 := hq.later hb3
      have hb03 := hbe.trans (hb3.mono hbe.size)
      obtain ⟨y, cy, fy⟩ := hq3.cell k hlt
      have h3 := HB.of_owns o3
      have hq4 := hq3.put _ (by rw [hsx]; exact h3) (own_by o3)
      have hb4 : Below w1.heap.size w1 (w3.setCell ⟨w1.heap.size, k, none⟩ (.slice p3 x.length c3)) := hb03.setCell (Nat.le_refl _) _
      clear hq hq3 hb3 hb03 h3 hL e1 hsx o3
      go_wp2
      go_roundw
      case rel => exact ⟨k + 1, by omega, by go_num, hq4, hb4⟩
      case measure => simp [Go.RowKit.intOf]; omega
    · obtain rfl : k = ls.length := by omega
      have hpa := HQ.out _ hq
      clear hq HS HQ
      go_wp2
      go_ret
      exact ⟨_, _, rfl, hpa, hbe⟩

end Go.Proofs.YtcgpgnajmfemhaaGreatDoor

namespace Go.Proofs.YtcgpgnajmfemhaaGreatDoor
open Go.RowKit

set_option maxRecDepth 100000 in
set_option maxHeartbeats 800000 in
theorem append_arg {g bd n k : Nat} {rs : Value} {b : List UInt8} {p : Option Addr} {cp : Nat} {w : World} (h : LB w g bd (n : Int) (k : Int) rs false) (hb : ¬ (1 ≤ b.length ∧ b.length ≤ 4000)) :
    Calls Tryz.prog 47 #[.pointer (some ⟨g, 0, none⟩), .slice p b.length cp] w fun e w' => e = .returned (.int .i64 1) ∧ w' = w := by
  obtain ⟨c0, c1, c2, c3, c4⟩ := h.cells
  have hMs := smiss_no g bd w c0
  have hCn := scan_any (b.length : Int) w
  rw [decide_eq_false (by omega)] at hCn
  go_enter Tryz.func47, Tryz.ntmps47
  go_wp2_with (first
    | (go_at_call 81; refine hMs.mono ?_; rintro e w1 ⟨rfl, rfl⟩)
    | (go_at_call 82; refine hCn.mono ?_; rintro e w1 ⟨rfl, rfl⟩))
  go_ret
  exact ⟨rfl, rfl⟩

set_option maxRecDepth 100000 in
set_option maxHeartbeats 1600000 in
theorem append_full {g bd N k : Nat} {rs : Value} {b : List UInt8} {p : Option Addr} {cp : Nat} {w : World} (h : LB w g bd (N : Int) (k : Int) rs false) (hb0 : 1 ≤ b.length) (hb : b.length ≤ 4000) (hk : N < k + (tsec b.length + 1)) (hN : N ≤ 16384 ∧ k ≤ N) :
    Calls Tryz.prog 47 #[.pointer (some ⟨g, 0, none⟩), .slice p b.length cp] w fun e w' => e = .returned (.int .i64 4) ∧ Below w.heap.size w w' := by
  obtain ⟨c0, c1, c2, c3, c4⟩ := h.cells
  have hMs := smiss_no g bd w c0
  have hCn := scan_any (b.length : Int) w
  rw [decide_eq_true (by omega)] at hCn
  have hTk := fun W => taken_any b.length (by omega) W
  have ht : tsec b.length + 1 ≤ 100 := by unfold tsec; omega
  generalize tsec b.length + 1 = t at *
  have hwn : IntKind.i64.wrap ((N : Int) - (k : Int)) = (N : Int) - (k : Int) := wrapM _ (by have := hN.1; have := hN.2; omega) (by have := hN.1; omega)
  have hroom : (t : Int) > (N : Int) - (k : Int) := by omega
  clear h
  go_enter Tryz.func47, Tryz.ntmps47
  go_wp2_with (first
    | (go_at_call 81; refine hMs.mono ?_; rintro e w1 ⟨rfl, rfl⟩)
    | (go_at_call 82; refine hCn.mono ?_; rintro e w1 ⟨rfl, rfl⟩))
  go_region_with (go_at_call 83; refine (hTk _).mono ?_; rintro e w3 ⟨rfl, rfl⟩)
  all_goals
    go_wp2
    go_ret
    exact ⟨rfl, (Below.refl _ _).drew⟩

set_option maxRecDepth 100000 in
set_option maxHeartbeats 3200000 in
theorem append_log {g bd bn bm N c k cr base : Nat} {pr : Option Addr} {s : DevS} {b : List UInt8} {ls : List (List UInt8)} {p : Option Addr} {cp : Nat} {w : World} (h : LB w g bd (N : Int) (k : Int) (.slice pr ls.length cr) false) (ho : RB w base (.slice pr ls.length cr) ls) (hbase : base ≤ w.heap.size) (hd : Dev w bd bn bm s) (ha : Alive s N c) (hT : Tabs w) (hlow : 3 ≤ bd ∧ 3 ≤ bn ∧ 3 ≤ bm) (hv : HB w (.slice p b.length cp) b) (hvb : ∀ a, p = some a → a.block ≠ bd ∧ a.block ≠ bn ∧ a.block ≠ bm) (hb0 : 1 ≤ b.length) (hb : b.length ≤ 4000) (hk : k + (tsec b.length + 1) ≤ N) (hN : N ≤ 16384) (hc : c + 1000 ≤ 1099511627776) (hr : ls.length ≤ 1000000) :
    Calls Tryz.prog 47 #[.pointer (some ⟨g, 0, none⟩), .slice p b.length cp] w fun e w' => e = .returned (.int .i64 0) ∧ ∃ s' bm' rs', Dev w' bd bn bm' s' ∧ Alive s' N (c + 200) ∧ (bm' = bm ∨ w.heap.size ≤ bm') ∧ LB w' g bd (N : Int) ((k + (tsec b.length + 1) : Nat) : Int) rs' false ∧ RB w' base rs' (ls ++ [b]) ∧ Part (fun q => q = bd ∨ q = bn ∨ q = bm ∨ q = g ∨ some q = (Value.slice pr ls.length cr).ownBlock) w w' := by
  obtain ⟨c0, c1, c2, c3, c4⟩ := h.cells
  have hMs := smiss_no g bd w c0
  have hCn := scan_any (b.length : Int) w
  rw [decide_eq_true (by omega)] at hCn
  have hTk := fun W => taken_any b.length (by omega) W
  have hdr : Below w.heap.size w w.drew := (Below.refl _ _).drew
  have hP := put_ok (h.same (hdr.block _ h.lt)) (hd.later hdr) ha (hT.later hdr) hlow (hv.later hdr) hb hk hN hc hr
  have hne := h.ne hd
  obtain ⟨vs, ho1, ho2⟩ := id ho
  have hon := own_ne ho1 hd
  have hol := own_lt ho1
  have hdS : ∀ w1, Part (fun q => q = bd ∨ q = bn ∨ q = bm) w.drew w1 → Sty 5 w w1 := fun w1 hp => (Sty.of_below hdr).trans (Sty.of_part hp (by
    have h1 := (hd.later hdr).db
    obtain ⟨cs, h2, _⟩ := (hd.later hdr).sr
    obtain ⟨D, ⟨es, clock, h3, _⟩, _⟩ := (hd.later hdr).dm
    unfold DB at h1
    rintro q cur fr (rfl | rfl | rfl) hq
    · rw [h1] at hq; simp at hq
    · rw [h2] at hq; simp at hq
    · rw [h3] at hq; simp at hq))
  have hAll : ∀ w1, Part (fun q => q = bd ∨ q = bn ∨ q = bm) w.drew w1 → LB w1 g bd (N : Int) (k : Int) (.slice pr ls.length cr) false ∧ RB w1 base (.slice pr ls.length cr) ls ∧ HB w1 (.slice p b.length cp) b := fun w1 hp => by
    refine ⟨(h.same (hdr.block _ h.lt)).same (hp.2 _ h.lt (by rintro (e | e | e); exact hne.1 e; exact hne.2.1 e; exact hne.2.2 e)), ho.keep (hdS w1 hp) (fun q hq => hp.2 _ (hol q hq) (by rintro (e | e | e); exact (hon q hq).1 e; exact (hon q hq).2.1 e; exact (hon q hq).2.2 e)), (hv.later hdr).part hp (fun a e => by rintro (e' | e' | e'); exact (hvb a e).1 e'; exact (hvb a e).2.1 e'; exact (hvb a e).2.2 e')⟩
  have hTK := fun (W : World) (q : Option Addr) (d : Nat) (l : LB W g bd (N : Int) (k : Int) (.slice pr ls.length cr) false) (o : RB W base (.slice pr ls.length cr) ls) (hs : w.heap.size ≤ W.heap.size) (hx : HB W (.slice q b.length d) b) (hy : BY W (.slice q b.length d)) => take_log l o (by omega) hr hb (by omega) hx hy
  have ht : tsec b.length + 1 ≤ 100 := by unfold tsec; omega
  generalize tsec b.length + 1 = t at *
  have hwn : IntKind.i64.wrap ((N : Int) - (k : Int)) = (N : Int) - (k : Int) := wrapM _ (by omega) (by omega)
  have hroom : ¬ ((t : Int) > (N : Int) - (k : Int)) := by omega
  clear hd hT hv ho ho1 ho2 hdS
  go_enter Tryz.func47, Tryz.ntmps47
  go_wp2_with (first
    | (go_at_call 81; refine hMs.mono ?_; rintro e w1 ⟨rfl, rfl⟩)
    | (go_at_call 82; refine hCn.mono ?_; rintro e w1 ⟨rfl, rfl⟩))
  go_region_with (go_at_call 83; refine (hTk _).mono ?_; rintro e w3 ⟨rfl, rfl⟩)
  all_goals
    have hs0 : w1.drew.heap.size = w1.heap.size := rfl
    go_wp2_with (first
      | (go_at_call 84; refine hP.mono ?_; rintro e w4 ⟨rfl, s4, bm4, hd4, ha4, hbm4, hp4⟩; obtain ⟨l4, o4, v4⟩ := hAll w4 hp4; have hs4 : w1.heap.size ≤ w4.heap.size := hp4.size; have hCl := clone_own _ b w4 v4 (by omega))
      | (go_at_call 44; refine hCl.mono ?_; rintro e w5 ⟨p5, c5, rfl, o5, hb5⟩; have hT5 := hTK w5 p5 c5 (l4.same (hb5.block _ l4.lt)) (o4.later hb5) (Nat.le_trans hs4 hb5.size) (HB.of_owns o5) (own_by o5))
      | (go_at_call 85; refine hT5.mono ?_; rintro e w6 ⟨rfl, rs6, l6, o6, hp6⟩))
    go_ret
    obtain ⟨vs4, oo4, _⟩ := o4
    have hd5 := hd4.later hb5
    have hd6 := hd5.part hp6 (by
      have n1 := (l4.same (hb5.block _ l4.lt)).ne hd5
      have n2 := own_ne (owns_later oo4 hb5) hd5
      refine ⟨?_, ?_, ?_⟩ <;> rintro (e | e)
      · exact n1.1 e.symm
      · exact (n2 _ e.symm).1 rfl
      · exact n1.2.1 e.symm
      · exact (n2 _ e.symm).2.1 rfl
      · exact n1.2.2 e.symm
      · exact (n2 _ e.symm).2.2 rfl)
    refine ⟨rfl, s4, bm4, rs6, hd6, ha4, hbm4, l6, o6, ?_⟩
    have P1 : Part (fun q => q = bd ∨ q = bn ∨ q = bm ∨ q = g ∨ some q = (Value.slice pr ls.length cr).ownBlock) w1 w4 := (Part.refl _ w1).drew.trans hp4 (by rintro q _ (e | e | e); exact .inl e; exact .inr (.inl e); exact .inr (.inr (.inl e)))
    exact (P1.trans (Part.of_below (S := fun _ => False) hb5) (fun _ _ e => e.elim)).trans hp6 (by rintro q _ (e | e); exact .inr (.inr (.inr (.inl e))); exact .inr (.inr (.inr (.inr e))))

end Go.Proofs.YtcgpgnajmfemhaaGreatDoor
