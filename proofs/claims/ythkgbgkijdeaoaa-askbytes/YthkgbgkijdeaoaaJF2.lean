/- What this text proves: the walks of fields' Throw and Open, and of fields.Reader's Number, Text, Flag and End over this program. What this text proves: the walks of fields' Open and of fields.Reader's Left and GoOn over this program. -/
import Derived.Test.YthkgbgkijdeaoaaJAkJudge
import Derived.Test.YthkgbgkijdeaoaaStepInv
import Derived.Test.YthkgbgkijdeaoaaJR2
import Derived.Deep.RegionHeld3
namespace Go.Proofs.Ythkgbgkijdeaoaa
open Go.RowKit

/-- What is thrown of an error. -/
def thrown (e : Int) : List PanicEntry := [{ v := .iface 96 (.int .i64 e), recovered := false }]

set_option maxRecDepth 100000 in
set_option maxHeartbeats 400000 in
theorem throw_none (w : World) : Calls Try.prog 29 #[.int .i64 0] w fun x w' => x = .returned (.tuple #[]) ∧ w' = w := by
  go_enter Try.func29, Try.ntmps29
  go_wp2
  go_end0
  exact ⟨rfl, rfl⟩

set_option maxRecDepth 100000 in
set_option maxHeartbeats 400000 in
theorem throw_some (e : Int) (he : e ≠ 0) (w : World) : Calls Try.prog 29 #[.int .i64 e] w fun x w' => x = .panicked (thrown e) ∧ w' = w := by
  go_enter Try.func29, Try.ntmps29
  go_wp2
  exact ⟨rfl, rfl, rfl⟩

/-- Blocks of other types than a codec's reader's and a request's stay. -/
def TKR (w w' : World) : Prop := ∀ (k : Nat) cur t fr, w.heap[k]? = some (.cells cur t fr) → t ≠ 106 → t ≠ 25 → w'.heap[k]? = some (.cells cur t fr)
theorem TKR.refl (w : World) : TKR w w := fun _ _ _ _ h _ _ => h
theorem TKR.trans {a b c : World} (h : TKR a b) (k : TKR b c) : TKR a c := fun i cur t fr hi h1 h2 => k i cur t fr (h i cur t fr hi h1 h2) h1 h2
theorem TKR.of_below {w w' : World} (hb : Below w.heap.size w w') : TKR w w' := fun k _ _ _ hk _ _ => (hb.block k (Array.getElem?_eq_some_iff.1 hk).1).trans hk
theorem TKR.of_tk {w w' : World} (h : TK 106 w w') : TKR w w' := fun k cur t fr hk h1 _ => h k cur t fr hk h1
theorem TKR.put {w : World} {g i : Nat} {cs : Array Value} (hg : AB w g cs) (u : Value) : TKR w (w.setCell ⟨g, i, none⟩ u) := by
  intro k cur t fr hk _ ht
  have hne : k ≠ g := by
    rintro rfl
    rw [show w.heap[k]? = _ from hg] at hk
    simp only [Option.some.injEq, Obj.cells.injEq] at hk
    exact ht hk.2.1.symm
  exact (Below.heap_setCell w ⟨g, i, none⟩ u k hne).trans hk

/-- Block g, of type T, is a reader of fields: the bytes, and the codec's reader of what is left, l, with the error e. -/
def RF (T : TypeId) (w : World) (g gc : Nat) (bv : Value) (l : List UInt8) (e : Int) : Prop := w.heap[g]? = some (.cells #[bv, .pointer (some ⟨gc, 0, none⟩)] T (0, 0)) ∧ RR w gc l e

theorem RF.cell {T : TypeId} {w : World} {g gc : Nat} {bv : Value} {l : List UInt8} {e : Int} (h : RF T w g gc bv l e) : w.cell? ⟨g, 0, none⟩ = some bv ∧ w.cell? ⟨g, 1, none⟩ = some (.pointer (some ⟨gc, 0, none⟩)) := by
  refine ⟨?_, ?_⟩ <;> (rw [cell_of_row _ _ _ _ _ _ h.1]; rfl)
theorem RF.only {T : TypeId} (hT : T ≠ 106) {w w' : World} {g gc : Nat} {bv : Value} {l l' : List UInt8} {e e' : Int} (h : RF T w g gc bv l e) (hr : RR w' gc l' e') (ho : Only gc w w') : RF T w' g gc bv l' e' ∧ TK 106 w w' := by
  obtain ⟨cs, f, hg⟩ := h.2.typed
  have t : TK 106 w w' := TK.of_only ho hg
  exact ⟨⟨t _ _ _ _ h.1 hT, hr⟩, t⟩
theorem RF.later {T : TypeId} {w w' : World} {g gc : Nat} {bv : Value} {l : List UInt8} {e : Int} (h : RF T w g gc bv l e) (hb : Below w.heap.size w w') : RF T w' g gc bv l e := ⟨(hb.block g (Array.getElem?_eq_some_iff.1 h.1).1).trans h.1, h.2.later hb⟩

/-- A reader's call at a request's cell: it is read, or the error is thrown. -/
def Got (T : TypeId) (base g gc gA : Nat) (bv : Value) (cs : Array Value) (e : Int) (l : List UInt8) (r : Value) (w : World) (x : Ending) (w' : World) : Prop :=
  Below base w w' ∧ TKR w w' ∧ AB w' gA cs ∧ ((e = 0 ∧ x = .returned r ∧ RF T w' g gc bv l 0) ∨ (e ≠ 0 ∧ x = .panicked (thrown e)))

theorem ne_rd_ask : 106 ≠ 25 ∧ 25 ≠ 106 ∧ 5 ≠ 25 ∧ 5 ≠ 106 := by decide

theorem RR.put {w : World} {gc gA i : Nat} {cs : Array Value} {l : List UInt8} {e : Int} (h : RR w gc l e) (hA : AB w gA cs) (v : Value) : RR (w.setCell ⟨gA, i, none⟩ v) gc l e :=
  h.tk (TK.of_only ((Only.refl gA w).setCell i v) hA) ne_rd_ask.2.2.1 ne_rd_ask.1
theorem RF.put {T : TypeId} (hT : T ≠ 25) {w : World} {g gc gA i : Nat} {bv : Value} {cs : Array Value} {l : List UInt8} {e : Int} (h : RF T w g gc bv l e) (hA : AB w gA cs) (v : Value) : RF T (w.setCell ⟨gA, i, none⟩ v) g gc bv l e :=
  ⟨TK.of_only ((Only.refl gA w).setCell i v) hA _ _ _ _ h.1 hT, h.2.put hA v⟩

set_option maxRecDepth 100000 in
set_option maxHeartbeats 2000000 in
theorem rnumberF_any (T : TypeId) (hT : T ≠ 106) (hT2 : T ≠ 25) (base g gc gA i : Nat) (bv v0 : Value) (cs : Array Value) (l : List UInt8) (most : Int) (w : World) (h : RF T w g gc bv l 0) (hA : AB w gA cs) (hi : cs[i]? = some v0) (hc : base ≤ gc) (ha : base ≤ gA) :
    Calls Try.prog 28 #[.pointer (some ⟨g, 0, none⟩), .pointer (some ⟨gA, i, none⟩), .int .i64 most] w (Got T base g gc gA bv (cs.setIfInBounds i (.int .i64 ((uintF l most).2.1 : Int))) (uintF l most).1 (uintF l most).2.2 (.tuple #[]) w) := by
  have hU := uint_any gc l most w h.2
  unfold UintSaid at hU
  generalize (uintF l most).1 = e at *
  generalize (uintF l most).2.2 = l' at *
  generalize (uintF l most).2.1 = n at *
  obtain ⟨c0, c1⟩ := h.cell
  obtain ⟨R, hR⟩ : ∃ R, R = Got T base g gc gA bv (cs.setIfInBounds i (.int .i64 (n : Int))) e l' (.tuple #[]) w := ⟨_, rfl⟩
  have HR : Hid (R = Got T base g gc gA bv (cs.setIfInBounds i (.int .i64 (n : Int))) e l' (.tuple #[]) w) := hR
  rw [← hR]
  clear hR
  go_enter Try.func28, Try.ntmps28
  go_wp2_with fail
  refine hU.mono ?_
  rintro x w1 ⟨rfl, hr, ho⟩
  obtain ⟨h1, t1⟩ := h.only hT hr ho
  have hA1 : AB w1 gA cs := t1 _ _ _ _ hA ne_rd_ask.2.1
  have bB : Below base w w1 := ho.below hc
  have c2 := hA1.cell hi
  have f2 := hA1.free i
  have h2 := h1.put hT2 (i := i) hA1 (.int .i64 (n : Int))
  have hA2 := hA1.put i (.int .i64 (n : Int))
  have bC := bB.setCell (p := ⟨gA, i, none⟩) ha (.int .i64 (n : Int))
  have tC := (TKR.of_tk t1).trans (TKR.put (i := i) hA1 (.int .i64 (n : Int)))
  obtain ⟨c3, c4⟩ := h2.cell
  have hE := rr_err gc l' e _ h2.2
  clear hU hr ho t1 bB h h1 hA hA1 hi
  go_wp2_with fail
  refine hE.mono ?_
  rintro x w2 ⟨rfl, rfl⟩
  clear hE
  by_cases he : e = 0
  · have H := throw_none (w1.setCell ⟨gA, i, none⟩ (.int .i64 (n : Int)))
    have he' : Hid (e = 0) := he
    rw [← he] at H
    clear he
    go_wp2_with fail
    refine H.mono ?_
    rintro x w2 ⟨rfl, rfl⟩
    rw [he'.out] at h2
    go_wp2
    go_end0
    rw [HR.out]
    exact ⟨bC, tC, hA2, .inl ⟨he'.out, rfl, h2⟩⟩
  · have H := throw_some e he (w1.setCell ⟨gA, i, none⟩ (.int .i64 (n : Int)))
    go_wp2_with fail
    refine H.mono ?_
    rintro x w2 ⟨rfl, rfl⟩
    go_wp2
    refine ⟨rfl, ?_⟩
    rw [HR.out]
    exact ⟨bC, tC, hA2, .inr ⟨he, rfl⟩⟩

set_option maxRecDepth 100000 in
set_option maxHeartbeats 2000000 in
theorem rtextF_any (T : TypeId) (hT : T ≠ 106) (hT2 : T ≠ 25) (base g gc gA i : Nat) (bv v0 : Value) (cs : Array Value) (l : List UInt8) (most : Int) (w : World) (h : RF T w g gc bv l 0) (hA : AB w gA cs) (hi : cs[i]? = some v0) (hc : base ≤ gc) (ha : base ≤ gA) (hsz : l.length ≤ 140737488355328) :
    Calls Try.prog 88 #[.pointer (some ⟨g, 0, none⟩), .pointer (some ⟨gA, i, none⟩), .int .i64 most] w fun x w' => ∃ p c, Got T base g gc gA bv (cs.setIfInBounds i (.slice p (bytesF l most).2.1.length c)) (bytesF l most).1 (bytesF l most).2.2 (.tuple #[]) w x w' ∧ HBN w' gc (.slice p (bytesF l most).2.1.length c) (bytesF l most).2.1 := by
  have hU := bytes_any gc l most w h.2 hsz
  unfold BytesSaid at hU
  generalize (bytesF l most).1 = e at *
  generalize (bytesF l most).2.2 = l' at *
  generalize (bytesF l most).2.1 = n at *
  obtain ⟨c0, c1⟩ := h.cell
  obtain ⟨R, hR⟩ : ∃ R : Ending → World → Prop, R = fun x w' => ∃ p c, Got T base g gc gA bv (cs.setIfInBounds i (.slice p n.length c)) e l' (.tuple #[]) w x w' ∧ HBN w' gc (.slice p n.length c) n := ⟨_, rfl⟩
  have HR : Hid (R = fun x w' => ∃ p c, Got T base g gc gA bv (cs.setIfInBounds i (.slice p n.length c)) e l' (.tuple #[]) w x w' ∧ HBN w' gc (.slice p n.length c) n) := hR
  rw [← hR]
  clear hR
  go_enter Try.func88, Try.ntmps88
  go_wp2_with fail
  refine hU.mono ?_
  rintro x w1 ⟨pt, ct, rfl, hn, hr, ho⟩
  obtain ⟨h1, t1⟩ := h.only hT hr ho
  have hA1 : AB w1 gA cs := t1 _ _ _ _ hA ne_rd_ask.2.1
  have bB : Below base w w1 := ho.below hc
  have c2 := hA1.cell hi
  have f2 := hA1.free i
  have h2 := h1.put hT2 (i := i) hA1 (.slice pt n.length ct)
  have hA2 := hA1.put i (.slice pt n.length ct)
  have bC := bB.setCell (p := ⟨gA, i, none⟩) ha (.slice pt n.length ct)
  have tC := (TKR.of_tk t1).trans (TKR.put (i := i) hA1 (.slice pt n.length ct))
  obtain ⟨c3, c4⟩ := h2.cell
  have hn2 := hn.tk (TK.of_only ((Only.refl gA w1).setCell i (.slice pt n.length ct)) hA1) ne_rd_ask.2.2.1
  have hE := rr_err gc l' e _ h2.2
  clear hU hr ho t1 bB h h1 hA hA1 hi hn hsz
  go_wp2_with fail
  refine hE.mono ?_
  rintro x w2 ⟨rfl, rfl⟩
  clear hE
  by_cases he : e = 0
  · have H := throw_none (w1.setCell ⟨gA, i, none⟩ (.slice pt n.length ct))
    have he' : Hid (e = 0) := he
    rw [← he] at H
    clear he
    go_wp2_with fail
    refine H.mono ?_
    rintro x w2 ⟨rfl, rfl⟩
    rw [he'.out] at h2
    go_wp2
    go_end0
    rw [HR.out]
    exact ⟨_, _, ⟨bC, tC, hA2, .inl ⟨he'.out, rfl, h2⟩⟩, hn2⟩
  · have H := throw_some e he (w1.setCell ⟨gA, i, none⟩ (.slice pt n.length ct))
    go_wp2_with fail
    refine H.mono ?_
    rintro x w2 ⟨rfl, rfl⟩
    go_wp2
    refine ⟨rfl, ?_⟩
    rw [HR.out]
    exact ⟨_, _, ⟨bC, tC, hA2, .inr ⟨he, rfl⟩⟩, hn2⟩

set_option maxRecDepth 100000 in
set_option maxHeartbeats 2000000 in
theorem rflagF_any (T : TypeId) (hT : T ≠ 106) (hT2 : T ≠ 25) (base g gc gA i : Nat) (bv v0 : Value) (cs : Array Value) (l : List UInt8) (w : World) (h : RF T w g gc bv l 0) (hA : AB w gA cs) (hi : cs[i]? = some v0) (hc : base ≤ gc) (ha : base ≤ gA) :
    Calls Try.prog 87 #[.pointer (some ⟨g, 0, none⟩), .pointer (some ⟨gA, i, none⟩)] w (Got T base g gc gA bv (cs.setIfInBounds i (.bool (flagF l).2.1)) (flagF l).1 (flagF l).2.2 (.bool (flagF l).2.1) w) := by
  have hU := flag_any gc l w h.2
  unfold FlagSaid at hU
  generalize (flagF l).1 = e at *
  generalize (flagF l).2.2 = l' at *
  generalize (flagF l).2.1 = n at *
  obtain ⟨c0, c1⟩ := h.cell
  obtain ⟨R, hR⟩ : ∃ R, R = Got T base g gc gA bv (cs.setIfInBounds i (.bool n)) e l' (.bool n) w := ⟨_, rfl⟩
  have HR : Hid (R = Got T base g gc gA bv (cs.setIfInBounds i (.bool n)) e l' (.bool n) w) := hR
  rw [← hR]
  clear hR
  go_enter Try.func87, Try.ntmps87
  go_wp2_with fail
  refine hU.mono ?_
  rintro x w1 ⟨rfl, hr, ho⟩
  obtain ⟨h1, t1⟩ := h.only hT hr ho
  have hA1 : AB w1 gA cs := t1 _ _ _ _ hA ne_rd_ask.2.1
  have bB : Below base w w1 := ho.below hc
  have c2 := hA1.cell hi
  have f2 := hA1.free i
  have h2 := h1.put hT2 (i := i) hA1 (.bool n)
  have hA2 := hA1.put i (.bool n)
  have bC := bB.setCell (p := ⟨gA, i, none⟩) ha (.bool n)
  have tC := (TKR.of_tk t1).trans (TKR.put (i := i) hA1 (.bool n))
  obtain ⟨c3, c4⟩ := h2.cell
  have c5 : (w1.setCell ⟨gA, i, none⟩ (.bool n)).cell? ⟨gA, i, none⟩ = some (.bool n) := hA2.cell (by rw [Array.getElem?_setIfInBounds_self_of_lt (Array.getElem?_eq_some_iff.1 hi).1])
  have hE := rr_err gc l' e _ h2.2
  clear hU hr ho t1 bB h h1 hA hA1 hi
  go_wp2_with fail
  refine hE.mono ?_
  rintro x w2 ⟨rfl, rfl⟩
  clear hE
  by_cases he : e = 0
  · have H := throw_none (w1.setCell ⟨gA, i, none⟩ (.bool n))
    have he' : Hid (e = 0) := he
    rw [← he] at H
    clear he
    go_wp2_with fail
    refine H.mono ?_
    rintro x w2 ⟨rfl, rfl⟩
    rw [he'.out] at h2
    go_wp2
    rw [HR.out]
    exact ⟨bC, tC, hA2, .inl ⟨he'.out, rfl, h2⟩⟩
  · have H := throw_some e he (w1.setCell ⟨gA, i, none⟩ (.bool n))
    go_wp2_with fail
    refine H.mono ?_
    rintro x w2 ⟨rfl, rfl⟩
    go_wp2
    refine ⟨rfl, ?_⟩
    rw [HR.out]
    exact ⟨bC, tC, hA2, .inr ⟨he, rfl⟩⟩

set_option maxRecDepth 100000 in
set_option maxHeartbeats 400000 in
theorem rendF_any (T : TypeId) (g gc : Nat) (bv : Value) (l : List UInt8) (w : World) (h : RF T w g gc bv l 0) :
    Calls Try.prog 30 #[.pointer (some ⟨g, 0, none⟩)] w fun x w' => w' = w ∧ ((l = [] ∧ x = .returned (.tuple #[])) ∨ (l ≠ [] ∧ x = .panicked (thrown 5))) := by
  obtain ⟨c0, c1⟩ := h.cell
  have hE := rr_end gc l 0 w h.2
  have hl : (l = [] ∧ endF l.length 0 = 0) ∨ (l ≠ [] ∧ endF l.length 0 = 5) := by
    cases l with
    | nil => exact .inl ⟨rfl, rfl⟩
    | cons x r => exact .inr ⟨by simp, by unfold endF; simp⟩
  generalize endF l.length 0 = e at *
  go_enter Try.func30, Try.ntmps30
  go_wp2_with fail
  refine hE.mono ?_
  rintro x w1 ⟨rfl, rfl⟩
  clear hE
  rcases hl with ⟨hl, rfl⟩ | ⟨hl, rfl⟩
  · have H := throw_none w1
    go_wp2_with fail
    refine H.mono ?_
    rintro x w2 ⟨rfl, rfl⟩
    go_wp2
    go_end0
    exact ⟨rfl, .inl ⟨hl, rfl⟩⟩
  · have H := throw_some 5 (by decide) w1
    go_wp2_with fail
    refine H.mono ?_
    rintro x w2 ⟨rfl, rfl⟩
    go_wp2
    exact ⟨rfl, rfl, .inr ⟨hl, rfl⟩⟩

end Go.Proofs.Ythkgbgkijdeaoaa

namespace Go.Proofs.Ythkgbgkijdeaoaa
open Go.RowKit

set_option maxRecDepth 100000 in
set_option maxHeartbeats 1000000 in
theorem flopen_any (v : Value) (l : List UInt8) (w : World) (h : HB w v l) (hsz : l.length ≤ 140737488355328) :
    Calls Try.prog 27 #[v] w fun x w' => ∃ gc, w.heap.size ≤ gc ∧ x = .returned (.agg #[v, .pointer (some ⟨gc, 0, none⟩)]) ∧ RR w' gc l 0 ∧ Below w.heap.size w w' := by
  have bA := (Below.refl w.heap.size w).alloc (Nat.le_refl _) (.cells #[.slice none 0 0, .pointer none] 60)
  have aA := heap_alloc_new w (.cells #[.slice none 0 0, .pointer none] 60)
  have hO := open_any v l _ (h.later bA) hsz
  obtain ⟨p, c, rfl⟩ := h.shape
  go_enter Try.func27, Try.ntmps27
  go_wp2_with fail
  refine hO.mono ?_
  rintro x w1 ⟨gc, hg, rfl, hr, hb⟩
  have hs : w.heap.size < (w.alloc (.cells #[.slice none 0 0, .pointer none] 60)).heap.size := (Array.getElem?_eq_some_iff.1 aA).1
  have a1 := (hb.block w.heap.size hs).trans aA
  have b1 := bA.trans (hb.mono bA.size)
  have hgc : w.heap.size < gc := by omega
  clear hO hb aA bA h hs hg
  have c0 : w1.cell? ⟨w.heap.size, 0, none⟩ = some (.slice none 0 0) := by rw [cell_of_row _ _ _ _ _ _ a1]; rfl
  have c1 : w1.cell? ⟨w.heap.size, 1, none⟩ = some (.pointer none) := by rw [cell_of_row _ _ _ _ _ _ a1]; rfl
  have f0 : ∀ i, w1.frozen? ⟨w.heap.size, i, none⟩ = false := fun i => by simp [World.frozen?, a1]
  have g0 := f0 0
  have g1 := f0 1
  go_wp2
  have ho : Only w.heap.size w1 ((w1.setCell ⟨w.heap.size, 0, none⟩ (.slice p l.length c)).setCell ⟨w.heap.size, 1, none⟩ (.pointer (some ⟨gc, 0, none⟩))) := ((Only.refl _ w1).setCell _ _).setCell _ _
  have t : TK 60 w1 _ := TK.of_only ho a1
  have hr2 := hr.tk t (by decide) (by decide)
  have b2 := b1.trans (ho.below (Nat.le_refl _))
  refine bodyPost_ret (v := .agg #[.slice p l.length c, .pointer (some ⟨gc, 0, none⟩)]) ?_ rfl ?_
  · simp only [results, Try.results27]
    go_simp
  · exact ⟨gc, by omega, rfl, hr2, b2⟩

set_option maxRecDepth 100000 in
set_option maxHeartbeats 1000000 in
theorem flleft_any (T : TypeId) (g gc : Nat) (p : Option Addr) (n c : Nat) (b l : List UInt8) (w : World) (h : RF T w g gc (.slice p n c) l 0) (hb : HB w (.slice p n c) b) (hl : l.length ≤ b.length) :
    Calls Try.prog 92 #[.pointer (some ⟨g, 0, none⟩)] w fun x w' => ∃ v, x = .returned v ∧ HB w' v (b.drop (b.length - l.length)) ∧ Below w.heap.size w w' := by
  obtain ⟨rfl, _, hm, _⟩ := hb.len
  unfold maxLen at hm
  obtain ⟨c0, c1⟩ := h.cell
  have hL := rr_left gc l 0 w.drew h.2
  have hwr : IntKind.i64.wrap ((b.length : Int) - (l.length : Int)) = ((b.length - l.length : Nat) : Int) := by rw [show ((b.length : Int) - (l.length : Int)) = ((b.length - l.length : Nat) : Int) by omega]; exact wrapI _ (by omega)
  have hcut := fun W => run_cut (P := Try.prog) Try.underlying22 s_u8 p b.length c (b.length - l.length) (IntKind.i64.wrap ((b.length : Int) - (l.length : Int))) hwr (by omega) W
  have hB := (hb.behind (b.length - l.length) (by omega)).later (Below.drew (Below.refl _ w))
  have bD := Below.drew (Below.refl w.heap.size w)
  clear h hb hwr
  go_enter Try.func92, Try.ntmps92
  go_wp2
  have hS : w.cell? ⟨g, 0, none⟩ = some (.slice p b.length c) ∧ w.cell? ⟨g, 1, none⟩ = some (.pointer (some ⟨gc, 0, none⟩)) := ⟨c0, c1⟩
  have hSd : w.drew.cell? ⟨g, 0, none⟩ = some (.slice p b.length c) ∧ w.drew.cell? ⟨g, 1, none⟩ = some (.pointer (some ⟨gc, 0, none⟩)) := ⟨c0, c1⟩
  clear c0 c1
  go_region_held3 (fun w' => w'.cell? ⟨g, 0, none⟩ = some (.slice p b.length c) ∧ w'.cell? ⟨g, 1, none⟩ = some (.pointer (some ⟨gc, 0, none⟩))) (first | with_reducible exact hS | with_reducible exact hSd) (first
    | (go_at_call 56; refine hL.mono ?_; rintro e w9 ⟨rfl, hw⟩; subst hw))
  go_wp2
  go_ret
  exact ⟨_, rfl, hB, bD⟩

end Go.Proofs.Ythkgbgkijdeaoaa
