/- What this text proves: the walks of fields' Throw, and of fields.Reader's Number, Text, Flag and End over this program, at a cell of a block of any type. (By program: mkflreadg.py.) -/
import Derived.Test.YtldmbfemoepfkaaFlCells
import Derived.Test.YtldmbfemoepfkaaRcKeep
import Derived.Test.YtldmbfemoepfkaaStepInv
import Derived.Test.YtldmbfemoepfkaaRdText
import Derived.Test.YtldmbfemoepfkaaRdAny
namespace Go.Proofs.Ytldmbfemoepfkaa
open Go.RowKit

/-- What is thrown of an error. -/
def thrown (e : Int) : List PanicEntry := [{ v := .iface 62 (.int .i64 e), recovered := false }]

set_option maxHeartbeats 400000 in
theorem throw_none (w : World) : Calls Try.prog 63 #[.int .i64 0] w fun x w' => x = .returned (.tuple #[]) ∧ w' = w := by
  go_enter Try.func63, Try.ntmps63
  go_wp2
  go_end0
  exact ⟨rfl, rfl⟩

set_option maxHeartbeats 400000 in
theorem throw_some (e : Int) (he : e ≠ 0) (w : World) : Calls Try.prog 63 #[.int .i64 e] w fun x w' => x = .panicked (thrown e) ∧ w' = w := by
  go_enter Try.func63, Try.ntmps63
  go_wp2
  exact ⟨rfl, rfl, rfl⟩

/-- Blocks of other types than a codec's reader's and U stay. -/
def TKR (U : TypeId) (w w' : World) : Prop := ∀ (k : Nat) cur t fr, w.heap[k]? = some (.cells cur t fr) → t ≠ 88 → t ≠ U → w'.heap[k]? = some (.cells cur t fr)
theorem TKR.refl (U : TypeId) (w : World) : TKR U w w := fun _ _ _ _ h _ _ => h
theorem TKR.trans {U : TypeId} {a b c : World} (h : TKR U a b) (k : TKR U b c) : TKR U a c := fun i cur t fr hi h1 h2 => k i cur t fr (h i cur t fr hi h1 h2) h1 h2
theorem TKR.of_below {U : TypeId} {w w' : World} (hb : Below w.heap.size w w') : TKR U w w' := fun k _ _ _ hk _ _ => (hb.block k (Array.getElem?_eq_some_iff.1 hk).1).trans hk
theorem TKR.of_tk {U : TypeId} {w w' : World} (h : TK 88 w w') : TKR U w w' := fun k cur t fr hk h1 _ => h k cur t fr hk h1
theorem TKR.put {U : TypeId} {w : World} {g i : Nat} {cs : Array Value} (hg : CB U w g cs) (u : Value) : TKR U w (w.setCell ⟨g, i, none⟩ u) := by
  intro k cur t fr hk _ ht
  have hne : k ≠ g := by
    rintro rfl
    rw [show w.heap[k]? = _ from hg] at hk
    simp only [Option.some.injEq, Obj.cells.injEq] at hk
    exact ht hk.2.1.symm
  exact (Below.heap_setCell w ⟨g, i, none⟩ u k hne).trans hk

/-- Block g, of type T, is a reader of fields: the bytes, and the codec's reader of what is left, l, with the error e. -/
def RF (T : TypeId) (w : World) (g gc : Nat) (bv : Value) (l : List UInt8) (e : Int) : Prop := w.heap[g]? = some (.cells #[bv, .pointer (some ⟨gc, 0, none⟩)] T (0, 0)) ∧ RR w gc l e

theorem RF.cell {T : TypeId} {w : World} {g gc : Nat} {bv : Value} {l : List UInt8} {e : Int} (h : RF T w g gc bv l e) : w.cell? ⟨g, 0, none⟩ = some bv ∧ w.cell? ⟨g, 1, none⟩ = some (.pointer (some ⟨gc, 0, none⟩)) := by
  refine ⟨?_, ?_⟩ <;> (rw [cell_of_row _ _ _ _ _ _ h.1]; rfl)
theorem RF.only {T : TypeId} (hT : T ≠ 88) {w w' : World} {g gc : Nat} {bv : Value} {l l' : List UInt8} {e e' : Int} (h : RF T w g gc bv l e) (hr : RR w' gc l' e') (ho : Only gc w w') : RF T w' g gc bv l' e' ∧ TK 88 w w' := by
  obtain ⟨cs, f, hg⟩ := h.2.typed
  have t : TK 88 w w' := TK.of_only ho hg
  exact ⟨⟨t _ _ _ _ h.1 hT, hr⟩, t⟩
theorem RF.later {T : TypeId} {w w' : World} {g gc : Nat} {bv : Value} {l : List UInt8} {e : Int} (h : RF T w g gc bv l e) (hb : Below w.heap.size w w') : RF T w' g gc bv l e := ⟨(hb.block g (Array.getElem?_eq_some_iff.1 h.1).1).trans h.1, h.2.later hb⟩

/-- A reader's call at a request's cell: it is read, or the error is thrown. -/
def Got (U T : TypeId) (base g gc gA : Nat) (bv : Value) (cs : Array Value) (e : Int) (l : List UInt8) (r : Value) (w : World) (x : Ending) (w' : World) : Prop :=
  Below base w w' ∧ TKR U w w' ∧ CB U w' gA cs ∧ ((e = 0 ∧ x = .returned r ∧ RF T w' g gc bv l 0) ∨ (e ≠ 0 ∧ x = .panicked (thrown e)))

theorem RR.put {U : TypeId} {w : World} {gc gA i : Nat} {cs : Array Value} {l : List UInt8} {e : Int} (h : RR w gc l e) (hUU : 88 ≠ U ∧ U ≠ 88 ∧ 5 ≠ U ∧ 5 ≠ 88) (hA : CB U w gA cs) (v : Value) : RR (w.setCell ⟨gA, i, none⟩ v) gc l e :=
  h.tk (TK.of_only ((Only.refl gA w).setCell i v) hA) hUU.2.2.1 hUU.1
theorem RF.put {U T : TypeId} {w : World} {g gc gA i : Nat} {bv : Value} {cs : Array Value} {l : List UInt8} {e : Int} (h : RF T w g gc bv l e) (hUU : 88 ≠ U ∧ U ≠ 88 ∧ 5 ≠ U ∧ 5 ≠ 88) (hT : T ≠ U) (hA : CB U w gA cs) (v : Value) : RF T (w.setCell ⟨gA, i, none⟩ v) g gc bv l e :=
  ⟨TK.of_only ((Only.refl gA w).setCell i v) hA _ _ _ _ h.1 hT, h.2.put hUU hA v⟩

set_option maxHeartbeats 2000000 in
theorem rnumberF_any (U T : TypeId) (hT : T ≠ 88) (hUU : 88 ≠ U ∧ U ≠ 88 ∧ 5 ≠ U ∧ 5 ≠ 88) (hT2 : T ≠ U) (base g gc gA i : Nat) (bv v0 : Value) (cs : Array Value) (l : List UInt8) (most : Int) (w : World) (h : RF T w g gc bv l 0) (hA : CB U w gA cs) (hi : cs[i]? = some v0) (hc : base ≤ gc) (ha : base ≤ gA) :
    Calls Try.prog 61 #[.pointer (some ⟨g, 0, none⟩), .pointer (some ⟨gA, i, none⟩), .int .i64 most] w (Got U T base g gc gA bv (cs.setIfInBounds i (.int .i64 ((uintF l most).2.1 : Int))) (uintF l most).1 (uintF l most).2.2 (.tuple #[]) w) := by
  have hU := uint_any gc l most w h.2
  unfold UintSaid at hU
  generalize (uintF l most).1 = e at *
  generalize (uintF l most).2.2 = l' at *
  generalize (uintF l most).2.1 = n at *
  obtain ⟨c0, c1⟩ := h.cell
  obtain ⟨R, hR⟩ : ∃ R, R = Got U T base g gc gA bv (cs.setIfInBounds i (.int .i64 (n : Int))) e l' (.tuple #[]) w := ⟨_, rfl⟩
  have HR : Hid (R = Got U T base g gc gA bv (cs.setIfInBounds i (.int .i64 (n : Int))) e l' (.tuple #[]) w) := hR
  rw [← hR]
  clear hR
  go_enter Try.func61, Try.ntmps61
  go_wp2_with fail
  refine hU.mono ?_
  rintro x w1 ⟨rfl, hr, ho⟩
  obtain ⟨h1, t1⟩ := h.only hT hr ho
  have hA1 : CB U w1 gA cs := t1 _ _ _ _ hA hUU.2.1
  have bB : Below base w w1 := ho.below hc
  have c2 := hA1.cell hi
  have f2 := hA1.free i
  have h2 := h1.put hUU hT2 (i := i) hA1 (.int .i64 (n : Int))
  have hA2 := hA1.put i (.int .i64 (n : Int))
  have bC := bB.setCell (p := ⟨gA, i, none⟩) ha (.int .i64 (n : Int))
  have tC := (TKR.of_tk t1).trans (TKR.put (i := i) hA1 (.int .i64 (n : Int)))
  obtain ⟨c3, c4⟩ := h2.cell
  have hE := rr_err gc l' e _ h2.2
  clear hU hr ho t1 bB h h1 hA hA1 hi
  go_wp2_with fail
  refine hE.mono ?_
  rintro x w2 ⟨rfl, rfl⟩
  clear hE
  by_cases he : e = 0
  · have H := throw_none (w1.setCell ⟨gA, i, none⟩ (.int .i64 (n : Int)))
    have he' : Hid (e = 0) := he
    rw [← he] at H
    clear he
    go_wp2_with fail
    refine H.mono ?_
    rintro x w2 ⟨rfl, rfl⟩
    rw [he'.out] at h2
    go_wp2
    go_end0
    rw [HR.out]
    exact ⟨bC, tC, hA2, .inl ⟨he'.out, rfl, h2⟩⟩
  · have H := throw_some e he (w1.setCell ⟨gA, i, none⟩ (.int .i64 (n : Int)))
    go_wp2_with fail
    refine H.mono ?_
    rintro x w2 ⟨rfl, rfl⟩
    go_wp2
    refine ⟨rfl, ?_⟩
    rw [HR.out]
    exact ⟨bC, tC, hA2, .inr ⟨he, rfl⟩⟩

set_option maxHeartbeats 2000000 in
theorem rtextF_any (U T : TypeId) (hT : T ≠ 88) (hUU : 88 ≠ U ∧ U ≠ 88 ∧ 5 ≠ U ∧ 5 ≠ 88) (hT2 : T ≠ U) (base g gc gA i : Nat) (bv v0 : Value) (cs : Array Value) (l : List UInt8) (most : Int) (w : World) (h : RF T w g gc bv l 0) (hA : CB U w gA cs) (hi : cs[i]? = some v0) (hc : base ≤ gc) (ha : base ≤ gA) (hsz : l.length ≤ 140737488355328) :
    Calls Try.prog 62 #[.pointer (some ⟨g, 0, none⟩), .pointer (some ⟨gA, i, none⟩), .int .i64 most] w fun x w' => ∃ p c, Got U T base g gc gA bv (cs.setIfInBounds i (.slice p (bytesF l most).2.1.length c)) (bytesF l most).1 (bytesF l most).2.2 (.tuple #[]) w x w' ∧ HBN w' gc (.slice p (bytesF l most).2.1.length c) (bytesF l most).2.1 := by
  have hU := bytes_any gc l most w h.2 hsz
  unfold BytesSaid at hU
  generalize (bytesF l most).1 = e at *
  generalize (bytesF l most).2.2 = l' at *
  generalize (bytesF l most).2.1 = n at *
  obtain ⟨c0, c1⟩ := h.cell
  obtain ⟨R, hR⟩ : ∃ R : Ending → World → Prop, R = fun x w' => ∃ p c, Got U T base g gc gA bv (cs.setIfInBounds i (.slice p n.length c)) e l' (.tuple #[]) w x w' ∧ HBN w' gc (.slice p n.length c) n := ⟨_, rfl⟩
  have HR : Hid (R = fun x w' => ∃ p c, Got U T base g gc gA bv (cs.setIfInBounds i (.slice p n.length c)) e l' (.tuple #[]) w x w' ∧ HBN w' gc (.slice p n.length c) n) := hR
  rw [← hR]
  clear hR
  go_enter Try.func62, Try.ntmps62
  go_wp2_with fail
  refine hU.mono ?_
  rintro x w1 ⟨pt, ct, rfl, hn, hr, ho⟩
  obtain ⟨h1, t1⟩ := h.only hT hr ho
  have hA1 : CB U w1 gA cs := t1 _ _ _ _ hA hUU.2.1
  have bB : Below base w w1 := ho.below hc
  have c2 := hA1.cell hi
  have f2 := hA1.free i
  have h2 := h1.put hUU hT2 (i := i) hA1 (.slice pt n.length ct)
  have hA2 := hA1.put i (.slice pt n.length ct)
  have bC := bB.setCell (p := ⟨gA, i, none⟩) ha (.slice pt n.length ct)
  have tC := (TKR.of_tk t1).trans (TKR.put (i := i) hA1 (.slice pt n.length ct))
  obtain ⟨c3, c4⟩ := h2.cell
  have hn2 := hn.tk (TK.of_only ((Only.refl gA w1).setCell i (.slice pt n.length ct)) hA1) hUU.2.2.1
  have hE := rr_err gc l' e _ h2.2
  clear hU hr ho t1 bB h h1 hA hA1 hi hn hsz
  go_wp2_with fail
  refine hE.mono ?_
  rintro x w2 ⟨rfl, rfl⟩
  clear hE
  by_cases he : e = 0
  · have H := throw_none (w1.setCell ⟨gA, i, none⟩ (.slice pt n.length ct))
    have he' : Hid (e = 0) := he
    rw [← he] at H
    clear he
    go_wp2_with fail
    refine H.mono ?_
    rintro x w2 ⟨rfl, rfl⟩
    rw [he'.out] at h2
    go_wp2
    go_end0
    rw [HR.out]
    exact ⟨_, _, ⟨bC, tC, hA2, .inl ⟨he'.out, rfl, h2⟩⟩, hn2⟩
  · have H := throw_some e he (w1.setCell ⟨gA, i, none⟩ (.slice pt n.length ct))
    go_wp2_with fail
    refine H.mono ?_
    rintro x w2 ⟨rfl, rfl⟩
    go_wp2
    refine ⟨rfl, ?_⟩
    rw [HR.out]
    exact ⟨_, _, ⟨bC, tC, hA2, .inr ⟨he, rfl⟩⟩, hn2⟩

set_option maxHeartbeats 2000000 in
theorem rflagF_any (U T : TypeId) (hT : T ≠ 88) (hUU : 88 ≠ U ∧ U ≠ 88 ∧ 5 ≠ U ∧ 5 ≠ 88) (hT2 : T ≠ U) (base g gc gA i : Nat) (bv v0 : Value) (cs : Array Value) (l : List UInt8) (w : World) (h : RF T w g gc bv l 0) (hA : CB U w gA cs) (hi : cs[i]? = some v0) (hc : base ≤ gc) (ha : base ≤ gA) :
    Calls Try.prog 60 #[.pointer (some ⟨g, 0, none⟩), .pointer (some ⟨gA, i, none⟩)] w (Got U T base g gc gA bv (cs.setIfInBounds i (.bool (flagF l).2.1)) (flagF l).1 (flagF l).2.2 (.bool (flagF l).2.1) w) := by
  have hU := flag_any gc l w h.2
  unfold FlagSaid at hU
  generalize (flagF l).1 = e at *
  generalize (flagF l).2.2 = l' at *
  generalize (flagF l).2.1 = n at *
  obtain ⟨c0, c1⟩ := h.cell
  obtain ⟨R, hR⟩ : ∃ R, R = Got U T base g gc gA bv (cs.setIfInBounds i (.bool n)) e l' (.bool n) w := ⟨_, rfl⟩
  have HR : Hid (R = Got U T base g gc gA bv (cs.setIfInBounds i (.bool n)) e l' (.bool n) w) := hR
  rw [← hR]
  clear hR
  go_enter Try.func60, Try.ntmps60
  go_wp2_with fail
  refine hU.mono ?_
  rintro x w1 ⟨rfl, hr, ho⟩
  obtain ⟨h1, t1⟩ := h.only hT hr ho
  have hA1 : CB U w1 gA cs := t1 _ _ _ _ hA hUU.2.1
  have bB : Below base w w1 := ho.below hc
  have c2 := hA1.cell hi
  have f2 := hA1.free i
  have h2 := h1.put hUU hT2 (i := i) hA1 (.bool n)
  have hA2 := hA1.put i (.bool n)
  have bC := bB.setCell (p := ⟨gA, i, none⟩) ha (.bool n)
  have tC := (TKR.of_tk t1).trans (TKR.put (i := i) hA1 (.bool n))
  obtain ⟨c3, c4⟩ := h2.cell
  have c5 : (w1.setCell ⟨gA, i, none⟩ (.bool n)).cell? ⟨gA, i, none⟩ = some (.bool n) := hA2.cell (by rw [Array.getElem?_setIfInBounds_self_of_lt (Array.getElem?_eq_some_iff.1 hi).1])
  have hE := rr_err gc l' e _ h2.2
  clear hU hr ho t1 bB h h1 hA hA1 hi
  go_wp2_with fail
  refine hE.mono ?_
  rintro x w2 ⟨rfl, rfl⟩
  clear hE
  by_cases he : e = 0
  · have H := throw_none (w1.setCell ⟨gA, i, none⟩ (.bool n))
    have he' : Hid (e = 0) := he
    rw [← he] at H
    clear he
    go_wp2_with fail
    refine H.mono ?_
    rintro x w2 ⟨rfl, rfl⟩
    rw [he'.out] at h2
    go_wp2
    rw [HR.out]
    exact ⟨bC, tC, hA2, .inl ⟨he'.out, rfl, h2⟩⟩
  · have H := throw_some e he (w1.setCell ⟨gA, i, none⟩ (.bool n))
    go_wp2_with fail
    refine H.mono ?_
    rintro x w2 ⟨rfl, rfl⟩
    go_wp2
    refine ⟨rfl, ?_⟩
    rw [HR.out]
    exact ⟨bC, tC, hA2, .inr ⟨he, rfl⟩⟩

end Go.Proofs.Ytldmbfemoepfkaa
