/- What this text holds: slices of events and of records in memory; what is shown of a page, plainly. -/
import Derived.Test.YtggficgmjbgmpaaDoorJCf
import Derived.Test.YtggficgmjbgmpaaDoorJFdFew
import Derived.Test.YtggficgmjbgmpaaDoorJKh
import Derived.Test.YtggficgmjbgmpaaDoorJKg
namespace Go.Proofs.YtggficgmjbgmpaaDoor
open Go.RowKit

/-- An event. -/
structure Ev where
  e : Int
  i : Int
  id : List UInt8
  key : List UInt8

/-- What a page asks of a record. -/
structure Rk where
  e : Int
  c : Int
  li : List UInt8

/-- An event's four cells from o on. -/
def ECells (w : World) (b o : Nat) (x : Ev) (q : Option Addr) (c : Nat) (r : Option Addr) (d : Nat) : Prop :=
  (w.cell? ⟨b, o, none⟩ = some (.int .i64 x.e) ∧ w.cell? ⟨b, o + 1, none⟩ = some (.int .i64 x.i) ∧ w.cell? ⟨b, o + 2, none⟩ = some (.slice q x.id.length c) ∧ w.cell? ⟨b, o + 3, none⟩ = some (.slice r x.key.length d)) ∧ HB w (.slice q x.id.length c) x.id ∧ HB w (.slice r x.key.length d) x.key

theorem ECells.later {w w' : World} {b o : Nat} {x : Ev} {q r : Option Addr} {c d : Nat} (h : ECells w b o x q c r d) (hb : Below w.heap.size w w') : ECells w' b o x q c r d := by
  obtain ⟨⟨h0, h1, h2, h3⟩, h4, h5⟩ := h
  exact ⟨⟨cell_later hb h0, cell_later hb h1, cell_later hb h2, cell_later hb h3⟩, h4.later hb, h5.later hb⟩

/-- The value v is a slice of events. -/
def EA (w : World) (v : Value) (l : List Ev) : Prop :=
  ∃ (p : Option Addr) (cap : Nat), v = .slice p l.length cap ∧ l.length ≤ cap ∧ cap ≤ maxLen ∧
    (l ≠ [] → ∃ b o, p = some ⟨b, o, none⟩ ∧ ∀ (k : Nat) x, l[k]? = some x → ∃ q c r d, ECells w b (o + k * 4) x q c r d)

theorem EA.later {w w' : World} {v : Value} {l : List Ev} (h : EA w v l) (hb : Below w.heap.size w w') : EA w' v l := by
  obtain ⟨p, cap, e, h1, h2, h3⟩ := h
  refine ⟨p, cap, e, h1, h2, fun hn => ?_⟩
  obtain ⟨b, o, e1, e2⟩ := h3 hn
  refine ⟨b, o, e1, fun k x hx => ?_⟩
  obtain ⟨q, c, r, d, g⟩ := e2 k x hx
  exact ⟨q, c, r, d, g.later hb⟩

theorem EA.shape {w : World} {v : Value} {l : List Ev} (h : EA w v l) : ∃ p c, v = .slice p l.length c := by
  obtain ⟨p, cap, e, _⟩ := h
  exact ⟨p, cap, e⟩

theorem EA.len {w : World} {p : Option Addr} {n c : Nat} {l : List Ev} (h : EA w (.slice p n c) l) : n = l.length ∧ n ≤ c ∧ c ≤ maxLen := by
  obtain ⟨p', cap, e, h1, h2, _⟩ := h
  simp only [Value.slice.injEq] at e
  obtain ⟨rfl, rfl, rfl⟩ := e
  exact ⟨rfl, h1, h2⟩

theorem EA.addr {w : World} {p : Option Addr} {n c : Nat} {l : List Ev} (h : EA w (.slice p n c) l) (hn : 0 < n) : ∃ b o, p = some ⟨b, o, none⟩ := by
  obtain ⟨p', cap, e, h1, h2, h3⟩ := h
  simp only [Value.slice.injEq] at e
  obtain ⟨rfl, rfl, rfl⟩ := e
  obtain ⟨b, o, e, _⟩ := h3 (fun h => by subst h; simp at hn)
  exact ⟨b, o, e⟩

theorem EA.get {w : World} {b o n c : Nat} {l : List Ev} (h : EA w (.slice (some ⟨b, o, none⟩) n c) l) (i : Nat) (hi : i < n) :
    ∃ x q k r d, Hid (l[i]? = some x) ∧ ECells w b (o + i * 4) x q k r d := by
  obtain ⟨p', cap, e, h1, h2, h3⟩ := h
  simp only [Value.slice.injEq] at e
  obtain ⟨rfl, rfl, rfl⟩ := e
  obtain ⟨b', o', e', hc⟩ := h3 (fun e => by subst e; simp at hi)
  simp only [Option.some.injEq, Addr.mk.injEq, and_true] at e'
  obtain ⟨rfl, rfl⟩ := e'
  obtain ⟨q, k, r, d, g⟩ := hc i l[i] (List.getElem?_eq_getElem hi)
  exact ⟨l[i], q, k, r, d, List.getElem?_eq_getElem hi, g⟩

/-- The first ones. -/
theorem EA.take {w : World} {p : Option Addr} {n c : Nat} {l : List Ev} (h : EA w (.slice p n c) l) (k : Nat) (hk : k ≤ n) : EA w (.slice p k c) (l.take k) := by
  obtain ⟨p', cap, e, h1, h2, h3⟩ := h
  simp only [Value.slice.injEq] at e
  obtain ⟨rfl, rfl, rfl⟩ := e
  refine ⟨p, c, ?_, by simp; omega, h2, fun hne => ?_⟩
  · congr 1
    simp
    omega
  · obtain ⟨b, o, e, hc⟩ := h3 (fun e => by subst e; simp at hne)
    refine ⟨b, o, e, fun i x hx => hc i x ?_⟩
    rw [List.getElem?_take] at hx
    split at hx
    · exact hx
    · cases hx

/-- Where the events behind the first k lie. -/
def cutE (p : Option Addr) (c k : Nat) : Option Addr := if c = k then p else p.map (·.add (k * 4))

/-- Those behind. -/
theorem EA.drop {w : World} {p : Option Addr} {n c : Nat} {l : List Ev} (h : EA w (.slice p n c) l) (k : Nat) (hk : k ≤ n) : EA w (.slice (cutE p c k) (n - k) (c - k)) (l.drop k) := by
  obtain ⟨p', cap, e, h1, h2, h3⟩ := h
  simp only [Value.slice.injEq] at e
  obtain ⟨rfl, rfl, rfl⟩ := e
  refine ⟨cutE p c k, c - k, ?_, by simp; omega, by omega, fun hne => ?_⟩
  · congr 1
    simp
  · have hlt : k < l.length := by
      rcases Nat.lt_or_ge k l.length with h | h
      · exact h
      · exact absurd (List.drop_eq_nil_of_le h) hne
    obtain ⟨b, o, e, hc⟩ := h3 (fun e => by subst e; simp at hlt)
    subst e
    refine ⟨b, o + k * 4, ?_, fun i x hx => ?_⟩
    · unfold cutE
      rw [if_neg (by omega)]
      simp [add_lit]
    · rw [List.getElem?_drop] at hx
      obtain ⟨q, c', r, d, g⟩ := hc (k + i) x hx
      rw [Nat.add_mul, ← Nat.add_assoc] at g
      exact ⟨q, c', r, d, g⟩

theorem run_behind4 {P : Program} {t e : TypeId} (ht : P.underlying t = some (.slice e)) (hsz : (P.info? e).map (·.size) = some 4) (p : Option Addr) (n c k : Nat) (hk : k ≤ n) (w : World) :
    (Instr.slice t (.slice p n c) (some (.int .i64 (k : Int))) none none).run P w = .ok (.slice (cutE p c k) (n - k) (c - k)) w := by
  obtain ⟨i, hi, hs⟩ := Option.map_eq_some_iff.1 hsz
  have he : P.elem t = e := by simp [Program.elem, ht]
  rw [run_slice_l w t p n c (by rw [he]; exact ht) .i64 k (by omega) (by omega), he]
  unfold cutE
  by_cases h : c = k
  · simp [Go.sizeOf, typeInfo, hi, hs, sliced, Result.andThen, h]
  · rw [if_neg h]
    simp [Go.sizeOf, typeInfo, hi, hs, sliced, Result.andThen]
    omega

theorem run_upto4 {P : Program} {t e : TypeId} (ht : P.underlying t = some (.slice e)) (hsz : (P.info? e).map (·.size) = some 4) (p : Option Addr) (n c h : Nat) (hh : h ≤ c) (w : World) :
    (Instr.slice t (.slice p n c) none (some (.int .i64 (h : Int))) none).run P w = .ok (.slice p h c) w := by
  obtain ⟨i, hi, hs⟩ := Option.map_eq_some_iff.1 hsz
  have he : P.elem t = e := by simp [Program.elem, ht]
  rw [run_slice_h w t p n c (by rw [he]; exact ht) .i64 h (by omega) (by omega), he]
  have ha : Option.map (fun x : Addr => x.add 0) p = p := by cases p <;> simp [Addr.add]
  simp [Go.sizeOf, typeInfo, hi, hs, sliced, Result.andThen, ha]

theorem s_event : (Tryd.prog.info? 53).map (·.size) = some 4 := by kernel_rfl

/-- A record's six cells from o on. -/
def KCells (w : World) (b o : Nat) (r : Rk) (t : Int) (tp : Option Addr) (tn tc : Nat) (lp : Option Addr) (lc : Nat) (kp : Option Addr) (kn kc : Nat) : Prop :=
  (w.cell? ⟨b, o, none⟩ = some (.int .i64 r.e) ∧ w.cell? ⟨b, o + 1, none⟩ = some (.int .i64 t) ∧ w.cell? ⟨b, o + 2, none⟩ = some (.slice tp tn tc) ∧ w.cell? ⟨b, o + 3, none⟩ = some (.int .i64 r.c) ∧ w.cell? ⟨b, o + 4, none⟩ = some (.slice lp r.li.length lc) ∧ w.cell? ⟨b, o + 5, none⟩ = some (.slice kp kn kc)) ∧ HB w (.slice lp r.li.length lc) r.li

theorem KCells.later {w w' : World} {b o : Nat} {r : Rk} {t : Int} {tp lp kp : Option Addr} {tn tc lc kn kc : Nat} (h : KCells w b o r t tp tn tc lp lc kp kn kc) (hb : Below w.heap.size w w') : KCells w' b o r t tp tn tc lp lc kp kn kc := by
  obtain ⟨⟨h0, h1, h2, h3, h4, h5⟩, h6⟩ := h
  exact ⟨⟨cell_later hb h0, cell_later hb h1, cell_later hb h2, cell_later hb h3, cell_later hb h4, cell_later hb h5⟩, h6.later hb⟩

/-- The value v is a slice of records. -/
def KA (w : World) (v : Value) (rs : List Rk) : Prop :=
  ∃ (p : Option Addr) (cap : Nat), v = .slice p rs.length cap ∧ rs.length ≤ cap ∧ cap ≤ maxLen ∧
    (rs ≠ [] → ∃ b o, p = some ⟨b, o, none⟩ ∧ ∀ (k : Nat) r, rs[k]? = some r → ∃ t tp tn tc lp lc kp kn kc, KCells w b (o + k * 6) r t tp tn tc lp lc kp kn kc)

theorem KA.later {w w' : World} {v : Value} {rs : List Rk} (h : KA w v rs) (hb : Below w.heap.size w w') : KA w' v rs := by
  obtain ⟨p, cap, e, h1, h2, h3⟩ := h
  refine ⟨p, cap, e, h1, h2, fun hn => ?_⟩
  obtain ⟨b, o, e1, e2⟩ := h3 hn
  refine ⟨b, o, e1, fun k x hx => ?_⟩
  obtain ⟨t, tp, tn, tc, lp, lc, kp, kn, kc, q⟩ := e2 k x hx
  exact ⟨t, tp, tn, tc, lp, lc, kp, kn, kc, q.later hb⟩

theorem KA.shape {w : World} {v : Value} {rs : List Rk} (h : KA w v rs) : ∃ p c, v = .slice p rs.length c := by
  obtain ⟨p, cap, e, _⟩ := h
  exact ⟨p, cap, e⟩

theorem KA.len {w : World} {p : Option Addr} {n c : Nat} {rs : List Rk} (h : KA w (.slice p n c) rs) : n = rs.length ∧ n ≤ c ∧ c ≤ maxLen := by
  obtain ⟨p', cap, e, h1, h2, _⟩ := h
  simp only [Value.slice.injEq] at e
  obtain ⟨rfl, rfl, rfl⟩ := e
  exact ⟨rfl, h1, h2⟩

theorem KA.addr {w : World} {p : Option Addr} {n c : Nat} {rs : List Rk} (h : KA w (.slice p n c) rs) (hn : 0 < n) : ∃ b o, p = some ⟨b, o, none⟩ := by
  obtain ⟨p', cap, e, h1, h2, h3⟩ := h
  simp only [Value.slice.injEq] at e
  obtain ⟨rfl, rfl, rfl⟩ := e
  obtain ⟨b, o, e, _⟩ := h3 (fun h => by subst h; simp at hn)
  exact ⟨b, o, e⟩

theorem KA.get {w : World} {b o n c : Nat} {rs : List Rk} (h : KA w (.slice (some ⟨b, o, none⟩) n c) rs) (i : Nat) (hi : i < n) :
    ∃ r t tp tn tc lp lc kp kn kc, Hid (rs[i]? = some r) ∧ KCells w b (o + i * 6) r t tp tn tc lp lc kp kn kc := by
  obtain ⟨p', cap, e, h1, h2, h3⟩ := h
  simp only [Value.slice.injEq] at e
  obtain ⟨rfl, rfl, rfl⟩ := e
  obtain ⟨b', o', e', hc⟩ := h3 (fun e => by subst e; simp at hi)
  simp only [Option.some.injEq, Addr.mk.injEq, and_true] at e'
  obtain ⟨rfl, rfl⟩ := e'
  obtain ⟨t, tp, tn, tc, lp, lc, kp, kn, kc, g⟩ := hc i rs[i] (List.getElem?_eq_getElem hi)
  exact ⟨rs[i], t, tp, tn, tc, lp, lc, kp, kn, kc, List.getElem?_eq_getElem hi, g⟩

/-- The digests of events. -/
def evL (size : Int) (l : List Ev) : List (List UInt8) := l.map fun x => clF size (x.id, x.key)

/-- The events are those of an epoch from fr on. -/
def Mat (re fr : Int) (l : List Ev) : Prop := ∀ (k : Nat) x, l[k]? = some x → x.e = re ∧ x.i = fr + (k : Int)

/-- What is shown of an epoch. -/
def Sh (size : Int) (r : Rk) (fr : Int) (l : List Ev) (ls : List (List UInt8)) : Prop := Mat r.e fr l ∧ (foldR size r.c fr (evL size l) ls).2 = 0 ∧ (foldR size r.c fr (evL size l) ls).1 = r.li

/-- How many changes a cut has. -/
def cutN (x : Nat × Int × Int) : Nat := (x.2.2 - x.2.1).toNat

/-- One cut of a page is shown by the events at hand. -/
def Stp (size : Int) (rs : List Rk) (lss : List (List (List UInt8))) (x : Nat × Int × Int) (l : List Ev) : Prop :=
  cutN x ≤ l.length ∧ Sh size (rs.getD x.1 ⟨0, 0, []⟩) x.2.1 (l.take (cutN x)) (lss.getD x.1 [])

/-- The cuts are shown one behind the other, and these events are left. -/
def RunP (size : Int) (rs : List Rk) (lss : List (List (List UInt8))) : List (Nat × Int × Int) → List Ev → List Ev → Prop
  | [], l, m => m = l
  | x :: xs, l, m => Stp size rs lss x l ∧ RunP size rs lss xs (l.drop (cutN x)) m

theorem RunP.app {size : Int} {rs : List Rk} {lss : List (List (List UInt8))} : ∀ (xs ys : List (Nat × Int × Int)) (l m : List Ev), RunP size rs lss (xs ++ ys) l m ↔ ∃ k, RunP size rs lss xs l k ∧ RunP size rs lss ys k m := by
  intro xs
  induction xs with
  | nil =>
    intro ys l m
    constructor
    · intro h
      exact ⟨l, rfl, h⟩
    · rintro ⟨k, hk, h⟩
      have hk' : k = l := hk
      subst hk'
      exact h
  | cons x xs ih =>
    intro ys l m
    show (Stp size rs lss x l ∧ RunP size rs lss (xs ++ ys) _ m) ↔ ∃ k, (Stp size rs lss x l ∧ RunP size rs lss xs _ k) ∧ RunP size rs lss ys k m
    rw [ih ys]
    constructor
    · rintro ⟨h, k, h1, h2⟩
      exact ⟨k, ⟨h, h1⟩, h2⟩
    · rintro ⟨k, ⟨h, h1⟩, h2⟩
      exact ⟨h, k, h1, h2⟩

theorem RunP.one {size : Int} {rs : List Rk} {lss : List (List (List UInt8))} : ∀ (xs : List (Nat × Int × Int)) (l m k : List Ev), RunP size rs lss xs l m → RunP size rs lss xs l k → m = k := by
  intro xs
  induction xs with
  | nil =>
    intro l m k h1 h2
    have e1 : m = l := h1
    have e2 : k = l := h2
    rw [e1, e2]
  | cons x xs ih => intro l m k h1 h2; exact ih _ _ _ h1.2 h2.2

theorem RunP.snoc {size : Int} {rs : List Rk} {lss : List (List (List UInt8))} {xs : List (Nat × Int × Int)} {x : Nat × Int × Int} {l m : List Ev} (h : RunP size rs lss xs l m) (hs : Stp size rs lss x m) : RunP size rs lss (xs ++ [x]) l (m.drop (cutN x)) :=
  (RunP.app xs [x] l _).2 ⟨m, h, hs, rfl⟩

theorem RunP.stop {size : Int} {rs : List Rk} {lss : List (List (List UInt8))} {xs : List (Nat × Int × Int)} {x : Nat × Int × Int} {l m : List Ev} (h : RunP size rs lss xs l m) (hs : ¬ Stp size rs lss x m) : ¬ ∃ k, RunP size rs lss (xs ++ [x]) l k := by
  rintro ⟨k, hk⟩
  obtain ⟨m', h1, h2⟩ := (RunP.app xs [x] l k).1 hk
  rw [← RunP.one xs l _ _ h h1] at h2
  exact hs h2.1

/-- The page is shown. -/
def Good (size : Int) (rs : List Rk) (lss : List (List (List UInt8))) (X : List (Nat × Int × Int)) (l : List Ev) : Prop :=
  lss.length = rs.length ∧ X.length = rs.length ∧ 0 < rs.length ∧ RunP size rs lss X l []

theorem cnt_small (n lo hi : Int) : cntF n lo hi ≤ 40 := by
  unfold cntF
  split
  · next hc => exact wo_len (by omega) (by omega) (by omega) (by omega)
  · omega

theorem fold_wide (size n lo : Int) (iv ov : Value) (ins outs : List (List UInt8)) (w : World) (hT : Tabs w) (hi : PA w iv ins) (ho : PA w ov outs) (hn0 : -9223372036854775808 ≤ n) (hn1 : n ≤ 9223372036854775807) :
    Calls Tryd.prog 41 #[.int .i64 size, .int .i64 n, .int .i64 lo, iv, ov] w fun x w' => ∃ p c, x = .returned (.tuple #[.slice p (foldR size n lo ins outs).1.length c, .int .i64 (foldR size n lo ins outs).2]) ∧ HB w' (.slice p (foldR size n lo ins outs).1.length c) (foldR size n lo ins outs).1 ∧ Below w.heap.size w w' := by
  by_cases hb : outs.length ≤ 1048576
  · exact fold_any size n lo iv ov ins outs w hT hi ho hn0 hn1 (by omega)
  · unfold foldR
    by_cases h : 0 ≤ lo ∧ lo + (ins.length : Int) ≤ n ∧ n ≤ 1048576 ∧ 1 ≤ size ∧ size ≤ 32
    · rw [if_pos h]
      obtain ⟨h1, h2, h3, h4, h5⟩ := h
      obtain ⟨N, rfl⟩ : ∃ N : Nat, n = (N : Int) := ⟨n.toNat, by omega⟩
      obtain ⟨A, rfl⟩ : ∃ A : Nat, lo = (A : Int) := ⟨lo.toNat, by omega⟩
      have eB : (A : Int) + (ins.length : Int) = ((A + ins.length : Nat) : Int) := by omega
      rw [eB]
      have hs := cnt_small (N : Int) (A : Int) ((A + ins.length : Nat) : Int)
      obtain ⟨C, hC⟩ : ∃ C, cntF (N : Int) (A : Int) ((A + ins.length : Nat) : Int) = C := ⟨_, rfl⟩
      rw [hC] at hs ⊢
      have q1 : ¬ outs.length = C := by omega
      rw [if_neg (fun h => q1 h.1)]
      exact (fold_cnt size N A (A + ins.length) C iv ov ins outs w hi ho rfl (by omega) (by omega) h4 h5 hC q1).mono fun x w' ⟨a, b⟩ => ⟨none, 0, a, HB.nil _, b⟩
    · rw [if_neg h]
      exact (fold_arg size n lo iv ov ins outs w hi ho hn0 hn1 h).mono fun x w' ⟨a, b⟩ => ⟨none, 0, a, HB.nil _, b⟩

theorem rfold_wide (size n lo : Int) (iv ov : Value) (ins outs : List (List UInt8)) (w : World) (hi : PA w iv ins) (ho : PA w ov outs) (hlb : ins.length ≤ 140737488355328) :
    Calls Tryd.prog 42 #[.int .i64 size, .int .i64 n, .int .i64 lo, iv, ov] w fun x w' => ∃ p c, x = .returned (.tuple #[.slice p (foldR size n lo ins outs).1.length c, .int .i64 (foldR size n lo ins outs).2]) ∧ HB w' (.slice p (foldR size n lo ins outs).1.length c) (foldR size n lo ins outs).1 ∧ Below w.heap.size w w' := by
  by_cases hb : outs.length ≤ 1048576
  · exact rfold_any size n lo iv ov ins outs w hi ho hlb hb
  · unfold foldR
    by_cases h : 0 ≤ lo ∧ lo + (ins.length : Int) ≤ n ∧ n ≤ 1048576 ∧ 1 ≤ size ∧ size ≤ 32
    · rw [if_pos h]
      obtain ⟨h1, h2, h3, h4, h5⟩ := h
      obtain ⟨N, rfl⟩ : ∃ N : Nat, n = (N : Int) := ⟨n.toNat, by omega⟩
      obtain ⟨A, rfl⟩ : ∃ A : Nat, lo = (A : Int) := ⟨lo.toNat, by omega⟩
      have eB : (A : Int) + (ins.length : Int) = ((A + ins.length : Nat) : Int) := by omega
      rw [eB]
      have hs := cnt_small (N : Int) (A : Int) ((A + ins.length : Nat) : Int)
      obtain ⟨C, hC⟩ : ∃ C, cntF (N : Int) (A : Int) ((A + ins.length : Nat) : Int) = C := ⟨_, rfl⟩
      rw [hC] at hs ⊢
      have q1 : ¬ outs.length = C := by omega
      rw [if_neg (fun h => q1 h.1)]
      exact (rfold_cnt size N A (A + ins.length) C iv ov ins outs w hi ho rfl (by omega) (by omega) h4 h5 hC q1).mono fun x w' ⟨a, b⟩ => ⟨none, 0, a, HB.nil _, b⟩
    · rw [if_neg h]
      exact (rfold_arg size n lo iv ov ins outs w hi ho hlb h).mono fun x w' ⟨a, b⟩ => ⟨none, 0, a, HB.nil _, b⟩

end Go.Proofs.YtggficgmjbgmpaaDoor
