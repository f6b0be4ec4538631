/- What this text proves: the walk of merkle.over over this program: the root of a part of a tree, of which a function tells what is known. What this text proves: the walk of bytes.Clone over this program: the same bytes in new memory (nil stays nil). What this text proves: the walk of bytes.Clone over this program: the same bytes in a row that the call owns (nil stays nil). What this text proves: the walk of merkle.Root over this program: the root over any digests. What this text holds: plain facts about the root over digests: by halves; how long it is (no program). What this text proves: the walk of merkle.Count over this program: how many parts lie outside a range. What this text holds: a row of rows of bytes that the call owns, each in a block of bytes (plain facts): it stays, it grows, it is read. What this text proves: a law for a walk: a call of a Go function of two arguments at a step of a region that draws, met by its contract (any program). What this text proves: the walk of merkle.Range over this program: the roots of the parts outside a range, from left to right. -/
import Derived.Test.YtggficgmjbgmpaaDoorJKp
import Derived.Test.YtggficgmjbgmpaaDoorJRs
import Derived.Test.YtggficgmjbgmpaaDoorEqual
import Derived.Test.YtggficgmjbgmpaaDoorLaws
import Derived.Deep.RegionHeld3
import Derived.Test.YtggficgmjbgmpaaDoorFacts
import Derived.Deep.RegionLaw
import Derived.Deep.AppendLies
namespace Go.Proofs.YtggficgmjbgmpaaDoor
open Go.RowKit

/-- Bytes that don't lie in block g. -/
def HBG (w : World) (g : Nat) (v : Value) (l : List UInt8) : Prop := HB w v l ∧ ∀ b o n c, l ≠ [] → v = .slice (some ⟨b, o, none⟩) n c → b ≠ g

theorem HBG.only {w w' : World} {g : Nat} {v : Value} {l : List UInt8} (h : HBG w g v l) (ho : Only g w w') : HBG w' g v l := by
  refine ⟨?_, h.2⟩
  obtain ⟨p, cap, e, h1, h2, h3, h4⟩ := h.1
  refine ⟨p, cap, e, h1, h2, h3, fun hne => ?_⟩
  obtain ⟨b, o, e1, e2⟩ := h4 hne
  refine ⟨b, o, e1, fun i x hx => ?_⟩
  have hc := e2 i x hx
  have hb : b ≠ g := h.2 b o l.length cap hne (by rw [e, e1])
  rw [World.cell?_of_block (w := w) (ho.block b hb (cell_lt hc))]
  exact hc

theorem HBG.old {w : World} {g : Nat} {v : Value} {l : List UInt8} (h : HB w v l) (hg : w.heap.size ≤ g) : HBG w g v l := by
  refine ⟨h, fun b o n c hne e => ?_⟩
  obtain ⟨p, cap, e0, h1, h2, h3, h4⟩ := h
  obtain ⟨b', o', e1, e2⟩ := h4 hne
  rw [e0, e1] at e
  simp only [Value.slice.injEq, Option.some.injEq, Addr.mk.injEq, and_true] at e
  obtain ⟨⟨rfl, rfl⟩, _, _⟩ := e
  obtain ⟨x, r, rfl⟩ := List.exists_cons_of_ne_nil hne
  have := cell_lt (e2 0 x rfl)
  omega

theorem HBG.typed {w : World} {g : Nat} {v : Value} {l : List UInt8} {cs : Array Value} {t : TypeId} {fr : Nat × Nat} (h : HB w v l) (ht : TB w v) (hg : w.heap[g]? = some (.cells cs t fr)) (hne : t ≠ 5) : HBG w g v l := by
  refine ⟨h, fun b o n c _ e hb => ?_⟩
  obtain ⟨cur, fr', hc⟩ := ht b o n c e
  subst hb
  rw [hg] at hc
  simp only [Option.some.injEq, Obj.cells.injEq] at hc
  exact hne hc.2.1

theorem PA.two (w : World) (a b : Value) (la lb : List UInt8) (ha : HB w a la) (hb : HB w b lb) : PA (w.alloc (.cells #[a, b] 39)) (.slice (some ⟨w.heap.size, 0, none⟩) 2 2) [la, lb] := by
  refine ⟨_, 2, [a, b], rfl, Nat.le_refl _, by decide, (fun h => by cases h), rfl, fun _ => ⟨_, 0, rfl, fun i x hx => ?_⟩, fun i x l hx hl => ?_⟩
  · rw [Nat.zero_add, cell_of_row _ _ i _ _ _ (heap_alloc_new w _)]
    simpa using hx
  · have hbe := (Below.refl w.heap.size w).alloc (Nat.le_refl _) (.cells #[a, b] 39)
    match i with
    | 0 => simp at hx hl; subst hx; subst hl; exact ha.later hbe
    | 1 => simp at hx hl; subst hx; subst hl; exact hb.later hbe
    | n + 2 => simp at hx

/-- The hash of two. -/
def pairF (size : Int) (a b : List UInt8) : List UInt8 := hashF size 4 [a, b]

/-- The root of a part, and the state behind: kn tells what is known. -/
def ovF (size : Int) (kn : Nat → Nat → Nat → Option (List UInt8) × Nat) : Nat → Nat → Nat → Nat → List UInt8 × Nat
  | 0, b, e, s => ((kn s b e).1.getD [], (kn s b e).2)
  | f + 1, b, e, s =>
    match (kn s b e).1 with
    | some l => (l, (kn s b e).2)
    | none => (pairF size (ovF size kn f b (b + half (e - b)) (kn s b e).2).1 (ovF size kn f (b + half (e - b)) e (ovF size kn f b (b + half (e - b)) (kn s b e).2).2).1, (ovF size kn f (b + half (e - b)) e (ovF size kn f b (b + half (e - b)) (kn s b e).2).2).2)

theorem ovF_some {size : Int} {kn : Nat → Nat → Nat → Option (List UInt8) × Nat} {f b e s : Nat} {l : List UInt8} (h : (kn s b e).1 = some l) : ovF size kn f b e s = (l, (kn s b e).2) := by
  cases f <;> simp [ovF, h]

theorem ovF_none {size : Int} {kn : Nat → Nat → Nat → Option (List UInt8) × Nat} {f b e s : Nat} (h : (kn s b e).1 = none) :
    ovF size kn (f + 1) b e s = (pairF size (ovF size kn f b (b + half (e - b)) (kn s b e).2).1 (ovF size kn f (b + half (e - b)) e (ovF size kn f b (b + half (e - b)) (kn s b e).2).2).1, (ovF size kn f (b + half (e - b)) e (ovF size kn f b (b + half (e - b)) (kn s b e).2).2).2) := by
  simp only [ovF, h]

set_option maxRecDepth 100000 in
set_option maxHeartbeats 1000000 in
theorem over_known (size : Int) (K : Nat) (caps : Array Value) (eg : ∀ args w, (callFunc K args).run Tryd.prog w = .ok (.enter K args) w) (b e : Nat) (L : List UInt8) (w : World) (R : Value → World → Prop)
    (hK : Calls Tryd.prog K (#[.int .i64 (b : Int), .int .i64 (e : Int)] ++ caps) w fun x w' => ∃ p c, x = .returned (.tuple #[.slice p L.length c, .bool true]) ∧ R (.slice p L.length c) w') :
    Calls Tryd.prog 47 #[.int .i64 size, .int .i64 (b : Int), .int .i64 (e : Int), .func (.func K) #[] caps] w fun x w' => ∃ p c, x = .returned (.slice p L.length c) ∧ R (.slice p L.length c) w' := by
  generalize L.length = n at *
  go_enter Tryd.func47, Tryd.ntmps47
  go_wp2_with fail
  refine hK.mono ?_
  rintro x w1 ⟨p, c, rfl, hR⟩
  clear hK
  go_wp2
  go_ret
  exact ⟨p, c, rfl, hR⟩

set_option maxRecDepth 100000 in
set_option maxHeartbeats 1000000 in
theorem over_fork (size : Int) (K : Nat) (caps : Array Value) (eg : ∀ args w, (callFunc K args).run Tryd.prog w = .ok (.enter K args) w) (g b e m : Nat) (LA LB LC : List UInt8) (w : World) (Q0 Q1 Q2 Q3 : World → Prop)
    (hK : Calls Tryd.prog K (#[.int .i64 (b : Int), .int .i64 (e : Int)] ++ caps) w fun x w' => x = .returned (.tuple #[.slice none 0 0, .bool false]) ∧ Q0 w')
    (hm : ∀ w, Calls Tryd.prog 46 #[.int .i64 (b : Int), .int .i64 (e : Int)] w fun x w' => x = .returned (.int .i64 (m : Int)) ∧ w' = w)
    (hl : ∀ w, Q0 w → Calls Tryd.prog 47 #[.int .i64 size, .int .i64 (b : Int), .int .i64 (m : Int), .func (.func K) #[] caps] w fun x w' => ∃ p c, x = .returned (.slice p LA.length c) ∧ HBG w' g (.slice p LA.length c) LA ∧ Q1 w')
    (hr : ∀ w, Q1 w → Calls Tryd.prog 47 #[.int .i64 size, .int .i64 (m : Int), .int .i64 (e : Int), .func (.func K) #[] caps] w fun x w' => ∃ p c, x = .returned (.slice p LB.length c) ∧ HBG w' g (.slice p LB.length c) LB ∧ Only g w w' ∧ Q2 w')
    (hh : ∀ w v, Q2 w → PA (w.alloc (.cells v 39)) (.slice (some ⟨w.heap.size, 0, none⟩) 2 2) [LA, LB] → Calls Tryd.prog 44 #[.int .i64 size, .int .i64 4, .slice (some ⟨w.heap.size, 0, none⟩) 2 2] (w.alloc (.cells v 39)) fun x w' => ∃ p c, x = .returned (.slice p LC.length c) ∧ HBG w' g (.slice p LC.length c) LC ∧ Q3 w') :
    Calls Tryd.prog 47 #[.int .i64 size, .int .i64 (b : Int), .int .i64 (e : Int), .func (.func K) #[] caps] w fun x w' => ∃ p c, x = .returned (.slice p LC.length c) ∧ HBG w' g (.slice p LC.length c) LC ∧ Q3 w' := by
  go_enter Tryd.func47, Tryd.ntmps47
  go_wp2_with fail
  refine hK.mono ?_
  rintro x w1 ⟨rfl, hQ⟩
  clear hK
  go_wp2_with fail
  refine (hm _).mono ?_
  rintro x w2 ⟨rfl, hw⟩
  subst hw
  clear hm
  go_wp2_with fail
  refine (hl _ hQ).mono ?_
  rintro x w3 ⟨p3, c3, rfl, k3, hQ1⟩
  clear hl hQ
  go_wp2_with fail
  refine (hr _ hQ1).mono ?_
  rintro x w4 ⟨p4, c4, rfl, k4, ho, hQ2⟩
  have k3' := (k3.only ho).1
  have k4' := k4.1
  clear hr hQ1 k3 k4 ho
  have hp := PA.two w4 _ _ _ _ k3' k4'
  clear k3' k4'
  have hh' := hh w4 _ hQ2 hp
  clear hh hp hQ2
  generalize LA.length = na at *
  generalize LB.length = nb at *
  go_wp2_with fail
  refine hh'.mono ?_
  rintro x w5 ⟨p5, c5, rfl, k5, hQ3⟩
  clear hh'
  go_wp2
  go_ret
  exact ⟨p5, c5, rfl, k5, hQ3⟩

theorem over_any (size : Int) (K : Nat) (caps : Array Value) (eg : ∀ args w, (callFunc K args).run Tryd.prog w = .ok (.enter K args) w) (g N : Nat) (R : Nat → World → Prop) (kn : Nat → Nat → Nat → Option (List UInt8) × Nat) (P : Nat → Nat → Nat → Nat → Prop) (hN : N ≤ 2305843009213693952)
    (hP : ∀ f b e s, P (f + 1) b e s → (kn s b e).1 = none → 2 ≤ e - b → e - b ≤ 2 ^ (f + 1) → e ≤ N → P f b (b + half (e - b)) (kn s b e).2 ∧ P f (b + half (e - b)) e (ovF size kn f b (b + half (e - b)) (kn s b e).2).2)
    (hR : ∀ s w w', R s w → Below w.heap.size w w' → R s w') (hT : ∀ s w, R s w → Tabs w) (hG : ∀ s w, R s w → ∃ cs t fr, w.heap[g]? = some (.cells cs t fr) ∧ t ≠ 5)
    (hk1 : ∀ s b e, e ≤ b + 1 → (kn s b e).1 ≠ none)
    (hK : ∀ f s b e w, P f b e s → R s w → b < e → e ≤ N → Calls Tryd.prog K (#[.int .i64 (b : Int), .int .i64 (e : Int)] ++ caps) w fun x w' => Only g w w' ∧ R (kn s b e).2 w' ∧ ((kn s b e).1 = none ∧ x = .returned (.tuple #[.slice none 0 0, .bool false]) ∨ ∃ l p c, (kn s b e).1 = some l ∧ x = .returned (.tuple #[.slice p l.length c, .bool true]) ∧ HBG w' g (.slice p l.length c) l)) :
    ∀ (f b e s : Nat) (w : World), b < e → e - b ≤ 2 ^ f → e ≤ N → P f b e s → R s w →
    Calls Tryd.prog 47 #[.int .i64 size, .int .i64 (b : Int), .int .i64 (e : Int), .func (.func K) #[] caps] w fun x w' => ∃ p c, x = .returned (.slice p (ovF size kn f b e s).1.length c) ∧ HBG w' g (.slice p (ovF size kn f b e s).1.length c) (ovF size kn f b e s).1 ∧ Only g w w' ∧ R (ovF size kn f b e s).2 w' := by
  have known : ∀ (f b e s : Nat) (w : World) (l : List UInt8), (kn s b e).1 = some l → b < e → e ≤ N → P f b e s → R s w →
    Calls Tryd.prog 47 #[.int .i64 size, .int .i64 (b : Int), .int .i64 (e : Int), .func (.func K) #[] caps] w fun x w' => ∃ p c, x = .returned (.slice p (ovF size kn f b e s).1.length c) ∧ HBG w' g (.slice p (ovF size kn f b e s).1.length c) (ovF size kn f b e s).1 ∧ Only g w w' ∧ R (ovF size kn f b e s).2 w' := by
    intro f b e s w l hl hbe he hPs hRs
    rw [ovF_some hl]
    refine over_known size K caps eg b e l w (fun v w' => HBG w' g v l ∧ Only g w w' ∧ R (kn s b e).2 w') ((hK f s b e w hPs hRs hbe he).mono ?_)
    rintro x w' ⟨ho, hR', h | ⟨l', p, c, h1, h2, h3⟩⟩
    · rw [hl] at h; cases h.1
    · rw [hl] at h1
      cases h1
      exact ⟨p, c, h2, h3, ho, hR'⟩
  intro f
  induction f with
  | zero =>
    intro b e s w hbe hf he hPs hRs
    simp at hf
    obtain ⟨l, hl⟩ := Option.ne_none_iff_exists'.1 (hk1 s b e (by omega))
    exact known 0 b e s w l hl hbe he hPs hRs
  | succ f ih =>
    intro b e s w hbe hf he hPs hRs
    cases hk : (kn s b e).1 with
    | some l => exact known (f + 1) b e s w l hk hbe he hPs hRs
    | none =>
      have hn : 2 ≤ e - b := by
        rcases Nat.lt_or_ge (e - b) 2 with h | h
        · exact absurd hk (hk1 s b e (by omega))
        · exact h
      obtain ⟨q1, q2, q3⟩ := half_bounds hn (by omega)
      obtain ⟨r1, r2⟩ := half_le hn (by omega) hf
      obtain ⟨p1, p2⟩ := hP f b e s hPs hk hn hf he
      rw [ovF_none hk]
      have i1 := fun w => ih b (b + half (e - b)) (kn s b e).2 w (by omega) (by omega) (by omega) p1
      have i2 := fun w => ih (b + half (e - b)) e (ovF size kn f b (b + half (e - b)) (kn s b e).2).2 w (by omega) (by omega) he p2
      clear p1 p2
      generalize ovF size kn f b (b + half (e - b)) (kn s b e).2 = A at *
      generalize ovF size kn f (b + half (e - b)) e A.2 = B at *
      refine over_fork size K caps eg g b e (b + half (e - b)) A.1 B.1 (pairF size A.1 B.1) w (fun w' => Only g w w' ∧ R (kn s b e).2 w') (fun w' => Only g w w' ∧ R A.2 w') (fun w' => Only g w w' ∧ R B.2 w') _ ?_ (fun w => split_any b e w hn (by omega)) ?_ ?_ ?_
      · refine (hK (f + 1) s b e w hPs hRs hbe he).mono ?_
        rintro x w' ⟨ho, hR', h | ⟨l', p, c, h1, h2, h3⟩⟩
        · exact ⟨h.2, ho, hR'⟩
        · rw [hk] at h1; cases h1
      · rintro w1 ⟨o1, R1⟩
        refine (i1 w1 R1).mono ?_
        rintro x w' ⟨p, c, h1, h2, h3, h4⟩
        exact ⟨p, c, h1, h2, o1.trans h3, h4⟩
      · rintro w1 ⟨o1, R1⟩
        refine (i2 w1 R1).mono ?_
        rintro x w' ⟨p, c, h1, h2, h3, h4⟩
        exact ⟨p, c, h1, h2, h3, o1.trans h3, h4⟩
      · rintro w1 v ⟨o1, R1⟩ hp
        have hbe1 := (Below.refl w1.heap.size w1).alloc (Nat.le_refl _) (.cells v 39)
        have R2 := hR _ _ _ R1 hbe1
        refine (hash_toT size 4 _ [A.1, B.1] _ (by simp) (by decide) hp (hT _ _ R2)).mono ?_
        rintro x w' ⟨p, c, h1, h2, h3, h4⟩
        obtain ⟨cs, t, fr, hg, hne⟩ := hG _ _ R1
        have hglt : g < w1.heap.size := (Array.getElem?_eq_some_iff.1 hg).1
        have hb2 := hbe1.trans (h3.mono hbe1.size)
        have R3 := hR _ _ _ R1 hb2
        obtain ⟨cs', t', fr', hg', hne'⟩ := hG _ _ R3
        exact ⟨p, c, h1, HBG.typed h2 h4 hg' hne', o1.trans (Only.of_below hb2 (by omega)), R3⟩

end Go.Proofs.YtggficgmjbgmpaaDoor

namespace Go.Proofs.YtggficgmjbgmpaaDoor
open Go.RowKit

set_option maxRecDepth 100000 in
set_option maxHeartbeats 1000000 in
theorem clone_any (v : Value) (l : List UInt8) (w : World) (h : HB w v l) (hbig : l.length ≤ 140737488355328) :
    Calls Tryd.prog 49 #[v] w fun e w' => ∃ p c, e = .returned (.slice p l.length c) ∧ HB w' (.slice p l.length c) l ∧ Below w.heap.size w w' := by
  have q22 : ∀ (w : World) (a : Option Addr) (n c n' c' : Nat), (binOp .eql 39 (.slice a n c) (.slice none n' c')).run Tryd.prog w = .ok (.bool a.isNone) w := fun w a n c n' c' => Lib.run_eql_slice_nil w _ _ a n c n' c' Tryd.underlying39
  obtain ⟨p, c, rfl⟩ := h.shape
  cases p with
  | none =>
    have hc := h.len.2.2.2 rfl
    have hl := h.len.2.1
    subst hc
    have e : l = [] := List.eq_nil_of_length_eq_zero (by omega)
    subst e
    clear h hl hbig
    go_enter Tryd.func49, Tryd.ntmps49
    go_wp2
    go_ret
    exact ⟨none, 0, rfl, HB.nil _, Below.refl _ _⟩
  | some a =>
    have h2 : HB (w.alloc (.cells #[] 5)) (.slice (some a) l.length c) l := h.later ((Below.refl _ w).alloc (Nat.le_refl _) _)
    clear h
    go_enter Tryd.func49, Tryd.ntmps49
    go_wp2_with (at_builtin; refine wpList_append_hb rfl (.tmp 5) (.tmp 6) 39 rfl w.heap.size 5 Tryd.underlying39 i_u8 _ 0 [] rfl (World.ownsRow_made w #[] 0 (Nat.le_refl _) (Nat.zero_le _) rfl) _ _ _ l rfl h2 ?qa ?qb ?_)
    case qa => omega
    case qb => simp
    intro v1 w1 hown1 hgrow1
    have hb1 : Below w.heap.size w w1 := ((Below.refl _ w).alloc (Nat.le_refl _) _).grown hgrow1 (by simp) (by intro k hk; cases hk; exact Nat.le_refl _)
    have hh := HB.of_owns (by simpa using hown1 : w1.ownsRow w.heap.size 5 1 v1 l.length (bcs l))
    obtain ⟨p1, c1, hv⟩ := hh.shape
    rw [hv] at hh ⊢
    clear hv hown1 hgrow1 h2
    go_wp2
    go_ret
    exact ⟨_, _, rfl, hh, hb1⟩

end Go.Proofs.YtggficgmjbgmpaaDoor

namespace Go.Proofs.YtggficgmjbgmpaaDoor
open Go.RowKit

/-- bytes.Clone: a row that the call owns. -/
theorem clone_own (v : Value) (l : List UInt8) (w : World) (h : HB w v l) (hbig : l.length ≤ 140737488355328) :
    Calls Tryd.prog 49 #[v] w fun e w' => ∃ p c, e = .returned (.slice p l.length c) ∧ w'.ownsRow w.heap.size 5 1 (.slice p l.length c) l.length (bcs l) ∧ Below w.heap.size w w' := by
  have q22 : ∀ (w : World) (a : Option Addr) (n c n' c' : Nat), (binOp .eql 39 (.slice a n c) (.slice none n' c')).run Tryd.prog w = .ok (.bool a.isNone) w := fun w a n c n' c' => Lib.run_eql_slice_nil w _ _ a n c n' c' Tryd.underlying39
  obtain ⟨p, c, rfl⟩ := h.shape
  cases p with
  | none =>
    have hc := h.len.2.2.2 rfl
    have hl := h.len.2.1
    subst hc
    have e : l = [] := List.eq_nil_of_length_eq_zero (by omega)
    subst e
    clear h hl hbig
    go_enter Tryd.func49, Tryd.ntmps49
    go_wp2
    go_ret
    exact ⟨none, 0, rfl, World.ownsRow_nil _ _ _ _, Below.refl _ _⟩
  | some a =>
    have h2 : HB (w.alloc (.cells #[] 5)) (.slice (some a) l.length c) l := h.later ((Below.refl _ w).alloc (Nat.le_refl _) _)
    clear h
    go_enter Tryd.func49, Tryd.ntmps49
    go_wp2_with (at_builtin; refine wpList_append_hb rfl (.tmp 5) (.tmp 6) 39 rfl w.heap.size 5 Tryd.underlying39 i_u8 _ 0 [] rfl (World.ownsRow_made w #[] 0 (Nat.le_refl _) (Nat.zero_le _) rfl) _ _ _ l rfl h2 ?qa ?qb ?_)
    case qa => omega
    case qb => simp
    intro v1 w1 hown1 hgrow1
    have hb1 : Below w.heap.size w w1 := ((Below.refl _ w).alloc (Nat.le_refl _) _).grown hgrow1 (by simp) (by intro k hk; cases hk; exact Nat.le_refl _)
    have hown2 : w1.ownsRow w.heap.size 5 1 v1 l.length (bcs l) := by simpa using hown1
    obtain ⟨p1, c1, rfl⟩ := owns_shape hown2
    clear hown1 hgrow1 h2
    go_wp2
    go_ret
    exact ⟨_, _, rfl, hown2, hb1⟩

end Go.Proofs.YtggficgmjbgmpaaDoor

namespace Go.Proofs.YtggficgmjbgmpaaDoor
open Go.RowKit

/-- What is known of digests: each one. -/
def knR (ls : List (List UInt8)) (s b e : Nat) : Option (List UInt8) × Nat := (if b + 1 < e then none else some (ls.getD b []), s)

/-- The root over digests. -/
def rootF (size : Int) (ls : List (List UInt8)) : List UInt8 := if ls = [] then hashF size 0 [] else (ovF size (knR ls) 47 0 ls.length 0).1

/-- The box of the digests. -/
def RB (w0 : World) (lv : Value) (_ : Nat) (w : World) : Prop := Tabs w ∧ w.heap[w0.heap.size]? = some (.cells #[lv] 33 (0, 0)) ∧ Below w0.heap.size w0 w

theorem RB.later {w0 : World} {lv : Value} {s : Nat} {w w' : World} (h : RB w0 lv s w) (hb : Below w.heap.size w w') : RB w0 lv s w' := by
  have hlt : w0.heap.size < w.heap.size := (Array.getElem?_eq_some_iff.1 h.2.1).1
  refine ⟨h.1.later hb, ?_, h.2.2.trans (hb.mono (by omega))⟩
  rw [hb.block _ hlt]
  exact h.2.1

theorem eg_rootF : ∀ args w, (callFunc 48 args).run Tryd.prog w = .ok (.enter 48 args) w := by intro args w; go_simp

theorem getD_of {ls : List (List UInt8)} {i : Nat} {l : List UInt8} (h : Hid (ls[i]? = some l)) : ls.getD i [] = l := by
  have h' := h.out
  rw [List.getD_eq_getElem?_getD, h', Option.getD_some]

theorem PA.le {w : World} {v : Value} {ls : List (List UInt8)} (h : PA w v ls) : ls.length ≤ maxLen := by
  obtain ⟨p, c, rfl⟩ := h.shape
  have := h.len
  omega

set_option maxRecDepth 100000 in
set_option maxHeartbeats 1000000 in
theorem rootF_walk (w0 : World) (lv : Value) (ls : List (List UInt8)) (s b e : Nat) (w : World) (hp : PA w0 lv ls) (h : RB w0 lv s w) (hbe : b < e) (he : e ≤ ls.length) :
    Calls Tryd.prog 48 (#[.int .i64 (b : Int), .int .i64 (e : Int)] ++ #[.pointer (some ⟨w0.heap.size, 0, none⟩)]) w fun x w' => Only w0.heap.size w w' ∧ RB w0 lv (knR ls s b e).2 w' ∧ ((knR ls s b e).1 = none ∧ x = .returned (.tuple #[.slice none 0 0, .bool false]) ∨ ∃ l p c, (knR ls s b e).1 = some l ∧ x = .returned (.tuple #[.slice p l.length c, .bool true]) ∧ HBG w' w0.heap.size (.slice p l.length c) l) := by
  show Calls Tryd.prog 48 #[.int .i64 (b : Int), .int .i64 (e : Int), .pointer (some ⟨w0.heap.size, 0, none⟩)] w _
  have hmx := hp.le
  unfold maxLen at hmx
  by_cases hc : b + 1 < e
  · have h1 : knR ls s b e = (none, s) := by simp [knR, hc]
    rw [h1]
    have d1 : (1 : Int) < (e : Int) - (b : Int) := by omega
    have H : Hid (RB w0 lv s w) := h
    clear h hp h1
    go_enter Tryd.func48, Tryd.ntmps48
    go_wp2
    go_ret2
    exact ⟨Only.refl _ _, H.out, .inl ⟨by first | trivial | rfl, rfl⟩⟩
  · have h1 : knR ls s b e = (some (ls.getD b []), s) := by simp [knR, hc]
    rw [h1]
    obtain rfl : e = b + 1 := by omega
    have c0 : w.cell? ⟨w0.heap.size, 0, none⟩ = some lv := by rw [cell_of_row w _ _ _ _ _ h.2.1]; rfl
    obtain ⟨p, c, hv⟩ := hp.shape
    subst hv
    obtain ⟨bl, o, rfl⟩ := hp.addr (by omega)
    obtain ⟨q, k, l, hl, hc1, hh⟩ := hp.get b (by omega)
    have hG : HBG w w0.heap.size (.slice q l.length k) l := by
      have := HBG.old hh (Nat.le_refl _)
      exact ⟨hh.later h.2.2, this.2⟩
    have c1 := cell_later h.2.2 hc1
    rw [getD_of hl]
    have H : Hid (RB w0 (.slice (some ⟨bl, o, none⟩) ls.length c) s w) := h
    have HG : Hid (HBG w w0.heap.size (.slice q l.length k) l) := hG
    have d1 : (((b + 1 : Nat) : Int) - (b : Int)) = 1 := by omega
    have hlt : (b : Int) < (ls.length : Int) := by omega
    clear h hp h1 hc hG hh hl hc1 hbe
    go_enter Tryd.func48, Tryd.ntmps48
    go_wp2
    go_ret2
    exact ⟨Only.refl _ _, H.out, .inr ⟨l, q, k, rfl, rfl, HG.out⟩⟩

set_option maxRecDepth 100000 in
set_option maxHeartbeats 1000000 in
theorem root_none (size : Int) (v : Value) (w : World) (hp : PA w v []) (hT : Tabs w) :
    Calls Tryd.prog 37 #[.int .i64 size, v] w fun x w' => ∃ p c, x = .returned (.slice p (rootF size []).length c) ∧ HB w' (.slice p (rootF size []).length c) (rootF size []) ∧ Below w.heap.size w w' ∧ TB w' (.slice p (rootF size []).length c) := by
  obtain ⟨p, c, rfl⟩ := hp.shape
  have hb0 := (Below.refl w.heap.size w).alloc (Nat.le_refl _) (.cells #[.slice p 0 c] 33)
  have hH := hash_toT size 0 (.slice none 0 0) [] (w.alloc (.cells #[.slice p 0 c] 33)) (by simp) (by decide) (PA.nil _) (hT.later hb0)
  have hR : rootF size [] = hashF size 0 [] := by simp [rootF]
  rw [hR]
  generalize hashF size 0 [] = F at *
  have HB0 : Hid (Below w.heap.size w (w.alloc (.cells #[.slice p 0 c] 33))) := hb0
  clear hp hT hR hb0
  simp only [List.length_nil, Int.natCast_zero] at *
  go_enter Tryd.func37, Tryd.ntmps37
  go_wp2_with fail
  refine hH.mono ?_
  rintro x w1 ⟨p1, c1, rfl, k1, hb1, t1⟩
  clear hH
  have hb : Below w.heap.size w w1 := HB0.out.trans (hb1.mono HB0.out.size)
  clear HB0 hb1
  go_wp2
  go_ret
  exact ⟨p1, c1, rfl, k1, hb, t1⟩

theorem knR_one (ls : List (List UInt8)) (s b e : Nat) (h : e ≤ b + 1) : (knR ls s b e).1 ≠ none := by
  unfold knR
  rw [if_neg (by omega)]
  simp

theorem root_over (size : Int) (lv : Value) (ls : List (List UInt8)) (w0 w : World) (hp : PA w0 lv ls) (hn : ls ≠ []) (hbig : ls.length ≤ 140737488355328) (h : RB w0 lv 0 w) :
    Calls Tryd.prog 47 #[.int .i64 size, .int .i64 0, .int .i64 (ls.length : Int), .func (.func 48) #[] #[.pointer (some ⟨w0.heap.size, 0, none⟩)]] w fun x w' => ∃ p c, x = .returned (.slice p (rootF size ls).length c) ∧ HB w' (.slice p (rootF size ls).length c) (rootF size ls) ∧ Below w0.heap.size w0 w' := by
  have h0 : 0 < ls.length := List.length_pos_iff.2 hn
  have := over_any size 48 #[.pointer (some ⟨w0.heap.size, 0, none⟩)] eg_rootF w0.heap.size ls.length (RB w0 lv) (knR ls) (fun _ _ _ _ => True) (by omega) (fun _ _ _ _ _ _ _ _ _ => ⟨trivial, trivial⟩) (fun s w w' hr hb => hr.later hb) (fun s w hr => hr.1) (fun s w hr => ⟨_, _, _, hr.2.1, by decide⟩) (knR_one ls)
    (fun _ s b e w _ hr hbe he => rootF_walk w0 lv ls s b e w hp hr hbe he) 47 0 ls.length 0 w h0 (by omega) (Nat.le_refl _) trivial h
  have e : rootF size ls = (ovF size (knR ls) 47 0 ls.length 0).1 := by simp [rootF, hn]
  rw [e]
  refine this.mono ?_
  rintro x w' ⟨p, c, h1, h2, h3, h4⟩
  exact ⟨p, c, h1, h2.1, h4.2.2⟩

set_option maxRecDepth 100000 in
set_option maxHeartbeats 1000000 in
theorem root_some (size : Int) (v : Value) (ls : List (List UInt8)) (w : World) (hp : PA w v ls) (hT : Tabs w) (hn : ls ≠ []) (hbig : ls.length ≤ 140737488355328) (hlen : (rootF size ls).length ≤ 140737488355328) :
    Calls Tryd.prog 37 #[.int .i64 size, v] w fun x w' => ∃ p c, x = .returned (.slice p (rootF size ls).length c) ∧ HB w' (.slice p (rootF size ls).length c) (rootF size ls) ∧ Below w.heap.size w w' ∧ TB w' (.slice p (rootF size ls).length c) := by
  obtain ⟨p, c, rfl⟩ := hp.shape
  have hb0 := (Below.refl w.heap.size w).alloc (Nat.le_refl _) (.cells #[.slice p ls.length c] 33)
  have HR : Hid (RB w (.slice p ls.length c) 0 (w.alloc (.cells #[.slice p ls.length c] 33))) := ⟨hT.later hb0, heap_alloc_new w _, hb0⟩
  have hO := root_over size (.slice p ls.length c) ls w _ hp hn hbig HR.out
  have h0 : 0 < ls.length := List.length_pos_iff.2 hn
  have d0 : ((ls.length : Int) == 0) = false := by simp; omega
  clear hp hT hb0 HR hn
  generalize rootF size ls = F at *
  go_enter Tryd.func37, Tryd.ntmps37
  go_wp2_with fail
  refine hO.mono ?_
  rintro x w1 ⟨p1, c1, rfl, k1, hb1⟩
  clear hO
  have hC := clone_own (.slice p1 F.length c1) F w1 k1 hlen
  clear k1
  go_wp2_with fail
  refine hC.mono ?_
  rintro x w2 ⟨p2, c2, rfl, o2, hb2⟩
  have k2 := HB.of_owns o2
  have t2 := TB.of_owns o2
  clear o2
  have hb : Below w.heap.size w w2 := hb1.trans (hb2.mono hb1.size)
  clear hb1 hb2 hC
  go_wp2
  go_ret
  exact ⟨p2, c2, rfl, k2, hb, t2⟩

theorem root_any (size : Int) (v : Value) (ls : List (List UInt8)) (w : World) (hp : PA w v ls) (hT : Tabs w) (hbig : ls.length ≤ 140737488355328) (hlen : (rootF size ls).length ≤ 140737488355328) :
    Calls Tryd.prog 37 #[.int .i64 size, v] w fun x w' => ∃ p c, x = .returned (.slice p (rootF size ls).length c) ∧ HB w' (.slice p (rootF size ls).length c) (rootF size ls) ∧ Below w.heap.size w w' ∧ TB w' (.slice p (rootF size ls).length c) := by
  by_cases h : ls = []
  · subst h
    exact root_none size v w hp hT
  · exact root_some size v ls w hp hT h hbig hlen

end Go.Proofs.YtggficgmjbgmpaaDoor

namespace Go.Proofs.YtggficgmjbgmpaaDoor
open Go.RowKit

/-- The root over one digest or more, by halves. -/
def rtF (size : Int) : Nat → List (List UInt8) → List UInt8
  | 0, ls => ls.headD []
  | f + 1, ls => if ls.length ≤ 1 then ls.headD [] else pairF size (rtF size f (ls.take (half ls.length))) (rtF size f (ls.drop (half ls.length)))

theorem rtF_one (size : Int) (f : Nat) {ls : List (List UInt8)} (h : ls.length ≤ 1) : rtF size f ls = ls.headD [] := by cases f <;> simp [rtF, h]
theorem rtF_more (size : Int) (f : Nat) {ls : List (List UInt8)} (h : 2 ≤ ls.length) : rtF size (f + 1) ls = pairF size (rtF size f (ls.take (half ls.length))) (rtF size f (ls.drop (half ls.length))) := by
  simp only [rtF]
  rw [if_neg (by omega)]

/-- The digests from b on up to e. -/
def seg (ls : List (List UInt8)) (b e : Nat) : List (List UInt8) := (ls.drop b).take (e - b)
theorem seg_length {ls : List (List UInt8)} {b e : Nat} (he : e ≤ ls.length) : (seg ls b e).length = e - b := by simp [seg]; omega
theorem seg_take {ls : List (List UInt8)} {b e k : Nat} (hk : k ≤ e - b) : (seg ls b e).take k = seg ls b (b + k) := by
  unfold seg
  rw [List.take_take, show min k (e - b) = b + k - b by omega]
theorem seg_drop {ls : List (List UInt8)} {b e k : Nat} : (seg ls b e).drop k = seg ls (b + k) e := by
  unfold seg
  rw [List.drop_take, List.drop_drop, show e - (b + k) = e - b - k by omega]
theorem seg_head {ls : List (List UInt8)} {b e : Nat} (h : b < e) : (seg ls b e).headD [] = ls.getD b [] := by
  unfold seg
  rw [List.headD_eq_head?_getD, List.head?_take, if_neg (by omega), List.head?_drop, List.getD_eq_getElem?_getD]
theorem seg_all {ls : List (List UInt8)} : seg ls 0 ls.length = ls := by simp [seg]

theorem rtF_fuel (size : Int) : ∀ (f g : Nat) (ls : List (List UInt8)), ls.length ≤ 2 ^ f → ls.length ≤ 2 ^ g → ls.length ≤ 4611686018427387904 → rtF size f ls = rtF size g ls := by
  intro f
  induction f with
  | zero => intro g ls h1 h2 _; simp at h1; rw [rtF_one size 0 h1, rtF_one size g h1]
  | succ f ih =>
    intro g ls h1 h2 h3
    by_cases hc : ls.length ≤ 1
    · rw [rtF_one size _ hc, rtF_one size g hc]
    · cases g with
      | zero => simp at h2; omega
      | succ g =>
        have hn : 2 ≤ ls.length := by omega
        obtain ⟨q1, q2, q3⟩ := half_bounds hn h3
        obtain ⟨r1, r2⟩ := half_le hn h3 h1
        obtain ⟨t1, t2⟩ := half_le hn h3 h2
        rw [rtF_more size f hn, rtF_more size g hn, ih g _ (by simp; omega) (by simp; omega) (by simp; omega), ih g (ls.drop _) (by simp; omega) (by simp; omega) (by simp; omega)]

theorem ovF_root (size : Int) (ls : List (List UInt8)) (hb : ls.length ≤ 4611686018427387904) : ∀ (f b e s : Nat), b < e → e ≤ ls.length → e - b ≤ 2 ^ f → ovF size (knR ls) f b e s = (rtF size f (seg ls b e), s) := by
  intro f
  induction f with
  | zero =>
    intro b e s h1 h2 h3
    simp at h3
    rw [ovF_some (l := ls.getD b []) (by simp [knR]; omega), rtF_one size 0 (by rw [seg_length h2]; omega), seg_head h1]
    simp [knR]
  | succ f ih =>
    intro b e s h1 h2 h3
    by_cases hc : b + 1 < e
    · have hn : 2 ≤ e - b := by omega
      obtain ⟨q1, q2, q3⟩ := half_bounds hn (by omega)
      obtain ⟨r1, r2⟩ := half_le hn (by omega) h3
      have hs : (knR ls s b e).2 = s := rfl
      rw [ovF_none (by simp [knR, hc]), hs, ih b _ s (by omega) (by omega) (by omega), ih _ e s (by omega) h2 (by omega)]
      rw [rtF_more size f (by rw [seg_length h2]; exact hn), seg_length h2, seg_take (by omega), seg_drop]
    · rw [ovF_some (l := ls.getD b []) (by simp [knR]; omega), rtF_one size _ (by rw [seg_length h2]; omega), seg_head h1]
      simp [knR]

theorem rootF_rt (size : Int) (f : Nat) (ls : List (List UInt8)) (hn : ls ≠ []) (hb : ls.length ≤ 140737488355328) (hf : ls.length ≤ 2 ^ f) : rootF size ls = rtF size f ls := by
  have h0 : 0 < ls.length := List.length_pos_iff.2 hn
  unfold rootF
  rw [if_neg hn, ovF_root size ls (by omega) 47 0 ls.length 0 h0 (Nat.le_refl _) (by omega), seg_all]
  exact rtF_fuel size 47 f ls (by omega) hf (by omega)

theorem hashF_le32 (size : Int) (tag : Nat) (ls : List (List UInt8)) : (hashF size tag ls).length ≤ 32 := by
  unfold hashF
  have := cutLen_le size
  split
  · rw [List.length_take]; omega
  · simp

theorem rtF_len (size : Int) (M : Nat) (hM : 32 ≤ M) : ∀ (f : Nat) (ls : List (List UInt8)), (∀ l ∈ ls, l.length ≤ M) → (rtF size f ls).length ≤ M := by
  have one : ∀ ls : List (List UInt8), (∀ l ∈ ls, l.length ≤ M) → (ls.headD []).length ≤ M := by
    intro ls h
    cases ls with
    | nil => simp
    | cons x r => exact h x (by simp)
  intro f
  induction f with
  | zero => intro ls h; exact one ls h
  | succ f ih =>
    intro ls h
    by_cases hc : ls.length ≤ 1
    · rw [rtF_one size _ hc]; exact one ls h
    · rw [rtF_more size f (by omega)]
      exact Nat.le_trans (hashF_le32 _ _ _) hM

theorem rootF_len (size : Int) (M : Nat) (hM : 32 ≤ M) (ls : List (List UInt8)) (hb : ls.length ≤ 140737488355328) (h : ∀ l ∈ ls, l.length ≤ M) : (rootF size ls).length ≤ M := by
  by_cases hn : ls = []
  · subst hn
    unfold rootF
    rw [if_pos rfl]
    exact Nat.le_trans (hashF_le32 _ _ _) hM
  · rw [rootF_rt size 47 ls hn hb (by omega)]
    exact rtF_len size M hM 47 ls h

theorem seg_mem {ls : List (List UInt8)} {b e : Nat} {l : List UInt8} (h : l ∈ seg ls b e) : l ∈ ls := List.mem_of_mem_drop (List.mem_of_mem_take h)

end Go.Proofs.YtggficgmjbgmpaaDoor

namespace Go.Proofs.YtggficgmjbgmpaaDoor
open Go.RowKit

/-- The counter in its cell. -/
def CC (w0 : World) (g : Nat) (acc : List (Nat × Nat)) (w : World) : Prop := w.heap[g]? = some (.cells #[.int .i64 (wrap64 (acc.length : Int))] 3 (0, 0)) ∧ Below g w0 w

theorem wrap_succ (n : Nat) : wrap64 (wrap64 (n : Int) + 1) = wrap64 ((n + 1 : Nat) : Int) := by unfold wrap64; omega
theorem wrap_small (n : Nat) (h : n ≤ 4611686018427387904) : wrap64 (n : Int) = (n : Int) := by unfold wrap64; omega

theorem eg_countF : ∀ args w, (callFunc 60 args).run Tryd.prog w = .ok (.enter 60 args) w := by intro args w; go_simp

set_option maxRecDepth 100000 in
set_option maxHeartbeats 1000000 in
theorem countF_any (w0 : World) (g b e : Nat) (acc : List (Nat × Nat)) (w : World) (h : CC w0 g acc w) :
    Calls Tryd.prog 60 (#[.int .i64 (b : Int), .int .i64 (e : Int)] ++ #[.pointer (some ⟨g, 0, none⟩)]) w fun x w' => x = .returned (.tuple #[]) ∧ CC w0 g (acc ++ [(b, e)]) w' := by
  obtain ⟨h1, h2⟩ := h
  have HB : Hid (Below g w0 w) := h2
  have H1 : Hid (w.heap[g]? = some (.cells #[.int .i64 (wrap64 (acc.length : Int))] 3 (0, 0))) := h1
  have c0 : w.cell? ⟨g, 0, none⟩ = some (.int .i64 (wrap64 (acc.length : Int))) := by rw [cell_of_row w g _ _ _ _ h1]; rfl
  have f0 : w.frozen? ⟨g, 0, none⟩ = false := by simp [World.frozen?, h1]
  have HW : Hid (wrap64 (wrap64 (acc.length : Int) + 1) = wrap64 (((acc ++ [(b, e)]).length : Nat) : Int)) := by show _ = _; rw [wrap_succ]; simp
  clear h1 h2
  generalize wrap64 (acc.length : Int) = z at *
  show Calls Tryd.prog 60 #[.int .i64 (b : Int), .int .i64 (e : Int), .pointer (some ⟨g, 0, none⟩)] w _
  go_enter Tryd.func60, Tryd.ntmps60
  go_wp2
  go_end0
  refine ⟨rfl, ?_, HB.out.setCell (Nat.le_refl _) _⟩
  rw [heap_setCell_same w g 0 _ _ _ H1.out, HW.out]
  rfl

/-- How many parts of n lie outside. -/
def cntF (n lo hi : Int) : Nat := if n ≤ 1048576 ∧ 0 ≤ lo ∧ lo ≤ hi ∧ hi ≤ n ∧ 0 < n then (wo lo.toNat hi.toNat 20 0 n.toNat).length else 0

theorem wo_len {lo hi n : Nat} (h1 : lo ≤ hi) (h2 : hi ≤ n) (h3 : n ≤ 1048576) (h0 : 0 < n) : (wo lo hi 20 0 n).length ≤ 40 := by
  by_cases h : lo = hi
  · by_cases hc : lo ≤ 0 ∧ n ≤ hi
    · rw [wo_in hc]; simp
    · rw [wo_out hc (.inl h)]; simp
  · exact wo_few 20 0 n h0 (by omega) (by omega) (by omega) (by omega) (by omega)

set_option maxRecDepth 100000 in
set_option maxHeartbeats 1000000 in
theorem count_ok (n lo hi : Nat) (w : World) (h1 : lo ≤ hi) (h2 : hi ≤ n) (h3 : n ≤ 1048576) (h0 : 0 < n) :
    Calls Tryd.prog 50 #[.int .i64 (n : Int), .int .i64 (lo : Int), .int .i64 (hi : Int)] w fun x w' => x = .returned (.int .i64 ((wo lo hi 20 0 n).length : Int)) ∧ Below w.heap.size w w' := by
  have hL := fun w => lies_any (n : Int) (lo : Int) (hi : Int) w
  rw [show decide (0 ≤ (lo : Int) ∧ (lo : Int) ≤ (hi : Int) ∧ (hi : Int) ≤ (n : Int)) = true by simp; omega] at hL
  have hlen := wo_len h1 h2 h3 h0
  have HC : Hid (CC w w.heap.size [] (w.alloc (.cells #[.int .i64 0] 3))) := ⟨by rw [heap_alloc_new w _, show wrap64 ((([] : List (Nat × Nat)).length : Nat) : Int) = 0 from wrap_small 0 (by omega)], (Below.refl _ _).alloc (Nat.le_refl _) _⟩
  have hW : ∀ w1, CC w w.heap.size [] w1 → Calls Tryd.prog 35 #[.int .i64 0, .int .i64 (n : Int), .int .i64 (lo : Int), .int .i64 (hi : Int), .func (.func 60) #[] #[.pointer (some ⟨w.heap.size, 0, none⟩)]] w1 fun x w' => x = .returned (.tuple #[]) ∧ CC w w.heap.size (wo lo hi 20 0 n) w' :=
    fun w1 hc => without_any 60 #[.pointer (some ⟨w.heap.size, 0, none⟩)] eg_countF lo hi 1048576 (CC w w.heap.size) (by omega) (fun acc b e w' hc _ _ _ => countF_any w _ b e acc w' hc) 20 0 n [] w1 h0 (by omega) h3 (by simp) hc
  generalize wo lo hi 20 0 n = P at *
  go_enter Tryd.func50, Tryd.ntmps50
  go_wp2_with fail
  refine (hL _).mono ?_
  rintro x w1 ⟨rfl, hw⟩
  subst hw
  clear hL
  go_wp2_with fail
  refine (hW _ ?_).mono ?_
  · exact HC.out
  rintro x w2 ⟨rfl, hc, hb⟩
  rw [wrap_small _ (by omega)] at hc
  have c0 : w2.cell? ⟨w1.heap.size, 0, none⟩ = some (.int .i64 (P.length : Int)) := by rw [cell_of_row w2 _ _ _ _ _ hc]; rfl
  clear hW hc
  go_wp2
  go_ret
  exact ⟨rfl, hb⟩

set_option maxRecDepth 100000 in
set_option maxHeartbeats 1000000 in
theorem count_none (w : World) :
    Calls Tryd.prog 50 #[.int .i64 0, .int .i64 0, .int .i64 0] w fun x w' => x = .returned (.int .i64 0) ∧ Below w.heap.size w w' := by
  have hL := fun w => lies_any 0 0 0 w
  rw [show decide (0 ≤ (0 : Int) ∧ (0 : Int) ≤ 0 ∧ (0 : Int) ≤ 0) = true by decide] at hL
  have hW := fun fv w => without_in fv 0 0 0 0 w (Nat.le_refl _) (Nat.le_refl _)
  simp only [Int.natCast_zero] at hW
  go_enter Tryd.func50, Tryd.ntmps50
  go_wp2_with fail
  refine (hL _).mono ?_
  rintro x w1 ⟨rfl, hw⟩
  subst hw
  clear hL
  go_wp2_with fail
  refine (hW _ _).mono ?_
  rintro x w2 ⟨rfl, hw⟩
  subst hw
  clear hW
  go_wp2
  go_ret
  exact ⟨rfl, (Below.refl _ _).alloc (Nat.le_refl _) _⟩

set_option maxRecDepth 100000 in
set_option maxHeartbeats 1000000 in
theorem count_no (n lo hi : Int) (w : World) (h : ¬ (n ≤ 1048576 ∧ 0 ≤ lo ∧ lo ≤ hi ∧ hi ≤ n)) :
    Calls Tryd.prog 50 #[.int .i64 n, .int .i64 lo, .int .i64 hi] w fun x w' => x = .returned (.int .i64 0) ∧ w' = w := by
  have hL := fun w => lies_any n lo hi w
  by_cases h1 : 1048576 < n
  · clear hL h
    go_enter Tryd.func50, Tryd.ntmps50
    go_wp2
    go_ret
    exact ⟨rfl, rfl⟩
  · rw [show decide (0 ≤ lo ∧ lo ≤ hi ∧ hi ≤ n) = false by simp; omega] at hL
    have d1 : decide (1048576 < n) = false := by simpa using h1
    clear h
    go_enter Tryd.func50, Tryd.ntmps50
    go_wp2_with fail
    refine (hL _).mono ?_
    rintro x w1 ⟨rfl, hw⟩
    subst hw
    clear hL
    go_wp2
    go_ret
    exact ⟨rfl, rfl⟩

theorem count_any (n lo hi : Int) (w : World) :
    Calls Tryd.prog 50 #[.int .i64 n, .int .i64 lo, .int .i64 hi] w fun x w' => x = .returned (.int .i64 (cntF n lo hi : Int)) ∧ Below w.heap.size w w' := by
  by_cases h : n ≤ 1048576 ∧ 0 ≤ lo ∧ lo ≤ hi ∧ hi ≤ n
  · obtain ⟨N, rfl⟩ : ∃ N : Nat, n = (N : Int) := ⟨n.toNat, by omega⟩
    obtain ⟨A, rfl⟩ : ∃ A : Nat, lo = (A : Int) := ⟨lo.toNat, by omega⟩
    obtain ⟨B, rfl⟩ : ∃ B : Nat, hi = (B : Int) := ⟨hi.toNat, by omega⟩
    rcases Nat.eq_zero_or_pos N with h0 | h0
    · obtain rfl : A = 0 := by omega
      obtain rfl : B = 0 := by omega
      subst h0
      have e : cntF ((0 : Nat) : Int) ((0 : Nat) : Int) ((0 : Nat) : Int) = 0 := by decide
      rw [e]
      exact count_none w
    · have e : cntF (N : Int) (A : Int) (B : Int) = (wo A B 20 0 N).length := by unfold cntF; rw [if_pos (by omega)]; simp
      rw [e]
      exact count_ok N A B w (by omega) (by omega) (by omega) h0
  · have e : cntF n lo hi = 0 := by unfold cntF; rw [if_neg (by omega)]
    rw [e]
    exact (count_no n lo hi w h).mono fun x w' ⟨h1, h2⟩ => ⟨h1, by subst h2; exact Below.refl _ _⟩

end Go.Proofs.YtggficgmjbgmpaaDoor

namespace Go.Proofs.YtggficgmjbgmpaaDoor
open Go.RowKit

/-- A row of k rows of bytes that the call owns, made by appends. -/
def RS (w : World) (base : Nat) (v : Value) (k : Nat) (sig : Nat → List UInt8) : Prop :=
  ∃ vs : List Value, w.ownsRow base 39 1 v k vs ∧ ∀ (j : Nat) u, vs[j]? = some u → HB w u (sig j) ∧ TB w u

theorem RS.later {w w' : World} {base k : Nat} {v : Value} {sig : Nat → List UInt8} (h : RS w base v k sig) (hb : Below w.heap.size w w') : RS w' base v k sig := by
  obtain ⟨vs, h1, h2⟩ := h
  exact ⟨vs, owns_later h1 hb, fun j u hu => ⟨(h2 j u hu).1.later hb, (h2 j u hu).2.later hb⟩⟩

/-- Bytes in a block of bytes stay where a row of rows grew. -/
theorem hb_grown {w w' : World} {base n : Nat} {v u : Value} {vs : List Value} {l : List UInt8} (ho : w.ownsRow base 39 1 v n vs) (hg : w.grownBy w' v.ownBlock) (h : HB w u l) (t : TB w u) : HB w' u l ∧ TB w' u := by
  have hne : ∀ b o n c, u = .slice (some ⟨b, o, none⟩) n c → some b ≠ v.ownBlock := by
    intro b o n' c e he
    obtain ⟨cur, fr, hb⟩ := t b o n' c e
    rcases ho.2 with ⟨rfl, _⟩ | ⟨g, cap, cur', rfl, _, hg', _⟩
    · simp [Value.ownBlock] at he
    · simp only [Value.ownBlock, Option.some.injEq] at he
      subst he
      rw [hb] at hg'
      simp only [Option.some.injEq, Obj.cells.injEq] at hg'
      exact absurd hg'.2.1 (by decide)
  constructor
  · obtain ⟨p, c, rfl⟩ := h.shape
    by_cases hn : l = []
    · subst hn
      have := h.len
      exact HB.empty _ p c this.2.2.1 this.2.2.2
    · obtain ⟨b, o, rfl, hc⟩ := h.addr (List.length_pos_iff.2 hn)
      have hl := h.len
      refine ⟨_, c, rfl, hl.2.1, hl.2.2.1, hl.2.2.2, fun _ => ⟨b, o, rfl, fun i x hx => hg.cell (hc i x hx) (hne b o _ _ rfl)⟩⟩
  · intro b o n' c e
    obtain ⟨cur, fr, hb⟩ := t b o n' c e
    exact ⟨cur, fr, by rw [hg.block b (Array.getElem?_eq_some_iff.1 hb).1 (hne b o n' c e)]; exact hb⟩

theorem RS.snoc {w w' : World} {base k : Nat} {v v' x : Value} {vs : List Value} {sig : Nat → List UInt8} (h1 : w.ownsRow base 39 1 v k vs) (h2 : ∀ (j : Nat) u, vs[j]? = some u → HB w u (sig j) ∧ TB w u) (hx : HB w x (sig k)) (tx : TB w x)
    (hg : w.grownBy w' v.ownBlock) (ho : w'.ownsRow base 39 1 v' (k + 1) (vs ++ [x])) : RS w' base v' (k + 1) sig := by
  refine ⟨vs ++ [x], ho, fun j u hu => ?_⟩
  have hl := h1.1
  rw [Nat.mul_one] at hl
  by_cases hj : j < k
  · rw [List.getElem?_append_left (by omega)] at hu
    exact hb_grown h1 hg (h2 j u hu).1 (h2 j u hu).2
  · rw [List.getElem?_append_right (by omega), hl] at hu
    cases hjk : j - k with
    | zero =>
      rw [hjk] at hu
      simp at hu
      subst hu
      obtain rfl : j = k := by omega
      exact hb_grown h1 hg hx tx
    | succ m => rw [hjk] at hu; simp at hu

theorem RS.pa {w : World} {base N : Nat} {v : Value} {sig : Nat → List UInt8} (h : RS w base v N sig) : PA w v ((List.range N).map sig) := by
  obtain ⟨vs, h1, h3⟩ := h
  have hl := h1.1
  rw [Nat.mul_one] at hl
  obtain ⟨_, q⟩ := h1
  have hel : ∀ (i : Nat) x l, vs[i]? = some x → ((List.range N).map sig)[i]? = some l → HB w x l := by
    intro i x l hx hl'
    have hi : i < vs.length := (List.getElem?_eq_some_iff.1 hx).1
    have e2 : l = sig i := by
      rw [List.getElem?_map, List.getElem?_range (by omega)] at hl'
      simpa using hl'.symm
    rw [e2]
    exact (h3 i x hx).1
  rcases q with ⟨rfl, h0⟩ | ⟨g, cap, cur, rfl, hb, hg, hle, hm, hsz, ht⟩
  · subst h0
    exact PA.nil w
  · refine ⟨_, cap, vs, by simp, by simpa using hle, hm, (fun h => by cases h), by simp [hl], fun _ => ⟨g, 0, rfl, fun i x hx => ?_⟩, hel⟩
    rw [Nat.zero_add, cell_of_row w g i cur 39 (0, 0) hg]
    have hi : i < vs.length := (List.getElem?_eq_some_iff.1 hx).1
    rw [← ht, List.getElem?_take, if_pos (by omega)] at hx
    simpa using hx

end Go.Proofs.YtggficgmjbgmpaaDoor

namespace Go.Proofs.YtggficgmjbgmpaaDoor
open Go.RowKit

theorem step_calls2 {P : Program} {w : World} {ops : Array Oper} {o : Oper} {a : Act} {K : Act → World → Prop} {Q : Exit → Act → World → Prop} {E : Prop} (hgd : o.guard = none) (f : FuncId) (x y : Operand) (tx ty : TypeId)
    (ho : o.op = .call { callee := .value (.func f), args := #[x, y], argTypes := #[tx, ty] }) (vx vy : Value) (hx : a.eval x = vx) (hy : a.eval y = vy) (hf : (callFunc f #[vx, vy]).run P w = .ok (.enter f #[vx, vy]) w) (R : Value → World → Prop)
    (hC : Calls P f #[vx, vy] w fun e w' => ∃ v, e = .returned v ∧ R v w') (h : ∀ v w', R v w' → K (a.put o.dst v) w') :
    if Region.wanted o (yielded ops a.tmps) = true then Oper.wp P o a w K Q else E := by
  have hw : Region.wanted o (yielded ops a.tmps) = true := by simp [Region.wanted, hgd]
  rw [if_pos hw]
  unfold Oper.wp
  have h0 : a.eval (.func f) = .func (.func f) #[] #[] := rfl
  have he : (execOp a.eval o).run P w = .ok (.enter f #[vx, vy]) w := by
    simp only [execOp, ho, resolve, invoke, h0, List.map_toArray, List.map_cons, List.map_nil, hx, hy, Sem.run_bind]
    simpa [Deferred.ofValue] using hf
  rw [he, Oper.upon_enter]
  refine hC.mono ?_
  rintro e w' ⟨v, rfl, hr⟩
  exact h v w' hr

end Go.Proofs.YtggficgmjbgmpaaDoor

namespace Go.Proofs.YtggficgmjbgmpaaDoor
open Go.RowKit

/-- A row of rows of bytes that the call owns, each in a block of bytes. -/
def RL (w : World) (base : Nat) (v : Value) (ls : List (List UInt8)) : Prop := RS w base v ls.length (fun j => ls.getD j [])

theorem RL.later {w w' : World} {base : Nat} {v : Value} {ls : List (List UInt8)} (h : RL w base v ls) (hb : Below w.heap.size w w') : RL w' base v ls := RS.later h hb
theorem RL.nil (w : World) (base : Nat) : RL w base (.slice none 0 0) [] := ⟨[], World.ownsRow_nil _ _ _ _, fun j u h => by simp at h⟩
theorem RL.pa {w : World} {base : Nat} {v : Value} {ls : List (List UInt8)} (h : RL w base v ls) : PA w v ls := by
  have := RS.pa h
  have e : (List.range ls.length).map (fun j => ls.getD j []) = ls := by
    apply List.ext_getElem
    · simp
    · intro i h1 h2; simp [List.getD, h2]
  rwa [e] at this

theorem RL.snoc {w w' : World} {base : Nat} {v v' x : Value} {vs : List Value} {ls : List (List UInt8)} {l : List UInt8} (h1 : w.ownsRow base 39 1 v ls.length vs) (h2 : ∀ (j : Nat) u, vs[j]? = some u → HB w u (ls.getD j []) ∧ TB w u) (hx : HB w x l) (tx : TB w x)
    (hg : w.grownBy w' v.ownBlock) (ho : w'.ownsRow base 39 1 v' (ls.length + 1) (vs ++ [x])) : RL w' base v' (ls ++ [l]) := by
  have hl := h1.1
  rw [Nat.mul_one] at hl
  have := RS.snoc (sig := fun j => (ls ++ [l]).getD j []) h1 (fun j u hu => by
    have hj : j < ls.length := by
      have := (List.getElem?_eq_some_iff.1 hu).1
      omega
    have e : (ls ++ [l]).getD j [] = ls.getD j [] := by simp [List.getD, List.getElem?_append_left hj]
    show HB w u ((ls ++ [l]).getD j []) ∧ TB w u
    rw [e]
    exact h2 j u hu) (by
      show HB w x ((ls ++ [l]).getD ls.length [])
      have e : (ls ++ [l]).getD ls.length [] = l := by simp [List.getD]
      rw [e]
      exact hx) tx hg ho
  unfold RL
  rwa [List.length_append]

/-- What is written into a block of other things leaves them. -/
theorem RL.only {w w' : World} {g base : Nat} {v : Value} {ls : List (List UInt8)} {cs : Array Value} {t : TypeId} {fr : Nat × Nat} (h : RL w base v ls) (ho : Only g w w') (hg : w.heap[g]? = some (.cells cs t fr)) (h1 : t ≠ 5) (h2 : t ≠ 39) : RL w' base v ls := by
  obtain ⟨vs, o, q⟩ := h
  refine ⟨vs, ⟨o.1, ?_⟩, fun j u hu => ?_⟩
  · rcases o.2 with hn | ⟨b, cap, cur, rfl, hb, hc, rest⟩
    · exact .inl hn
    · refine .inr ⟨b, cap, cur, rfl, hb, ?_, rest⟩
      have hne : b ≠ g := by
        intro e
        subst e
        rw [hg] at hc
        simp only [Option.some.injEq, Obj.cells.injEq] at hc
        exact h2 hc.2.1
      rw [ho.block b hne (Array.getElem?_eq_some_iff.1 hc).1]
      exact hc
  · obtain ⟨k1, k2⟩ := q j u hu
    refine ⟨((HBG.typed k1 k2 hg h1).only ho).1, fun b o' n c e => ?_⟩
    obtain ⟨cur, fr', hc⟩ := k2 b o' n c e
    have hne : b ≠ g := by
      intro e
      subst e
      rw [hg] at hc
      simp only [Option.some.injEq, Obj.cells.injEq] at hc
      exact h1 hc.2.1
    exact ⟨cur, fr', by rw [ho.block b hne (Array.getElem?_eq_some_iff.1 hc).1]; exact hc⟩

/-- A cut of rows: from k up to h. -/
theorem PA.seg {w : World} {p : Option Addr} {n c : Nat} {ls : List (List UInt8)} (h : PA w (.slice p n c) ls) (b e : Nat) (hbe : b ≤ e) (he : e ≤ n) :
    PA w (.slice (cutP p c b) (e - b) (c - b)) (seg ls b e) := by
  obtain ⟨p', cap, vs, ev, h1, h2, h3, h4, h5, h6⟩ := h
  simp only [Value.slice.injEq] at ev
  obtain ⟨rfl, rfl, rfl⟩ := ev
  refine ⟨cutP p c b, c - b, (vs.drop b).take (e - b), ?_, ?_, by omega, ?_, ?_, ?_, ?_⟩
  · rw [seg_length he]
  · rw [seg_length he]; omega
  · intro hp
    unfold cutP at hp
    split at hp
    · omega
    · have := h3 (by simpa using hp)
      omega
  · rw [seg_length he]; simp; omega
  · intro hn
    have hkl : b < e := by
      rcases Nat.lt_or_ge b e with h | h
      · exact h
      · exact absurd (by unfold Go.Proofs.YtggficgmjbgmpaaDoor.seg; rw [show e - b = 0 by omega]; simp) hn
    have hl : ls ≠ [] := by
      intro e0
      subst e0
      simp at he
      omega
    obtain ⟨bl, o, rfl, hc⟩ := h5 hl
    refine ⟨bl, o + b, ?_, fun i x hx => ?_⟩
    · unfold cutP
      rw [if_neg (by omega)]
      simp [Addr.add_lit]
    · rw [List.getElem?_take] at hx
      split at hx
      · rw [List.getElem?_drop] at hx
        have := hc (b + i) x hx
        rwa [← Nat.add_assoc] at this
      · cases hx
  · intro i x l hx hl
    unfold Go.Proofs.YtggficgmjbgmpaaDoor.seg at hl
    rw [List.getElem?_take] at hx hl
    split at hx
    · rename_i hi
      rw [if_pos hi] at hl
      rw [List.getElem?_drop] at hx hl
      exact h6 (b + i) x l hx hl
    · cases hx

/-- The root of a part of digests. -/
def partF (size : Int) (ls : List (List UInt8)) (q : Nat × Nat) : List UInt8 := rootF size (seg ls q.1 q.2)

/-- The three boxes of Range. -/
def RG (w0 : World) (size : Int) (lv : Value) (ls : List (List UInt8)) (acc : List (Nat × Nat)) (w : World) : Prop :=
  ∃ rv, w.heap[w0.heap.size]? = some (.cells #[.int .i64 size] 3 (0, 0)) ∧ w.heap[w0.heap.size + 1]? = some (.cells #[lv] 33 (0, 0)) ∧ w.heap[w0.heap.size + 2]? = some (.cells #[rv] 33 (0, 0)) ∧ RL w (w0.heap.size + 3) rv (acc.map (partF size ls)) ∧ Below w0.heap.size w0 w ∧ w0.heap.size + 2 < w.heap.size

theorem eg_rangeF : ∀ args w, (callFunc 36 args).run Tryd.prog w = .ok (.enter 36 args) w := by intro args w; go_simp
theorem cf_root (a b : Value) (w : World) : (callFunc 37 #[a, b]).run Tryd.prog w = .ok (.enter 37 #[a, b]) w := by go_simp

set_option maxRecDepth 100000 in
set_option maxHeartbeats 4000000 in
theorem rangeF_walk (w0 : World) (size : Int) (lv : Value) (ls : List (List UInt8)) (acc : List (Nat × Nat)) (b e : Nat) (w : World) (hT0 : Tabs w0) (hp : PA w0 lv ls) (hbig : ls.length ≤ 1048576) (hls : ∀ l ∈ ls, l.length ≤ 140737488355328) (h : RG w0 size lv ls acc w) (hbe : b < e) (he : e ≤ ls.length) (hacc0 : acc.length ≤ b) :
    Calls Tryd.prog 36 (#[.int .i64 (b : Int), .int .i64 (e : Int)] ++ #[.pointer (some ⟨w0.heap.size + 2, 0, none⟩), .pointer (some ⟨w0.heap.size, 0, none⟩), .pointer (some ⟨w0.heap.size + 1, 0, none⟩)]) w fun x w' => x = .returned (.tuple #[]) ∧ RG w0 size lv ls (acc ++ [(b, e)]) w' := by
  show Calls Tryd.prog 36 #[.int .i64 (b : Int), .int .i64 (e : Int), .pointer (some ⟨w0.heap.size + 2, 0, none⟩), .pointer (some ⟨w0.heap.size, 0, none⟩), .pointer (some ⟨w0.heap.size + 1, 0, none⟩)] w _
  obtain ⟨rv, g0, g1, g2, hr, hb, hsz⟩ := h
  have hT := hT0.later hb
  obtain ⟨p, c, rfl⟩ := hp.shape
  have c0 : w.cell? ⟨w0.heap.size, 0, none⟩ = some (.int .i64 size) := by rw [cell_of_row w _ _ _ _ _ g0]; rfl
  have c1 : w.cell? ⟨w0.heap.size + 1, 0, none⟩ = some (.slice p ls.length c) := by rw [cell_of_row w _ _ _ _ _ g1]; rfl
  have c2 : w.cell? ⟨w0.heap.size + 2, 0, none⟩ = some rv := by rw [cell_of_row w _ _ _ _ _ g2]; rfl
  have hlen := hp.len
  have k1 : ∀ w, (Instr.slice 33 (.slice p ls.length c) (some (.int .i64 (b : Int))) (some (.int .i64 (e : Int))) none).run Tryd.prog w = .ok (.slice (cutP p c b) (e - b) (c - b)) w := fun w => run_cut2 (P := Tryd.prog) Tryd.underlying33 s_bytes p ls.length c b e b e rfl rfl (by omega) (by omega) w
  have hpart := PA.seg hp b e (by omega) he
  have hR : ∀ w', Below w.heap.size w w' → Calls Tryd.prog 37 #[.int .i64 size, .slice (cutP p c b) (e - b) (c - b)] w' fun x w'' => ∃ v, x = .returned v ∧ (HB w'' v (partF size ls (b, e)) ∧ TB w'' v ∧ Below w'.heap.size w' w'' ∧ ∃ p2 c2, v = .slice p2 (partF size ls (b, e)).length c2) := by
    intro w' hb'
    have hl1 := seg_length (b := b) he
    refine (root_any size _ (seg ls b e) w' ((hpart.later hb).later hb') (hT.later hb') (by omega) (rootF_len size _ (by decide) _ (by omega) fun l hl => hls l (seg_mem hl))).mono ?_
    rintro x w'' ⟨p2, c2, h1, h2, h3, h4⟩
    exact ⟨_, h1, h2, h4, h3, p2, c2, rfl⟩
  have HP : Hid (acc.map (partF size ls) ++ [partF size ls (b, e)] = (acc ++ [(b, e)]).map (partF size ls)) := by show _ = _; simp
  have hal : (acc.map (partF size ls)).length ≤ 1048576 := by simp; omega
  generalize partF size ls (b, e) = F at *
  generalize hA : acc.map (partF size ls) = A at *
  obtain ⟨i0, hi0, hz0, hz1, hz2⟩ := info_parts i_bytes
  clear hacc0
  clear hpart hp hls hbe he
  obtain ⟨vs, o1, q1⟩ := hr
  have hfar : ∀ k, some k = rv.ownBlock → w0.heap.size + 3 ≤ k := fun k hk => (o1.lt k hk.symm).1
  go_enter Tryd.func36, Tryd.ntmps36
  go_wp2
  go_region_law (first
    | (refine step_calls2 (by rfl) 37 _ _ _ _ (by rfl) _ _ (by rfl) (by rfl) (cf_root _ _ _) _ (hR _ (by repeat (first | exact Below.refl _ _ | refine Below.drew ?_))) ?_; rintro e w5 ⟨h5, t5, hb5', p5, c5, rfl⟩; have hb5 : Below w.heap.size w w5 := Below.trans (by repeat (first | exact Below.refl _ _ | refine Below.drew ?_)) hb5'; have d2 := cell_later hb5 c2; have bB := (Below.refl _ w5).alloc (Nat.le_refl _) (.cells #[.slice p5 F.length c5] 39); have e2 := cell_later bB d2; have s5 := hb5.size)
    | (refine step_append_lies _ (by rfl) _ _ _ (by rfl) (w0.heap.size + 3) 39 i0 _ 1 24 Tryd.underlying33 hi0 hz0 hz1 hz2 rfl (by omega) _ A.length vs (by rfl) (owns_later (owns_later o1 hb5) bB) ⟨w5.heap.size, 0, none⟩ 1 1 [.slice p5 F.length c5] (by rfl) (by rfl) (World.news_of_block (cs := #[.slice p5 F.length c5]) (t := 39) (fr := (0, 0)) (heap_alloc_new w5 _)) (by simp [Value.oneCell']) (by omega) (by unfold maxLen; omega) (by omega) (by simp; omega) (w5.heap.size + 1) (by simp) ?_; intro g7 cap7 w7 hown7 hgrow7 hat hlt7; have g27 : w7.heap[w0.heap.size + 2]? = some (.cells #[rv] 33 (0, 0)) := (hgrow7.block _ (by simp; omega) (fun hk => by have := hfar _ hk; omega)).trans ((bB.block _ (by omega)).trans ((hb5.block _ (by omega)).trans g2)); have x7 : w7.cell? ⟨w0.heap.size + 2, 0, none⟩ = some rv := (by rw [cell_of_row _ _ 0 _ _ _ g27]; rfl); have z7 : w7.frozen? ⟨w0.heap.size + 2, 0, none⟩ = false := (by simp [World.frozen?, g27])))
  all_goals
    have g07 : w7.heap[w0.heap.size]? = some (.cells #[.int .i64 size] 3 (0, 0)) := (hgrow7.block _ (by simp; omega) (fun hk => by have := hfar _ hk; omega)).trans ((bB.block _ (by omega)).trans ((hb5.block _ (by omega)).trans g0))
    have g17 : w7.heap[w0.heap.size + 1]? = some (.cells #[.slice p ls.length c] 33 (0, 0)) := (hgrow7.block _ (by simp; omega) (fun hk => by have := hfar _ hk; omega)).trans ((bB.block _ (by omega)).trans ((hb5.block _ (by omega)).trans g1))
    have r7 : RL w7 (w0.heap.size + 3) (.slice (some ⟨g7, 0, none⟩) (A.length + 1) cap7) (A ++ [F]) := RL.snoc (owns_later (owns_later o1 hb5) bB) (fun j u hu => ⟨((q1 j u hu).1.later hb5).later bB, ((q1 j u hu).2.later hb5).later bB⟩) (h5.later bB) (t5.later bB) hgrow7 hown7
    have b7 : Below w0.heap.size w0 w7 := ((hb.trans (hb5.mono (by omega))).trans (bB.mono (by omega))).grown hgrow7 (by simp; omega) (fun k hk => by have := hfar k hk.symm; omega)
    have O7 := (Only.refl (w0.heap.size + 2) w7).setCell 0 (.slice (some ⟨g7, 0, none⟩) (A.length + 1) cap7)
    have b8 : Below w0.heap.size w0 (w7.setCell ⟨w0.heap.size + 2, 0, none⟩ (.slice (some ⟨g7, 0, none⟩) (A.length + 1) cap7)) := b7.setCell (by simp) _
    have hl7 : w0.heap.size + 2 < w7.heap.size := (Array.getElem?_eq_some_iff.1 g27).1
    rw [HP.out] at r7
    have H : Hid (RG w0 size (.slice p ls.length c) ls (acc ++ [(b, e)]) (w7.setCell ⟨w0.heap.size + 2, 0, none⟩ (.slice (some ⟨g7, 0, none⟩) (A.length + 1) cap7))) := by
      refine ⟨_, (O7.block _ (by omega) (by omega)).trans g07, (O7.block _ (by omega) (by omega)).trans g17, ?_, r7.only O7 g27 (by decide) (by decide), b8, Nat.lt_of_lt_of_le hl7 O7.size⟩
      rw [heap_setCell_same w7 _ 0 _ _ _ g27]
      rfl
    clear g07 g17 g27 x7 z7 hown7 hgrow7 hat hlt7 r7 b7 b8 O7 hl7 e2 bB d2 hb5 h5 t5 hb5' q1 o1 HP hA k1 hR c0 c1 c2 g0 g1 g2
    go_wp2
    go_end0
    exact ⟨rfl, H.out⟩

set_option maxRecDepth 100000 in
set_option maxHeartbeats 1000000 in
theorem range_ok (size : Int) (v : Value) (ls : List (List UInt8)) (lo hi : Nat) (w : World) (hT : Tabs w) (hp : PA w v ls) (hbig : ls.length ≤ 1048576) (hls : ∀ l ∈ ls, l.length ≤ 140737488355328) (h1 : lo ≤ hi) (h2 : hi ≤ ls.length) (h0 : 0 < ls.length) :
    Calls Tryd.prog 23 #[.int .i64 size, v, .int .i64 (lo : Int), .int .i64 (hi : Int)] w fun x w' => ∃ p c, x = .returned (.slice p (wo lo hi 20 0 ls.length).length c) ∧ RL w' (w.heap.size + 3) (.slice p (wo lo hi 20 0 ls.length).length c) ((wo lo hi 20 0 ls.length).map (partF size ls)) ∧ Below w.heap.size w w' := by
  obtain ⟨p, c, rfl⟩ := hp.shape
  have hL := fun w => lies_any (ls.length : Int) (lo : Int) (hi : Int) w
  rw [show decide (0 ≤ (lo : Int) ∧ (lo : Int) ≤ (hi : Int) ∧ (hi : Int) ≤ (ls.length : Int)) = true by simp; omega] at hL
  have b1 := (Below.refl w.heap.size w).alloc (Nat.le_refl _) (.cells #[.int .i64 size] 3)
  have b2 := b1.alloc b1.size (.cells #[.slice p ls.length c] 33)
  have b3 := b2.alloc b2.size (.cells #[.slice none 0 0] 33)
  have n1 := heap_alloc_new w (.cells #[.int .i64 size] 3)
  have n2 := heap_alloc_new (w.alloc (.cells #[.int .i64 size] 3)) (.cells #[.slice p ls.length c] 33)
  have n3 := heap_alloc_new ((w.alloc (.cells #[.int .i64 size] 3)).alloc (.cells #[.slice p ls.length c] 33)) (.cells #[.slice none 0 0] 33)
  have HG : Hid (RG w size (.slice p ls.length c) ls [] (((w.alloc (.cells #[.int .i64 size] 3)).alloc (.cells #[.slice p ls.length c] 33)).alloc (.cells #[.slice none 0 0] 33))) := by
    have s1 : (w.alloc (.cells #[.int .i64 size] 3)).heap.size = w.heap.size + 1 := by simp
    have s2 : ((w.alloc (.cells #[.int .i64 size] 3)).alloc (.cells #[.slice p ls.length c] 33)).heap.size = w.heap.size + 2 := by simp
    rw [s1] at n2
    rw [s2] at n3
    refine ⟨.slice none 0 0, ?_, ?_, n3, RL.nil _ _, b3, by simp⟩
    · exact (((Below.refl _ _).alloc (Nat.le_refl _) _).block _ (by rw [s2]; omega)).trans ((((Below.refl _ _).alloc (Nat.le_refl _) _).block _ (by rw [s1]; omega)).trans n1)
    · exact (((Below.refl _ _).alloc (Nat.le_refl _) _).block _ (by rw [s2]; omega)).trans n2
  have hW : ∀ w1, RG w size (.slice p ls.length c) ls [] w1 → Calls Tryd.prog 35 #[.int .i64 0, .int .i64 (ls.length : Int), .int .i64 (lo : Int), .int .i64 (hi : Int), .func (.func 36) #[] #[.pointer (some ⟨w.heap.size + 2, 0, none⟩), .pointer (some ⟨w.heap.size, 0, none⟩), .pointer (some ⟨w.heap.size + 1, 0, none⟩)]] w1 fun x w' => x = .returned (.tuple #[]) ∧ RG w size (.slice p ls.length c) ls (wo lo hi 20 0 ls.length) w' :=
    fun w1 hc => without_any 36 _ eg_rangeF lo hi ls.length (RG w size (.slice p ls.length c) ls) (by omega) (fun acc b e w' hc ha hbe he => rangeF_walk w size _ ls acc b e w' hT hp hbig hls hc hbe he ha) 20 0 ls.length [] w1 h0 (by omega) (Nat.le_refl _) (by simp) hc
  clear hT hp hls n1 n2 n3 b1 b2 b3
  have c1 : (w.alloc (.cells #[.int .i64 size] 3)).heap.size = w.heap.size + 1 := by simp
  go_enter Tryd.func23, Tryd.ntmps23
  go_wp2_with fail
  refine (hL _).mono ?_
  rintro x w1 ⟨rfl, hw⟩
  subst hw
  clear hL
  go_wp2_with fail
  refine (hW _ HG.out).mono ?_
  rintro x w2 ⟨rfl, rv, g0, g1, g2, hr, hb, hsz⟩
  have c0 : w2.cell? ⟨w.heap.size + 2, 0, none⟩ = some rv := by rw [cell_of_row w2 _ _ _ _ _ g2]; rfl
  have hpa := hr
  obtain ⟨p3, c3, hv⟩ := hpa.pa.shape
  rw [List.length_map] at hv
  subst hv
  clear hW hr g0 g1 g2 HG
  go_wp2
  go_ret
  exact ⟨p3, c3, rfl, hpa, hb⟩

theorem RL.mono {w : World} {base base' : Nat} {v : Value} {ls : List (List UInt8)} (h : RL w base v ls) (hb : base' ≤ base) : RL w base' v ls := by
  obtain ⟨vs, h1, h2⟩ := h
  exact ⟨vs, owns_mono h1 hb, h2⟩

/-- What shows a range of digests. -/
def rngF (size : Int) (ls : List (List UInt8)) (lo hi : Int) : List (List UInt8) := if 0 ≤ lo ∧ lo ≤ hi ∧ hi ≤ ls.length ∧ 0 < ls.length then (wo lo.toNat hi.toNat 20 0 ls.length).map (partF size ls) else []

set_option maxRecDepth 100000 in
set_option maxHeartbeats 1000000 in
theorem range_no (size : Int) (v : Value) (ls : List (List UInt8)) (lo hi : Int) (w : World) (hp : PA w v ls) (h : ¬ (0 ≤ lo ∧ lo ≤ hi ∧ hi ≤ (ls.length : Int))) :
    Calls Tryd.prog 23 #[.int .i64 size, v, .int .i64 lo, .int .i64 hi] w fun x w' => x = .returned (.slice none 0 0) ∧ Below w.heap.size w w' := by
  obtain ⟨p, c, rfl⟩ := hp.shape
  have hL := fun w => lies_any (ls.length : Int) lo hi w
  rw [show decide (0 ≤ lo ∧ lo ≤ hi ∧ hi ≤ (ls.length : Int)) = false by simp; omega] at hL
  have b1 := (Below.refl w.heap.size w).alloc (Nat.le_refl _) (.cells #[.int .i64 size] 3)
  have HB : Hid (Below w.heap.size w ((w.alloc (.cells #[.int .i64 size] 3)).alloc (.cells #[.slice p ls.length c] 33))) := b1.alloc b1.size _
  clear b1 hp h
  have c1 : (w.alloc (.cells #[.int .i64 size] 3)).heap.size = w.heap.size + 1 := by simp
  go_enter Tryd.func23, Tryd.ntmps23
  go_wp2_with fail
  refine (hL _).mono ?_
  rintro x w1 ⟨rfl, hw⟩
  subst hw
  clear hL
  go_wp2
  go_ret
  exact ⟨rfl, HB.out⟩

set_option maxRecDepth 100000 in
set_option maxHeartbeats 1000000 in
theorem range_nil (size : Int) (v : Value) (w : World) (hp : PA w v []) :
    Calls Tryd.prog 23 #[.int .i64 size, v, .int .i64 0, .int .i64 0] w fun x w' => x = .returned (.slice none 0 0) ∧ Below w.heap.size w w' := by
  obtain ⟨p, c, rfl⟩ := hp.shape
  have hL := fun w => lies_any 0 0 0 w
  rw [show decide (0 ≤ (0 : Int) ∧ (0 : Int) ≤ 0 ∧ (0 : Int) ≤ 0) = true by decide] at hL
  have hW := fun fv w => without_in fv 0 0 0 0 w (Nat.le_refl _) (Nat.le_refl _)
  simp only [Int.natCast_zero, List.length_nil] at *
  have b1 := (Below.refl w.heap.size w).alloc (Nat.le_refl _) (.cells #[.int .i64 size] 3)
  have b2 := b1.alloc b1.size (.cells #[.slice p 0 c] 33)
  have HB : Hid (Below w.heap.size w (((w.alloc (.cells #[.int .i64 size] 3)).alloc (.cells #[.slice p 0 c] 33)).alloc (.cells #[.slice none 0 0] 33))) := b2.alloc b2.size _
  clear b1 b2 hp
  have c1 : (w.alloc (.cells #[.int .i64 size] 3)).heap.size = w.heap.size + 1 := by simp
  go_enter Tryd.func23, Tryd.ntmps23
  go_wp2_with fail
  refine (hL _).mono ?_
  rintro x w1 ⟨rfl, hw⟩
  subst hw
  clear hL
  go_wp2_with fail
  refine (hW _ _).mono ?_
  rintro x w2 ⟨rfl, hw⟩
  subst hw
  clear hW
  go_wp2
  go_ret
  exact ⟨rfl, HB.out⟩

theorem range_anyL (size : Int) (v : Value) (ls : List (List UInt8)) (lo hi : Int) (w : World) (hT : Tabs w) (hp : PA w v ls) (hbig : ls.length ≤ 1048576) (hls : ∀ l ∈ ls, l.length ≤ 140737488355328) :
    Calls Tryd.prog 23 #[.int .i64 size, v, .int .i64 lo, .int .i64 hi] w fun x w' => ∃ p c, x = .returned (.slice p (rngF size ls lo hi).length c) ∧ RL w' w.heap.size (.slice p (rngF size ls lo hi).length c) (rngF size ls lo hi) ∧ Below w.heap.size w w' := by
  by_cases h : 0 ≤ lo ∧ lo ≤ hi ∧ hi ≤ (ls.length : Int)
  · obtain ⟨A, rfl⟩ : ∃ A : Nat, lo = (A : Int) := ⟨lo.toNat, by omega⟩
    obtain ⟨B, rfl⟩ : ∃ B : Nat, hi = (B : Int) := ⟨hi.toNat, by omega⟩
    by_cases h0 : 0 < ls.length
    · have e : rngF size ls (A : Int) (B : Int) = (wo A B 20 0 ls.length).map (partF size ls) := by unfold rngF; rw [if_pos ⟨h.1, h.2.1, h.2.2, h0⟩]; simp
      rw [e, List.length_map]
      exact (range_ok size v ls A B w hT hp hbig hls (by omega) (by omega) h0).mono fun _ _ ⟨p, c, h1, h2, h3⟩ => ⟨p, c, h1, h2.mono (by omega), h3⟩
    · obtain rfl : ls = [] := List.eq_nil_of_length_eq_zero (by omega)
      simp only [List.length_nil] at h
      obtain rfl : A = 0 := by omega
      obtain rfl : B = 0 := by omega
      have e : rngF size [] ((0 : Nat) : Int) ((0 : Nat) : Int) = [] := by simp [rngF]
      rw [e]
      exact (range_nil size v w hp).mono fun x w' ⟨h1, h2⟩ => ⟨none, 0, h1, RL.nil _ _, h2⟩
  · have e : rngF size ls lo hi = [] := by unfold rngF; rw [if_neg (fun h' => h ⟨h'.1, h'.2.1, h'.2.2.1⟩)]
    rw [e]
    exact (range_no size v ls lo hi w hp h).mono fun x w' ⟨h1, h2⟩ => ⟨none, 0, h1, RL.nil _ _, h2⟩

theorem range_any (size : Int) (v : Value) (ls : List (List UInt8)) (lo hi : Int) (w : World) (hT : Tabs w) (hp : PA w v ls) (hbig : ls.length ≤ 1048576) (hls : ∀ l ∈ ls, l.length ≤ 140737488355328) :
    Calls Tryd.prog 23 #[.int .i64 size, v, .int .i64 lo, .int .i64 hi] w fun x w' => ∃ p c, x = .returned (.slice p (rngF size ls lo hi).length c) ∧ PA w' (.slice p (rngF size ls lo hi).length c) (rngF size ls lo hi) ∧ Below w.heap.size w w' :=
  (range_anyL size v ls lo hi w hT hp hbig hls).mono fun _ _ ⟨p, c, h1, h2, h3⟩ => ⟨p, c, h1, h2.pa, h3⟩

end Go.Proofs.YtggficgmjbgmpaaDoor
