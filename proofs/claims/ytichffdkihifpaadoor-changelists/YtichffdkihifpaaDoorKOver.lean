/- What this text proves: the walk of merkle.over over this program: the root of a part of a tree, of which a function tells what is known. -/
import Derived.Test.YtichffdkihifpaaDoorKWithout
import Derived.Test.YtichffdkihifpaaDoorHashT
import Derived.Test.YtichffdkihifpaaDoorOnlyT
namespace Go.Proofs.YtichffdkihifpaaDoor
open Go.RowKit

/-- Bytes that don't lie in block g. -/
def HBG (w : World) (g : Nat) (v : Value) (l : List UInt8) : Prop := HB w v l ∧ ∀ b o n c, l ≠ [] → v = .slice (some ⟨b, o, none⟩) n c → b ≠ g

theorem HBG.only {w w' : World} {g : Nat} {v : Value} {l : List UInt8} (h : HBG w g v l) (ho : Only g w w') : HBG w' g v l := by
  refine ⟨?_, h.2⟩
  obtain ⟨p, cap, e, h1, h2, h3, h4⟩ := h.1
  refine ⟨p, cap, e, h1, h2, h3, fun hne => ?_⟩
  obtain ⟨b, o, e1, e2⟩ := h4 hne
  refine ⟨b, o, e1, fun i x hx => ?_⟩
  have hc := e2 i x hx
  have hb : b ≠ g := h.2 b o l.length cap hne (by rw [e, e1])
  rw [World.cell?_of_block (w := w) (ho.block b hb (cell_lt hc))]
  exact hc

theorem HBG.old {w : World} {g : Nat} {v : Value} {l : List UInt8} (h : HB w v l) (hg : w.heap.size ≤ g) : HBG w g v l := by
  refine ⟨h, fun b o n c hne e => ?_⟩
  obtain ⟨p, cap, e0, h1, h2, h3, h4⟩ := h
  obtain ⟨b', o', e1, e2⟩ := h4 hne
  rw [e0, e1] at e
  simp only [Value.slice.injEq, Option.some.injEq, Addr.mk.injEq, and_true] at e
  obtain ⟨⟨rfl, rfl⟩, _, _⟩ := e
  obtain ⟨x, r, rfl⟩ := List.exists_cons_of_ne_nil hne
  have := cell_lt (e2 0 x rfl)
  omega

theorem HBG.typed {w : World} {g : Nat} {v : Value} {l : List UInt8} {cs : Array Value} {t : TypeId} {fr : Nat × Nat} (h : HB w v l) (ht : TB w v) (hg : w.heap[g]? = some (.cells cs t fr)) (hne : t ≠ 5) : HBG w g v l := by
  refine ⟨h, fun b o n c _ e hb => ?_⟩
  obtain ⟨cur, fr', hc⟩ := ht b o n c e
  subst hb
  rw [hg] at hc
  simp only [Option.some.injEq, Obj.cells.injEq] at hc
  exact hne hc.2.1

theorem PA.two (w : World) (a b : Value) (la lb : List UInt8) (ha : HB w a la) (hb : HB w b lb) : PA (w.alloc (.cells #[a, b] 25)) (.slice (some ⟨w.heap.size, 0, none⟩) 2 2) [la, lb] := by
  refine ⟨_, 2, [a, b], rfl, Nat.le_refl _, by decide, (fun h => by cases h), rfl, fun _ => ⟨_, 0, rfl, fun i x hx => ?_⟩, fun i x l hx hl => ?_⟩
  · rw [Nat.zero_add, cell_of_row _ _ i _ _ _ (heap_alloc_new w _)]
    simpa using hx
  · have hbe := (Below.refl w.heap.size w).alloc (Nat.le_refl _) (.cells #[a, b] 25)
    match i with
    | 0 => simp at hx hl; subst hx; subst hl; exact ha.later hbe
    | 1 => simp at hx hl; subst hx; subst hl; exact hb.later hbe
    | n + 2 => simp at hx

/-- The hash of two. -/
def pairF (size : Int) (a b : List UInt8) : List UInt8 := hashF size 4 [a, b]

/-- The root of a part, and the state behind: kn tells what is known. -/
def ovF (size : Int) (kn : Nat → Nat → Nat → Option (List UInt8) × Nat) : Nat → Nat → Nat → Nat → List UInt8 × Nat
  | 0, b, e, s => ((kn s b e).1.getD [], (kn s b e).2)
  | f + 1, b, e, s =>
    match (kn s b e).1 with
    | some l => (l, (kn s b e).2)
    | none => (pairF size (ovF size kn f b (b + half (e - b)) (kn s b e).2).1 (ovF size kn f (b + half (e - b)) e (ovF size kn f b (b + half (e - b)) (kn s b e).2).2).1, (ovF size kn f (b + half (e - b)) e (ovF size kn f b (b + half (e - b)) (kn s b e).2).2).2)

theorem ovF_some {size : Int} {kn : Nat → Nat → Nat → Option (List UInt8) × Nat} {f b e s : Nat} {l : List UInt8} (h : (kn s b e).1 = some l) : ovF size kn f b e s = (l, (kn s b e).2) := by
  cases f <;> simp [ovF, h]

theorem ovF_none {size : Int} {kn : Nat → Nat → Nat → Option (List UInt8) × Nat} {f b e s : Nat} (h : (kn s b e).1 = none) :
    ovF size kn (f + 1) b e s = (pairF size (ovF size kn f b (b + half (e - b)) (kn s b e).2).1 (ovF size kn f (b + half (e - b)) e (ovF size kn f b (b + half (e - b)) (kn s b e).2).2).1, (ovF size kn f (b + half (e - b)) e (ovF size kn f b (b + half (e - b)) (kn s b e).2).2).2) := by
  simp only [ovF, h]

set_option maxRecDepth 100000 in
set_option maxHeartbeats 1000000 in
theorem over_known (size : Int) (K : Nat) (caps : Array Value) (eg : ∀ args w, (callFunc K args).run Tryd.prog w = .ok (.enter K args) w) (b e : Nat) (L : List UInt8) (w : World) (R : Value → World → Prop)
    (hK : Calls Tryd.prog K (#[.int .i64 (b : Int), .int .i64 (e : Int)] ++ caps) w fun x w' => ∃ p c, x = .returned (.tuple #[.slice p L.length c, .bool true]) ∧ R (.slice p L.length c) w') :
    Calls Tryd.prog 30 #[.int .i64 size, .int .i64 (b : Int), .int .i64 (e : Int), .func (.func K) #[] caps] w fun x w' => ∃ p c, x = .returned (.slice p L.length c) ∧ R (.slice p L.length c) w' := by
  generalize L.length = n at *
  go_enter Tryd.func30, Tryd.ntmps30
  go_wp2_with fail
  refine hK.mono ?_
  rintro x w1 ⟨p, c, rfl, hR⟩
  clear hK
  go_wp2
  go_ret
  exact ⟨p, c, rfl, hR⟩

set_option maxRecDepth 100000 in
set_option maxHeartbeats 1000000 in
theorem over_fork (size : Int) (K : Nat) (caps : Array Value) (eg : ∀ args w, (callFunc K args).run Tryd.prog w = .ok (.enter K args) w) (g b e m : Nat) (LA LB LC : List UInt8) (w : World) (Q0 Q1 Q2 Q3 : World → Prop)
    (hK : Calls Tryd.prog K (#[.int .i64 (b : Int), .int .i64 (e : Int)] ++ caps) w fun x w' => x = .returned (.tuple #[.slice none 0 0, .bool false]) ∧ Q0 w')
    (hm : ∀ w, Calls Tryd.prog 49 #[.int .i64 (b : Int), .int .i64 (e : Int)] w fun x w' => x = .returned (.int .i64 (m : Int)) ∧ w' = w)
    (hl : ∀ w, Q0 w → Calls Tryd.prog 30 #[.int .i64 size, .int .i64 (b : Int), .int .i64 (m : Int), .func (.func K) #[] caps] w fun x w' => ∃ p c, x = .returned (.slice p LA.length c) ∧ HBG w' g (.slice p LA.length c) LA ∧ Q1 w')
    (hr : ∀ w, Q1 w → Calls Tryd.prog 30 #[.int .i64 size, .int .i64 (m : Int), .int .i64 (e : Int), .func (.func K) #[] caps] w fun x w' => ∃ p c, x = .returned (.slice p LB.length c) ∧ HBG w' g (.slice p LB.length c) LB ∧ Only g w w' ∧ Q2 w')
    (hh : ∀ w v, Q2 w → PA (w.alloc (.cells v 25)) (.slice (some ⟨w.heap.size, 0, none⟩) 2 2) [LA, LB] → Calls Tryd.prog 29 #[.int .i64 size, .int .i64 4, .slice (some ⟨w.heap.size, 0, none⟩) 2 2] (w.alloc (.cells v 25)) fun x w' => ∃ p c, x = .returned (.slice p LC.length c) ∧ HBG w' g (.slice p LC.length c) LC ∧ Q3 w') :
    Calls Tryd.prog 30 #[.int .i64 size, .int .i64 (b : Int), .int .i64 (e : Int), .func (.func K) #[] caps] w fun x w' => ∃ p c, x = .returned (.slice p LC.length c) ∧ HBG w' g (.slice p LC.length c) LC ∧ Q3 w' := by
  go_enter Tryd.func30, Tryd.ntmps30
  go_wp2_with fail
  refine hK.mono ?_
  rintro x w1 ⟨rfl, hQ⟩
  clear hK
  go_wp2_with fail
  refine (hm _).mono ?_
  rintro x w2 ⟨rfl, hw⟩
  subst hw
  clear hm
  go_wp2_with fail
  refine (hl _ hQ).mono ?_
  rintro x w3 ⟨p3, c3, rfl, k3, hQ1⟩
  clear hl hQ
  go_wp2_with fail
  refine (hr _ hQ1).mono ?_
  rintro x w4 ⟨p4, c4, rfl, k4, ho, hQ2⟩
  have k3' := (k3.only ho).1
  have k4' := k4.1
  clear hr hQ1 k3 k4 ho
  have hp := PA.two w4 _ _ _ _ k3' k4'
  clear k3' k4'
  have hh' := hh w4 _ hQ2 hp
  clear hh hp hQ2
  generalize LA.length = na at *
  generalize LB.length = nb at *
  go_wp2_with fail
  refine hh'.mono ?_
  rintro x w5 ⟨p5, c5, rfl, k5, hQ3⟩
  clear hh'
  go_wp2
  go_ret
  exact ⟨p5, c5, rfl, k5, hQ3⟩

theorem over_any (size : Int) (K : Nat) (caps : Array Value) (eg : ∀ args w, (callFunc K args).run Tryd.prog w = .ok (.enter K args) w) (g N : Nat) (R : Nat → World → Prop) (kn : Nat → Nat → Nat → Option (List UInt8) × Nat) (P : Nat → Nat → Nat → Nat → Prop) (hN : N ≤ 2305843009213693952)
    (hP : ∀ f b e s, P (f + 1) b e s → (kn s b e).1 = none → 2 ≤ e - b → e - b ≤ 2 ^ (f + 1) → e ≤ N → P f b (b + half (e - b)) (kn s b e).2 ∧ P f (b + half (e - b)) e (ovF size kn f b (b + half (e - b)) (kn s b e).2).2)
    (hR : ∀ s w w', R s w → Below w.heap.size w w' → R s w') (hT : ∀ s w, R s w → Tabs w) (hG : ∀ s w, R s w → ∃ cs t fr, w.heap[g]? = some (.cells cs t fr) ∧ t ≠ 5)
    (hk1 : ∀ s b e, e ≤ b + 1 → (kn s b e).1 ≠ none)
    (hK : ∀ f s b e w, P f b e s → R s w → b < e → e ≤ N → Calls Tryd.prog K (#[.int .i64 (b : Int), .int .i64 (e : Int)] ++ caps) w fun x w' => Only g w w' ∧ R (kn s b e).2 w' ∧ ((kn s b e).1 = none ∧ x = .returned (.tuple #[.slice none 0 0, .bool false]) ∨ ∃ l p c, (kn s b e).1 = some l ∧ x = .returned (.tuple #[.slice p l.length c, .bool true]) ∧ HBG w' g (.slice p l.length c) l)) :
    ∀ (f b e s : Nat) (w : World), b < e → e - b ≤ 2 ^ f → e ≤ N → P f b e s → R s w →
    Calls Tryd.prog 30 #[.int .i64 size, .int .i64 (b : Int), .int .i64 (e : Int), .func (.func K) #[] caps] w fun x w' => ∃ p c, x = .returned (.slice p (ovF size kn f b e s).1.length c) ∧ HBG w' g (.slice p (ovF size kn f b e s).1.length c) (ovF size kn f b e s).1 ∧ Only g w w' ∧ R (ovF size kn f b e s).2 w' := by
  have known : ∀ (f b e s : Nat) (w : World) (l : List UInt8), (kn s b e).1 = some l → b < e → e ≤ N → P f b e s → R s w →
    Calls Tryd.prog 30 #[.int .i64 size, .int .i64 (b : Int), .int .i64 (e : Int), .func (.func K) #[] caps] w fun x w' => ∃ p c, x = .returned (.slice p (ovF size kn f b e s).1.length c) ∧ HBG w' g (.slice p (ovF size kn f b e s).1.length c) (ovF size kn f b e s).1 ∧ Only g w w' ∧ R (ovF size kn f b e s).2 w' := by
    intro f b e s w l hl hbe he hPs hRs
    rw [ovF_some hl]
    refine over_known size K caps eg b e l w (fun v w' => HBG w' g v l ∧ Only g w w' ∧ R (kn s b e).2 w') ((hK f s b e w hPs hRs hbe he).mono ?_)
    rintro x w' ⟨ho, hR', h | ⟨l', p, c, h1, h2, h3⟩⟩
    · rw [hl] at h; cases h.1
    · rw [hl] at h1
      cases h1
      exact ⟨p, c, h2, h3, ho, hR'⟩
  intro f
  induction f with
  | zero =>
    intro b e s w hbe hf he hPs hRs
    simp at hf
    obtain ⟨l, hl⟩ := Option.ne_none_iff_exists'.1 (hk1 s b e (by omega))
    exact known 0 b e s w l hl hbe he hPs hRs
  | succ f ih =>
    intro b e s w hbe hf he hPs hRs
    cases hk : (kn s b e).1 with
    | some l => exact known (f + 1) b e s w l hk hbe he hPs hRs
    | none =>
      have hn : 2 ≤ e - b := by
        rcases Nat.lt_or_ge (e - b) 2 with h | h
        · exact absurd hk (hk1 s b e (by omega))
        · exact h
      obtain ⟨q1, q2, q3⟩ := half_bounds hn (by omega)
      obtain ⟨r1, r2⟩ := half_le hn (by omega) hf
      obtain ⟨p1, p2⟩ := hP f b e s hPs hk hn hf he
      rw [ovF_none hk]
      have i1 := fun w => ih b (b + half (e - b)) (kn s b e).2 w (by omega) (by omega) (by omega) p1
      have i2 := fun w => ih (b + half (e - b)) e (ovF size kn f b (b + half (e - b)) (kn s b e).2).2 w (by omega) (by omega) he p2
      clear p1 p2
      generalize ovF size kn f b (b + half (e - b)) (kn s b e).2 = A at *
      generalize ovF size kn f (b + half (e - b)) e A.2 = B at *
      refine over_fork size K caps eg g b e (b + half (e - b)) A.1 B.1 (pairF size A.1 B.1) w (fun w' => Only g w w' ∧ R (kn s b e).2 w') (fun w' => Only g w w' ∧ R A.2 w') (fun w' => Only g w w' ∧ R B.2 w') _ ?_ (fun w => split_any b e w hn (by omega)) ?_ ?_ ?_
      · refine (hK (f + 1) s b e w hPs hRs hbe he).mono ?_
        rintro x w' ⟨ho, hR', h | ⟨l', p, c, h1, h2, h3⟩⟩
        · exact ⟨h.2, ho, hR'⟩
        · rw [hk] at h1; cases h1
      · rintro w1 ⟨o1, R1⟩
        refine (i1 w1 R1).mono ?_
        rintro x w' ⟨p, c, h1, h2, h3, h4⟩
        exact ⟨p, c, h1, h2, o1.trans h3, h4⟩
      · rintro w1 ⟨o1, R1⟩
        refine (i2 w1 R1).mono ?_
        rintro x w' ⟨p, c, h1, h2, h3, h4⟩
        exact ⟨p, c, h1, h2, h3, o1.trans h3, h4⟩
      · rintro w1 v ⟨o1, R1⟩ hp
        have hbe1 := (Below.refl w1.heap.size w1).alloc (Nat.le_refl _) (.cells v 25)
        have R2 := hR _ _ _ R1 hbe1
        refine (hash_toT size 4 _ [A.1, B.1] _ (by simp) (by decide) hp (hT _ _ R2)).mono ?_
        rintro x w' ⟨p, c, h1, h2, h3, h4⟩
        obtain ⟨cs, t, fr, hg, hne⟩ := hG _ _ R1
        have hglt : g < w1.heap.size := (Array.getElem?_eq_some_iff.1 hg).1
        have hb2 := hbe1.trans (h3.mono hbe1.size)
        have R3 := hR _ _ _ R1 hb2
        obtain ⟨cs', t', fr', hg', hne'⟩ := hG _ _ R3
        exact ⟨p, c, h1, HBG.typed h2 h4 hg' hne', o1.trans (Only.of_below hb2 (by omega)), R3⟩

end Go.Proofs.YtichffdkihifpaaDoor
