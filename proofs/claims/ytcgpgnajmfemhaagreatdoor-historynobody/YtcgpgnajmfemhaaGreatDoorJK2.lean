/- What this text proves: the walk of merkle.over over this program: the root of a part of a tree, of which a function tells what is known. What this text proves: the walk of merkle.Root over this program: the root over any digests. What this text holds: plain facts about the root over digests: by halves; how long it is (no program). What this text holds: a row of rows of bytes that the call owns, each in a block of bytes (plain facts): it stays, it grows, it is read. What this text proves: a law for a walk: a call of a Go function of two arguments at a step of a region that draws, met by its contract (any program). What this text proves: the walk of merkle.Range over this program: the roots of the parts outside a range, from left to right. What this text proves: the walk of the statements' few (annalslaw11) over this program: the first forty digests. -/
import Derived.Test.YtcgpgnajmfemhaaGreatDoorJK1
import Derived.Test.YtcgpgnajmfemhaaGreatDoorJQ9
import Derived.Test.YtcgpgnajmfemhaaGreatDoorJQ2
import Derived.Test.YtcgpgnajmfemhaaGreatDoorJQ7
import Derived.Test.YtcgpgnajmfemhaaGreatDoorJQ6
import Derived.Test.YtcgpgnajmfemhaaGreatDoorJOw
import Derived.Deep.RegionLaw
import Derived.Deep.AppendLies
namespace Go.Proofs.YtcgpgnajmfemhaaGreatDoor
open Go.RowKit

/-- Bytes that don't lie in block g. -/
def HBG (w : World) (g : Nat) (v : Value) (l : List UInt8) : Prop := HB w v l ∧ ∀ b o n c, l ≠ [] → v = .slice (some ⟨b, o, none⟩) n c → b ≠ g

theorem HBG.only {w w' : World} {g : Nat} {v : Value} {l : List UInt8} (h : HBG w g v l) (ho : Only g w w') : HBG w' g v l := by
  refine ⟨?_, h.2⟩
  obtain ⟨p, cap, e, h1, h2, h3, h4⟩ := h.1
  refine ⟨p, cap, e, h1, h2, h3, fun hne => ?_⟩
  obtain ⟨b, o, e1, e2⟩ := h4 hne
  refine ⟨b, o, e1, fun i x hx => ?_⟩
  have hc := e2 i x hx
  have hb : b ≠ g := h.2 b o l.length cap hne (by rw [e, e1])
  rw [World.cell?_of_block (w := w) (ho.block b hb (cell_lt hc))]
  exact hc

theorem HBG.old {w : World} {g : Nat} {v : Value} {l : List UInt8} (h : HB w v l) (hg : w.heap.size ≤ g) : HBG w g v l := by
  refine ⟨h, fun b o n c hne e => ?_⟩
  obtain ⟨p, cap, e0, h1, h2, h3, h4⟩ := h
  obtain ⟨b', o', e1, e2⟩ := h4 hne
  rw [e0, e1] at e
  simp only [Value.slice.injEq, Option.some.injEq, Addr.mk.injEq, and_true] at e
  obtain ⟨⟨rfl, rfl⟩, _, _⟩ := e
  obtain ⟨x, r, rfl⟩ := List.exists_cons_of_ne_nil hne
  have := cell_lt (e2 0 x rfl)
  omega

theorem HBG.typed {w : World} {g : Nat} {v : Value} {l : List UInt8} {cs : Array Value} {t : TypeId} {fr : Nat × Nat} (h : HB w v l) (ht : TB w v) (hg : w.heap[g]? = some (.cells cs t fr)) (hne : t ≠ 5) : HBG w g v l := by
  refine ⟨h, fun b o n c _ e hb => ?_⟩
  obtain ⟨cur, fr', hc⟩ := ht b o n c e
  subst hb
  rw [hg] at hc
  simp only [Option.some.injEq, Obj.cells.injEq] at hc
  exact hne hc.2.1

theorem PA.two (w : World) (a b : Value) (la lb : List UInt8) (ha : HB w a la) (hb : HB w b lb) : PA (w.alloc (.cells #[a, b] 37)) (.slice (some ⟨w.heap.size, 0, none⟩) 2 2) [la, lb] := by
  refine ⟨_, 2, [a, b], rfl, Nat.le_refl _, by decide, (fun h => by cases h), rfl, fun _ => ⟨_, 0, rfl, fun i x hx => ?_⟩, fun i x l hx hl => ?_⟩
  · rw [Nat.zero_add, cell_of_row _ _ i _ _ _ (heap_alloc_new w _)]
    simpa using hx
  · have hbe := (Below.refl w.heap.size w).alloc (Nat.le_refl _) (.cells #[a, b] 37)
    match i with
    | 0 => simp at hx hl; subst hx; subst hl; exact ha.later hbe
    | 1 => simp at hx hl; subst hx; subst hl; exact hb.later hbe
    | n + 2 => simp at hx

/-- The hash of two. -/
def pairF (size : Int) (a b : List UInt8) : List UInt8 := hashF size 4 [a, b]

/-- The root of a part, and the state behind: kn tells what is known. -/
def ovF (size : Int) (kn : Nat → Nat → Nat → Option (List UInt8) × Nat) : Nat → Nat → Nat → Nat → List UInt8 × Nat
  | 0, b, e, s => ((kn s b e).1.getD [], (kn s b e).2)
  | f + 1, b, e, s =>
    match (kn s b e).1 with
    | some l => (l, (kn s b e).2)
    | none => (pairF size (ovF size kn f b (b + half (e - b)) (kn s b e).2).1 (ovF size kn f (b + half (e - b)) e (ovF size kn f b (b + half (e - b)) (kn s b e).2).2).1, (ovF size kn f (b + half (e - b)) e (ovF size kn f b (b + half (e - b)) (kn s b e).2).2).2)

theorem ovF_some {size : Int} {kn : Nat → Nat → Nat → Option (List UInt8) × Nat} {f b e s : Nat} {l : List UInt8} (h : (kn s b e).1 = some l) : ovF size kn f b e s = (l, (kn s b e).2) := by
  cases f <;> simp [ovF, h]

theorem ovF_none {size : Int} {kn : Nat → Nat → Nat → Option (List UInt8) × Nat} {f b e s : Nat} (h : (kn s b e).1 = none) :
    ovF size kn (f + 1) b e s = (pairF size (ovF size kn f b (b + half (e - b)) (kn s b e).2).1 (ovF size kn f (b + half (e - b)) e (ovF size kn f b (b + half (e - b)) (kn s b e).2).2).1, (ovF size kn f (b + half (e - b)) e (ovF size kn f b (b + half (e - b)) (kn s b e).2).2).2) := by
  simp only [ovF, h]

set_option maxRecDepth 100000 in
set_option maxHeartbeats 1000000 in
theorem over_known (size : Int) (K : Nat) (caps : Array Value) (eg : ∀ args w, (callFunc K args).run Tryz.prog w = .ok (.enter K args) w) (b e : Nat) (L : List UInt8) (w : World) (R : Value → World → Prop)
    (hK : Calls Tryz.prog K (#[.int .i64 (b : Int), .int .i64 (e : Int)] ++ caps) w fun x w' => ∃ p c, x = .returned (.tuple #[.slice p L.length c, .bool true]) ∧ R (.slice p L.length c) w') :
    Calls Tryz.prog 118 #[.int .i64 size, .int .i64 (b : Int), .int .i64 (e : Int), .func (.func K) #[] caps] w fun x w' => ∃ p c, x = .returned (.slice p L.length c) ∧ R (.slice p L.length c) w' := by
  generalize L.length = n at *
  go_enter Tryz.func118, Tryz.ntmps118
  go_wp2_with fail
  refine hK.mono ?_
  rintro x w1 ⟨p, c, rfl, hR⟩
  clear hK
  go_wp2
  go_ret
  exact ⟨p, c, rfl, hR⟩

set_option maxRecDepth 100000 in
set_option maxHeartbeats 1000000 in
theorem over_fork (size : Int) (K : Nat) (caps : Array Value) (eg : ∀ args w, (callFunc K args).run Tryz.prog w = .ok (.enter K args) w) (g b e m : Nat) (LA LB LC : List UInt8) (w : World) (Q0 Q1 Q2 Q3 : World → Prop)
    (hK : Calls Tryz.prog K (#[.int .i64 (b : Int), .int .i64 (e : Int)] ++ caps) w fun x w' => x = .returned (.tuple #[.slice none 0 0, .bool false]) ∧ Q0 w')
    (hm : ∀ w, Calls Tryz.prog 161 #[.int .i64 (b : Int), .int .i64 (e : Int)] w fun x w' => x = .returned (.int .i64 (m : Int)) ∧ w' = w)
    (hl : ∀ w, Q0 w → Calls Tryz.prog 118 #[.int .i64 size, .int .i64 (b : Int), .int .i64 (m : Int), .func (.func K) #[] caps] w fun x w' => ∃ p c, x = .returned (.slice p LA.length c) ∧ HBG w' g (.slice p LA.length c) LA ∧ Q1 w')
    (hr : ∀ w, Q1 w → Calls Tryz.prog 118 #[.int .i64 size, .int .i64 (m : Int), .int .i64 (e : Int), .func (.func K) #[] caps] w fun x w' => ∃ p c, x = .returned (.slice p LB.length c) ∧ HBG w' g (.slice p LB.length c) LB ∧ Only g w w' ∧ Q2 w')
    (hh : ∀ w v, Q2 w → PA (w.alloc (.cells v 37)) (.slice (some ⟨w.heap.size, 0, none⟩) 2 2) [LA, LB] → Calls Tryz.prog 59 #[.int .i64 size, .int .i64 4, .slice (some ⟨w.heap.size, 0, none⟩) 2 2] (w.alloc (.cells v 37)) fun x w' => ∃ p c, x = .returned (.slice p LC.length c) ∧ HBG w' g (.slice p LC.length c) LC ∧ Q3 w') :
    Calls Tryz.prog 118 #[.int .i64 size, .int .i64 (b : Int), .int .i64 (e : Int), .func (.func K) #[] caps] w fun x w' => ∃ p c, x = .returned (.slice p LC.length c) ∧ HBG w' g (.slice p LC.length c) LC ∧ Q3 w' := by
  go_enter Tryz.func118, Tryz.ntmps118
  go_wp2_with fail
  refine hK.mono ?_
  rintro x w1 ⟨rfl, hQ⟩
  clear hK
  go_wp2_with fail
  refine (hm _).mono ?_
  rintro x w2 ⟨rfl, hw⟩
  subst hw
  clear hm
  go_wp2_with fail
  refine (hl _ hQ).mono ?_
  rintro x w3 ⟨p3, c3, rfl, k3, hQ1⟩
  clear hl hQ
  go_wp2_with fail
  refine (hr _ hQ1).mono ?_
  rintro x w4 ⟨p4, c4, rfl, k4, ho, hQ2⟩
  have k3' := (k3.only ho).1
  have k4' := k4.1
  clear hr hQ1 k3 k4 ho
  have hp := PA.two w4 _ _ _ _ k3' k4'
  clear k3' k4'
  have hh' := hh w4 _ hQ2 hp
  clear hh hp hQ2
  generalize LA.length = na at *
  generalize LB.length = nb at *
  go_wp2_with fail
  refine hh'.mono ?_
  rintro x w5 ⟨p5, c5, rfl, k5, hQ3⟩
  clear hh'
  go_wp2
  go_ret
  exact ⟨p5, c5, rfl, k5, hQ3⟩

theorem over_any (size : Int) (K : Nat) (caps : Array Value) (eg : ∀ args w, (callFunc K args).run Tryz.prog w = .ok (.enter K args) w) (g N : Nat) (R : Nat → World → Prop) (kn : Nat → Nat → Nat → Option (List UInt8) × Nat) (P : Nat → Nat → Nat → Nat → Prop) (hN : N ≤ 2305843009213693952)
    (hP : ∀ f b e s, P (f + 1) b e s → (kn s b e).1 = none → 2 ≤ e - b → e - b ≤ 2 ^ (f + 1) → e ≤ N → P f b (b + half (e - b)) (kn s b e).2 ∧ P f (b + half (e - b)) e (ovF size kn f b (b + half (e - b)) (kn s b e).2).2)
    (hR : ∀ s w w', R s w → Below w.heap.size w w' → R s w') (hT : ∀ s w, R s w → Tabs w) (hG : ∀ s w, R s w → ∃ cs t fr, w.heap[g]? = some (.cells cs t fr) ∧ t ≠ 5)
    (hk1 : ∀ s b e, e ≤ b + 1 → (kn s b e).1 ≠ none)
    (hK : ∀ f s b e w, P f b e s → R s w → b < e → e ≤ N → Calls Tryz.prog K (#[.int .i64 (b : Int), .int .i64 (e : Int)] ++ caps) w fun x w' => Only g w w' ∧ R (kn s b e).2 w' ∧ ((kn s b e).1 = none ∧ x = .returned (.tuple #[.slice none 0 0, .bool false]) ∨ ∃ l p c, (kn s b e).1 = some l ∧ x = .returned (.tuple #[.slice p l.length c, .bool true]) ∧ HBG w' g (.slice p l.length c) l)) :
    ∀ (f b e s : Nat) (w : World), b < e → e - b ≤ 2 ^ f → e ≤ N → P f b e s → R s w →
    Calls Tryz.prog 118 #[.int .i64 size, .int .i64 (b : Int), .int .i64 (e : Int), .func (.func K) #[] caps] w fun x w' => ∃ p c, x = .returned (.slice p (ovF size kn f b e s).1.length c) ∧ HBG w' g (.slice p (ovF size kn f b e s).1.length c) (ovF size kn f b e s).1 ∧ Only g w w' ∧ R (ovF size kn f b e s).2 w' := by
  have known : ∀ (f b e s : Nat) (w : World) (l : List UInt8), (kn s b e).1 = some l → b < e → e ≤ N → P f b e s → R s w →
    Calls Tryz.prog 118 #[.int .i64 size, .int .i64 (b : Int), .int .i64 (e : Int), .func (.func K) #[] caps] w fun x w' => ∃ p c, x = .returned (.slice p (ovF size kn f b e s).1.length c) ∧ HBG w' g (.slice p (ovF size kn f b e s).1.length c) (ovF size kn f b e s).1 ∧ Only g w w' ∧ R (ovF size kn f b e s).2 w' := by
    intro f b e s w l hl hbe he hPs hRs
    rw [ovF_some hl]
    refine over_known size K caps eg b e l w (fun v w' => HBG w' g v l ∧ Only g w w' ∧ R (kn s b e).2 w') ((hK f s b e w hPs hRs hbe he).mono ?_)
    rintro x w' ⟨ho, hR', h | ⟨l', p, c, h1, h2, h3⟩⟩
    · rw [hl] at h; cases h.1
    · rw [hl] at h1
      cases h1
      exact ⟨p, c, h2, h3, ho, hR'⟩
  intro f
  induction f with
  | zero =>
    intro b e s w hbe hf he hPs hRs
    simp at hf
    obtain ⟨l, hl⟩ := Option.ne_none_iff_exists'.1 (hk1 s b e (by omega))
    exact known 0 b e s w l hl hbe he hPs hRs
  | succ f ih =>
    intro b e s w hbe hf he hPs hRs
    cases hk : (kn s b e).1 with
    | some l => exact known (f + 1) b e s w l hk hbe he hPs hRs
    | none =>
      have hn : 2 ≤ e - b := by
        rcases Nat.lt_or_ge (e - b) 2 with h | h
        · exact absurd hk (hk1 s b e (by omega))
        · exact h
      obtain ⟨q1, q2, q3⟩ := half_bounds hn (by omega)
      obtain ⟨r1, r2⟩ := half_le hn (by omega) hf
      obtain ⟨p1, p2⟩ := hP f b e s hPs hk hn hf he
      rw [ovF_none hk]
      have i1 := fun w => ih b (b + half (e - b)) (kn s b e).2 w (by omega) (by omega) (by omega) p1
      have i2 := fun w => ih (b + half (e - b)) e (ovF size kn f b (b + half (e - b)) (kn s b e).2).2 w (by omega) (by omega) he p2
      clear p1 p2
      generalize ovF size kn f b (b + half (e - b)) (kn s b e).2 = A at *
      generalize ovF size kn f (b + half (e - b)) e A.2 = B at *
      refine over_fork size K caps eg g b e (b + half (e - b)) A.1 B.1 (pairF size A.1 B.1) w (fun w' => Only g w w' ∧ R (kn s b e).2 w') (fun w' => Only g w w' ∧ R A.2 w') (fun w' => Only g w w' ∧ R B.2 w') _ ?_ (fun w => split_any b e w hn (by omega)) ?_ ?_ ?_
      · refine (hK (f + 1) s b e w hPs hRs hbe he).mono ?_
        rintro x w' ⟨ho, hR', h | ⟨l', p, c, h1, h2, h3⟩⟩
        · exact ⟨h.2, ho, hR'⟩
        · rw [hk] at h1; cases h1
      · rintro w1 ⟨o1, R1⟩
        refine (i1 w1 R1).mono ?_
        rintro x w' ⟨p, c, h1, h2, h3, h4⟩
        exact ⟨p, c, h1, h2, o1.trans h3, h4⟩
      · rintro w1 ⟨o1, R1⟩
        refine (i2 w1 R1).mono ?_
        rintro x w' ⟨p, c, h1, h2, h3, h4⟩
        exact ⟨p, c, h1, h2, h3, o1.trans h3, h4⟩
      · rintro w1 v ⟨o1, R1⟩ hp
        have hbe1 := (Below.refl w1.heap.size w1).alloc (Nat.le_refl _) (.cells v 37)
        have R2 := hR _ _ _ R1 hbe1
        refine (hash_toT size 4 _ [A.1, B.1] _ (by simp) (by decide) hp (hT _ _ R2)).mono ?_
        rintro x w' ⟨p, c, h1, h2, h3, h4⟩
        obtain ⟨cs, t, fr, hg, hne⟩ := hG _ _ R1
        have hglt : g < w1.heap.size := (Array.getElem?_eq_some_iff.1 hg).1
        have hb2 := hbe1.trans (h3.mono hbe1.size)
        have R3 := hR _ _ _ R1 hb2
        obtain ⟨cs', t', fr', hg', hne'⟩ := hG _ _ R3
        exact ⟨p, c, h1, HBG.typed h2 h4 hg' hne', o1.trans (Only.of_below hb2 (by omega)), R3⟩

end Go.Proofs.YtcgpgnajmfemhaaGreatDoor

namespace Go.Proofs.YtcgpgnajmfemhaaGreatDoor
open Go.RowKit

/-- What is known of digests: each one. -/
def knR (ls : List (List UInt8)) (s b e : Nat) : Option (List UInt8) × Nat := (if b + 1 < e then none else some (ls.getD b []), s)

/-- The root over digests. -/
def rootF (size : Int) (ls : List (List UInt8)) : List UInt8 := if ls = [] then hashF size 0 [] else (ovF size (knR ls) 47 0 ls.length 0).1

/-- The box of the digests. -/
def RBK (w0 : World) (lv : Value) (_ : Nat) (w : World) : Prop := Tabs w ∧ w.heap[w0.heap.size]? = some (.cells #[lv] 38 (0, 0)) ∧ Below w0.heap.size w0 w

theorem RBK.later {w0 : World} {lv : Value} {s : Nat} {w w' : World} (h : RBK w0 lv s w) (hb : Below w.heap.size w w') : RBK w0 lv s w' := by
  have hlt : w0.heap.size < w.heap.size := (Array.getElem?_eq_some_iff.1 h.2.1).1
  refine ⟨h.1.later hb, ?_, h.2.2.trans (hb.mono (by omega))⟩
  rw [hb.block _ hlt]
  exact h.2.1

theorem eg_rootF : ∀ args w, (callFunc 119 args).run Tryz.prog w = .ok (.enter 119 args) w := by intro args w; go_simp

theorem getD_of {ls : List (List UInt8)} {i : Nat} {l : List UInt8} (h : Hid (ls[i]? = some l)) : ls.getD i [] = l := by
  have h' := h.out
  rw [List.getD_eq_getElem?_getD, h', Option.getD_some]

theorem PA.le {w : World} {v : Value} {ls : List (List UInt8)} (h : PA w v ls) : ls.length ≤ maxLen := by
  obtain ⟨p, c, rfl⟩ := h.shape
  have := h.len
  omega

set_option maxRecDepth 100000 in
set_option maxHeartbeats 1000000 in
theorem rootF_walk (w0 : World) (lv : Value) (ls : List (List UInt8)) (s b e : Nat) (w : World) (hp : PA w0 lv ls) (h : RBK w0 lv s w) (hbe : b < e) (he : e ≤ ls.length) :
    Calls Tryz.prog 119 (#[.int .i64 (b : Int), .int .i64 (e : Int)] ++ #[.pointer (some ⟨w0.heap.size, 0, none⟩)]) w fun x w' => Only w0.heap.size w w' ∧ RBK w0 lv (knR ls s b e).2 w' ∧ ((knR ls s b e).1 = none ∧ x = .returned (.tuple #[.slice none 0 0, .bool false]) ∨ ∃ l p c, (knR ls s b e).1 = some l ∧ x = .returned (.tuple #[.slice p l.length c, .bool true]) ∧ HBG w' w0.heap.size (.slice p l.length c) l) := by
  show Calls Tryz.prog 119 #[.int .i64 (b : Int), .int .i64 (e : Int), .pointer (some ⟨w0.heap.size, 0, none⟩)] w _
  have hmx := hp.le
  unfold maxLen at hmx
  by_cases hc : b + 1 < e
  · have h1 : knR ls s b e = (none, s) := by simp [knR, hc]
    rw [h1]
    have d1 : (1 : Int) < (e : Int) - (b : Int) := by omega
    have H : Hid (RBK w0 lv s w) := h
    clear h hp h1
    go_enter Tryz.func119, Tryz.ntmps119
    go_wp2
    go_ret2
    exact ⟨Only.refl _ _, H.out, .inl ⟨by first | trivial | rfl, rfl⟩⟩
  · have h1 : knR ls s b e = (some (ls.getD b []), s) := by simp [knR, hc]
    rw [h1]
    obtain rfl : e = b + 1 := by omega
    have c0 : w.cell? ⟨w0.heap.size, 0, none⟩ = some lv := by rw [cell_of_row w _ _ _ _ _ h.2.1]; rfl
    obtain ⟨p, c, hv⟩ := hp.shape
    subst hv
    obtain ⟨bl, o, rfl⟩ := hp.addr (by omega)
    obtain ⟨q, k, l, hl, hc1, hh⟩ := hp.get b (by omega)
    have hG : HBG w w0.heap.size (.slice q l.length k) l := by
      have := HBG.old hh (Nat.le_refl _)
      exact ⟨hh.later h.2.2, this.2⟩
    have c1 := cell_later h.2.2 hc1
    rw [getD_of hl]
    have H : Hid (RBK w0 (.slice (some ⟨bl, o, none⟩) ls.length c) s w) := h
    have HG : Hid (HBG w w0.heap.size (.slice q l.length k) l) := hG
    have d1 : (((b + 1 : Nat) : Int) - (b : Int)) = 1 := by omega
    have hlt : (b : Int) < (ls.length : Int) := by omega
    clear h hp h1 hc hG hh hl hc1 hbe
    go_enter Tryz.func119, Tryz.ntmps119
    go_wp2
    go_ret2
    exact ⟨Only.refl _ _, H.out, .inr ⟨l, q, k, rfl, rfl, HG.out⟩⟩

set_option maxRecDepth 100000 in
set_option maxHeartbeats 1000000 in
theorem root_none (size : Int) (v : Value) (w : World) (hp : PA w v []) (hT : Tabs w) :
    Calls Tryz.prog 75 #[.int .i64 size, v] w fun x w' => ∃ p c, x = .returned (.slice p (rootF size []).length c) ∧ HB w' (.slice p (rootF size []).length c) (rootF size []) ∧ Below w.heap.size w w' ∧ TB w' (.slice p (rootF size []).length c) := by
  obtain ⟨p, c, rfl⟩ := hp.shape
  have hb0 := (Below.refl w.heap.size w).alloc (Nat.le_refl _) (.cells #[.slice p 0 c] 38)
  have hH := hash_toT size 0 (.slice none 0 0) [] (w.alloc (.cells #[.slice p 0 c] 38)) (by simp) (by decide) (PA.nil _) (hT.later hb0)
  have hR : rootF size [] = hashF size 0 [] := by simp [rootF]
  rw [hR]
  generalize hashF size 0 [] = F at *
  have HB0 : Hid (Below w.heap.size w (w.alloc (.cells #[.slice p 0 c] 38))) := hb0
  clear hp hT hR hb0
  simp only [List.length_nil, Int.natCast_zero] at *
  go_enter Tryz.func75, Tryz.ntmps75
  go_wp2_with fail
  refine hH.mono ?_
  rintro x w1 ⟨p1, c1, rfl, k1, hb1, t1⟩
  clear hH
  have hb : Below w.heap.size w w1 := HB0.out.trans (hb1.mono HB0.out.size)
  clear HB0 hb1
  go_wp2
  go_ret
  exact ⟨p1, c1, rfl, k1, hb, t1⟩

theorem knR_one (ls : List (List UInt8)) (s b e : Nat) (h : e ≤ b + 1) : (knR ls s b e).1 ≠ none := by
  unfold knR
  rw [if_neg (by omega)]
  simp

theorem root_over (size : Int) (lv : Value) (ls : List (List UInt8)) (w0 w : World) (hp : PA w0 lv ls) (hn : ls ≠ []) (hbig : ls.length ≤ 140737488355328) (h : RBK w0 lv 0 w) :
    Calls Tryz.prog 118 #[.int .i64 size, .int .i64 0, .int .i64 (ls.length : Int), .func (.func 119) #[] #[.pointer (some ⟨w0.heap.size, 0, none⟩)]] w fun x w' => ∃ p c, x = .returned (.slice p (rootF size ls).length c) ∧ HB w' (.slice p (rootF size ls).length c) (rootF size ls) ∧ Below w0.heap.size w0 w' := by
  have h0 : 0 < ls.length := List.length_pos_iff.2 hn
  have := over_any size 119 #[.pointer (some ⟨w0.heap.size, 0, none⟩)] eg_rootF w0.heap.size ls.length (RBK w0 lv) (knR ls) (fun _ _ _ _ => True) (by omega) (fun _ _ _ _ _ _ _ _ _ => ⟨trivial, trivial⟩) (fun s w w' hr hb => hr.later hb) (fun s w hr => hr.1) (fun s w hr => ⟨_, _, _, hr.2.1, by decide⟩) (knR_one ls)
    (fun _ s b e w _ hr hbe he => rootF_walk w0 lv ls s b e w hp hr hbe he) 47 0 ls.length 0 w h0 (by omega) (Nat.le_refl _) trivial h
  have e : rootF size ls = (ovF size (knR ls) 47 0 ls.length 0).1 := by simp [rootF, hn]
  rw [e]
  refine this.mono ?_
  rintro x w' ⟨p, c, h1, h2, h3, h4⟩
  exact ⟨p, c, h1, h2.1, h4.2.2⟩

set_option maxRecDepth 100000 in
set_option maxHeartbeats 1000000 in
theorem root_some (size : Int) (v : Value) (ls : List (List UInt8)) (w : World) (hp : PA w v ls) (hT : Tabs w) (hn : ls ≠ []) (hbig : ls.length ≤ 140737488355328) (hlen : (rootF size ls).length ≤ 140737488355328) :
    Calls Tryz.prog 75 #[.int .i64 size, v] w fun x w' => ∃ p c, x = .returned (.slice p (rootF size ls).length c) ∧ HB w' (.slice p (rootF size ls).length c) (rootF size ls) ∧ Below w.heap.size w w' ∧ TB w' (.slice p (rootF size ls).length c) := by
  obtain ⟨p, c, rfl⟩ := hp.shape
  have hb0 := (Below.refl w.heap.size w).alloc (Nat.le_refl _) (.cells #[.slice p ls.length c] 38)
  have HR : Hid (RBK w (.slice p ls.length c) 0 (w.alloc (.cells #[.slice p ls.length c] 38))) := ⟨hT.later hb0, heap_alloc_new w _, hb0⟩
  have hO := root_over size (.slice p ls.length c) ls w _ hp hn hbig HR.out
  have h0 : 0 < ls.length := List.length_pos_iff.2 hn
  have d0 : ((ls.length : Int) == 0) = false := by simp; omega
  clear hp hT hb0 HR hn
  generalize rootF size ls = F at *
  go_enter Tryz.func75, Tryz.ntmps75
  go_wp2_with fail
  refine hO.mono ?_
  rintro x w1 ⟨p1, c1, rfl, k1, hb1⟩
  clear hO
  have hC := clone_own (.slice p1 F.length c1) F w1 k1 hlen
  clear k1
  go_wp2_with fail
  refine hC.mono ?_
  rintro x w2 ⟨p2, c2, rfl, o2, hb2⟩
  have k2 := HB.of_owns o2
  have t2 := TB.of_owns o2
  clear o2
  have hb : Below w.heap.size w w2 := hb1.trans (hb2.mono hb1.size)
  clear hb1 hb2 hC
  go_wp2
  go_ret
  exact ⟨p2, c2, rfl, k2, hb, t2⟩

theorem root_any (size : Int) (v : Value) (ls : List (List UInt8)) (w : World) (hp : PA w v ls) (hT : Tabs w) (hbig : ls.length ≤ 140737488355328) (hlen : (rootF size ls).length ≤ 140737488355328) :
    Calls Tryz.prog 75 #[.int .i64 size, v] w fun x w' => ∃ p c, x = .returned (.slice p (rootF size ls).length c) ∧ HB w' (.slice p (rootF size ls).length c) (rootF size ls) ∧ Below w.heap.size w w' ∧ TB w' (.slice p (rootF size ls).length c) := by
  by_cases h : ls = []
  · subst h
    exact root_none size v w hp hT
  · exact root_some size v ls w hp hT h hbig hlen

end Go.Proofs.YtcgpgnajmfemhaaGreatDoor

namespace Go.Proofs.YtcgpgnajmfemhaaGreatDoor
open Go.RowKit

/-- The root over one digest or more, by halves. -/
def rtF (size : Int) : Nat → List (List UInt8) → List UInt8
  | 0, ls => ls.headD []
  | f + 1, ls => if ls.length ≤ 1 then ls.headD [] else pairF size (rtF size f (ls.take (half ls.length))) (rtF size f (ls.drop (half ls.length)))

theorem rtF_one (size : Int) (f : Nat) {ls : List (List UInt8)} (h : ls.length ≤ 1) : rtF size f ls = ls.headD [] := by cases f <;> simp [rtF, h]
theorem rtF_more (size : Int) (f : Nat) {ls : List (List UInt8)} (h : 2 ≤ ls.length) : rtF size (f + 1) ls = pairF size (rtF size f (ls.take (half ls.length))) (rtF size f (ls.drop (half ls.length))) := by
  simp only [rtF]
  rw [if_neg (by omega)]

/-- The digests from b on up to e. -/
def seg (ls : List (List UInt8)) (b e : Nat) : List (List UInt8) := (ls.drop b).take (e - b)
theorem seg_length {ls : List (List UInt8)} {b e : Nat} (he : e ≤ ls.length) : (seg ls b e).length = e - b := by simp [seg]; omega
theorem seg_take {ls : List (List UInt8)} {b e k : Nat} (hk : k ≤ e - b) : (seg ls b e).take k = seg ls b (b + k) := by
  unfold seg
  rw [List.take_take, show min k (e - b) = b + k - b by omega]
theorem seg_drop {ls : List (List UInt8)} {b e k : Nat} : (seg ls b e).drop k = seg ls (b + k) e := by
  unfold seg
  rw [List.drop_take, List.drop_drop, show e - (b + k) = e - b - k by omega]
theorem seg_head {ls : List (List UInt8)} {b e : Nat} (h : b < e) : (seg ls b e).headD [] = ls.getD b [] := by
  unfold seg
  rw [List.headD_eq_head?_getD, List.head?_take, if_neg (by omega), List.head?_drop, List.getD_eq_getElem?_getD]
theorem seg_all {ls : List (List UInt8)} : seg ls 0 ls.length = ls := by simp [seg]

theorem rtF_fuel (size : Int) : ∀ (f g : Nat) (ls : List (List UInt8)), ls.length ≤ 2 ^ f → ls.length ≤ 2 ^ g → ls.length ≤ 4611686018427387904 → rtF size f ls = rtF size g ls := by
  intro f
  induction f with
  | zero => intro g ls h1 h2 _; simp at h1; rw [rtF_one size 0 h1, rtF_one size g h1]
  | succ f ih =>
    intro g ls h1 h2 h3
    by_cases hc : ls.length ≤ 1
    · rw [rtF_one size _ hc, rtF_one size g hc]
    · cases g with
      | zero => simp at h2; omega
      | succ g =>
        have hn : 2 ≤ ls.length := by omega
        obtain ⟨q1, q2, q3⟩ := half_bounds hn h3
        obtain ⟨r1, r2⟩ := half_le hn h3 h1
        obtain ⟨t1, t2⟩ := half_le hn h3 h2
        rw [rtF_more size f hn, rtF_more size g hn, ih g _ (by simp; omega) (by simp; omega) (by simp; omega), ih g (ls.drop _) (by simp; omega) (by simp; omega) (by simp; omega)]

theorem ovF_root (size : Int) (ls : List (List UInt8)) (hb : ls.length ≤ 4611686018427387904) : ∀ (f b e s : Nat), b < e → e ≤ ls.length → e - b ≤ 2 ^ f → ovF size (knR ls) f b e s = (rtF size f (seg ls b e), s) := by
  intro f
  induction f with
  | zero =>
    intro b e s h1 h2 h3
    simp at h3
    rw [ovF_some (l := ls.getD b []) (by simp [knR]; omega), rtF_one size 0 (by rw [seg_length h2]; omega), seg_head h1]
    simp [knR]
  | succ f ih =>
    intro b e s h1 h2 h3
    by_cases hc : b + 1 < e
    · have hn : 2 ≤ e - b := by omega
      obtain ⟨q1, q2, q3⟩ := half_bounds hn (by omega)
      obtain ⟨r1, r2⟩ := half_le hn (by omega) h3
      have hs : (knR ls s b e).2 = s := rfl
      rw [ovF_none (by simp [knR, hc]), hs, ih b _ s (by omega) (by omega) (by omega), ih _ e s (by omega) h2 (by omega)]
      rw [rtF_more size f (by rw [seg_length h2]; exact hn), seg_length h2, seg_take (by omega), seg_drop]
    · rw [ovF_some (l := ls.getD b []) (by simp [knR]; omega), rtF_one size _ (by rw [seg_length h2]; omega), seg_head h1]
      simp [knR]

theorem rootF_rt (size : Int) (f : Nat) (ls : List (List UInt8)) (hn : ls ≠ []) (hb : ls.length ≤ 140737488355328) (hf : ls.length ≤ 2 ^ f) : rootF size ls = rtF size f ls := by
  have h0 : 0 < ls.length := List.length_pos_iff.2 hn
  unfold rootF
  rw [if_neg hn, ovF_root size ls (by omega) 47 0 ls.length 0 h0 (Nat.le_refl _) (by omega), seg_all]
  exact rtF_fuel size 47 f ls (by omega) hf (by omega)

theorem hashF_le32 (size : Int) (tag : Nat) (ls : List (List UInt8)) : (hashF size tag ls).length ≤ 32 := by
  unfold hashF
  have := cutLen_le size
  split
  · rw [List.length_take]; omega
  · simp

theorem rtF_len (size : Int) (M : Nat) (hM : 32 ≤ M) : ∀ (f : Nat) (ls : List (List UInt8)), (∀ l ∈ ls, l.length ≤ M) → (rtF size f ls).length ≤ M := by
  have one : ∀ ls : List (List UInt8), (∀ l ∈ ls, l.length ≤ M) → (ls.headD []).length ≤ M := by
    intro ls h
    cases ls with
    | nil => simp
    | cons x r => exact h x (by simp)
  intro f
  induction f with
  | zero => intro ls h; exact one ls h
  | succ f ih =>
    intro ls h
    by_cases hc : ls.length ≤ 1
    · rw [rtF_one size _ hc]; exact one ls h
    · rw [rtF_more size f (by omega)]
      exact Nat.le_trans (hashF_le32 _ _ _) hM

theorem rootF_len (size : Int) (M : Nat) (hM : 32 ≤ M) (ls : List (List UInt8)) (hb : ls.length ≤ 140737488355328) (h : ∀ l ∈ ls, l.length ≤ M) : (rootF size ls).length ≤ M := by
  by_cases hn : ls = []
  · subst hn
    unfold rootF
    rw [if_pos rfl]
    exact Nat.le_trans (hashF_le32 _ _ _) hM
  · rw [rootF_rt size 47 ls hn hb (by omega)]
    exact rtF_len size M hM 47 ls h

theorem seg_mem {ls : List (List UInt8)} {b e : Nat} {l : List UInt8} (h : l ∈ seg ls b e) : l ∈ ls := List.mem_of_mem_drop (List.mem_of_mem_take h)

end Go.Proofs.YtcgpgnajmfemhaaGreatDoor

namespace Go.Proofs.YtcgpgnajmfemhaaGreatDoor
open Go.RowKit

/-- A row of k rows of bytes that the call owns, made by appends. -/
def RS (w : World) (base : Nat) (v : Value) (k : Nat) (sig : Nat → List UInt8) : Prop :=
  ∃ vs : List Value, w.ownsRow base 37 1 v k vs ∧ ∀ (j : Nat) u, vs[j]? = some u → HB w u (sig j) ∧ TB w u

theorem RS.later {w w' : World} {base k : Nat} {v : Value} {sig : Nat → List UInt8} (h : RS w base v k sig) (hb : Below w.heap.size w w') : RS w' base v k sig := by
  obtain ⟨vs, h1, h2⟩ := h
  exact ⟨vs, owns_later h1 hb, fun j u hu => ⟨(h2 j u hu).1.later hb, (h2 j u hu).2.later hb⟩⟩

/-- Bytes in a block of bytes stay where a row of rows grew. -/
theorem hb_grown {w w' : World} {base n : Nat} {v u : Value} {vs : List Value} {l : List UInt8} (ho : w.ownsRow base 37 1 v n vs) (hg : w.grownBy w' v.ownBlock) (h : HB w u l) (t : TB w u) : HB w' u l ∧ TB w' u := by
  have hne : ∀ b o n c, u = .slice (some ⟨b, o, none⟩) n c → some b ≠ v.ownBlock := by
    intro b o n' c e he
    obtain ⟨cur, fr, hb⟩ := t b o n' c e
    rcases ho.2 with ⟨rfl, _⟩ | ⟨g, cap, cur', rfl, _, hg', _⟩
    · simp [Value.ownBlock] at he
    · simp only [Value.ownBlock, Option.some.injEq] at he
      subst he
      rw [hb] at hg'
      simp only [Option.some.injEq, Obj.cells.injEq] at hg'
      exact absurd hg'.2.1 (by decide)
  constructor
  · obtain ⟨p, c, rfl⟩ := h.shape
    by_cases hn : l = []
    · subst hn
      have := h.len
      exact HB.empty _ p c this.2.2.1 this.2.2.2
    · obtain ⟨b, o, rfl, hc⟩ := h.addr (List.length_pos_iff.2 hn)
      have hl := h.len
      refine ⟨_, c, rfl, hl.2.1, hl.2.2.1, hl.2.2.2, fun _ => ⟨b, o, rfl, fun i x hx => hg.cell (hc i x hx) (hne b o _ _ rfl)⟩⟩
  · intro b o n' c e
    obtain ⟨cur, fr, hb⟩ := t b o n' c e
    exact ⟨cur, fr, by rw [hg.block b (Array.getElem?_eq_some_iff.1 hb).1 (hne b o n' c e)]; exact hb⟩

theorem RS.snoc {w w' : World} {base k : Nat} {v v' x : Value} {vs : List Value} {sig : Nat → List UInt8} (h1 : w.ownsRow base 37 1 v k vs) (h2 : ∀ (j : Nat) u, vs[j]? = some u → HB w u (sig j) ∧ TB w u) (hx : HB w x (sig k)) (tx : TB w x)
    (hg : w.grownBy w' v.ownBlock) (ho : w'.ownsRow base 37 1 v' (k + 1) (vs ++ [x])) : RS w' base v' (k + 1) sig := by
  refine ⟨vs ++ [x], ho, fun j u hu => ?_⟩
  have hl := h1.1
  rw [Nat.mul_one] at hl
  by_cases hj : j < k
  · rw [List.getElem?_append_left (by omega)] at hu
    exact hb_grown h1 hg (h2 j u hu).1 (h2 j u hu).2
  · rw [List.getElem?_append_right (by omega), hl] at hu
    cases hjk : j - k with
    | zero =>
      rw [hjk] at hu
      simp at hu
      subst hu
      obtain rfl : j = k := by omega
      exact hb_grown h1 hg hx tx
    | succ m => rw [hjk] at hu; simp at hu

theorem RS.pa {w : World} {base N : Nat} {v : Value} {sig : Nat → List UInt8} (h : RS w base v N sig) : PA w v ((List.range N).map sig) := by
  obtain ⟨vs, h1, h3⟩ := h
  have hl := h1.1
  rw [Nat.mul_one] at hl
  obtain ⟨_, q⟩ := h1
  have hel : ∀ (i : Nat) x l, vs[i]? = some x → ((List.range N).map sig)[i]? = some l → HB w x l := by
    intro i x l hx hl'
    have hi : i < vs.length := (List.getElem?_eq_some_iff.1 hx).1
    have e2 : l = sig i := by
      rw [List.getElem?_map, List.getElem?_range (by omega)] at hl'
      simpa using hl'.symm
    rw [e2]
    exact (h3 i x hx).1
  rcases q with ⟨rfl, h0⟩ | ⟨g, cap, cur, rfl, hb, hg, hle, hm, hsz, ht⟩
  · subst h0
    exact PA.nil w
  · refine ⟨_, cap, vs, by simp, by simpa using hle, hm, (fun h => by cases h), by simp [hl], fun _ => ⟨g, 0, rfl, fun i x hx => ?_⟩, hel⟩
    rw [Nat.zero_add, cell_of_row w g i cur 37 (0, 0) hg]
    have hi : i < vs.length := (List.getElem?_eq_some_iff.1 hx).1
    rw [← ht, List.getElem?_take, if_pos (by omega)] at hx
    simpa using hx

end Go.Proofs.YtcgpgnajmfemhaaGreatDoor

namespace Go.Proofs.YtcgpgnajmfemhaaGreatDoor
open Go.RowKit

theorem step_calls2 {P : Program} {w : World} {ops : Array Oper} {o : Oper} {a : Act} {K : Act → World → Prop} {Q : Exit → Act → World → Prop} {E : Prop} (hgd : o.guard = none) (f : FuncId) (x y : Operand) (tx ty : TypeId)
    (ho : o.op = .call { callee := .value (.func f), args := #[x, y], argTypes := #[tx, ty] }) (vx vy : Value) (hx : a.eval x = vx) (hy : a.eval y = vy) (hf : (callFunc f #[vx, vy]).run P w = .ok (.enter f #[vx, vy]) w) (R : Value → World → Prop)
    (hC : Calls P f #[vx, vy] w fun e w' => ∃ v, e = .returned v ∧ R v w') (h : ∀ v w', R v w' → K (a.put o.dst v) w') :
    if Region.wanted o (yielded ops a.tmps) = true then Oper.wp P o a w K Q else E := by
  have hw : Region.wanted o (yielded ops a.tmps) = true := by simp [Region.wanted, hgd]
  rw [if_pos hw]
  unfold Oper.wp
  have h0 : a.eval (.func f) = .func (.func f) #[] #[] := rfl
  have he : (execOp a.eval o).run P w = .ok (.enter f #[vx, vy]) w := by
    simp only [execOp, ho, resolve, invoke, h0, List.map_toArray, List.map_cons, List.map_nil, hx, hy, Sem.run_bind]
    simpa [Deferred.ofValue] using hf
  rw [he, Oper.upon_enter]
  refine hC.mono ?_
  rintro e w' ⟨v, rfl, hr⟩
  exact h v w' hr

end Go.Proofs.YtcgpgnajmfemhaaGreatDoor

namespace Go.Proofs.YtcgpgnajmfemhaaGreatDoor
open Go.RowKit

/-- A row of rows of bytes that the call owns, each in a block of bytes. -/
def RL (w : World) (base : Nat) (v : Value) (ls : List (List UInt8)) : Prop := RS w base v ls.length (fun j => ls.getD j [])

theorem RL.later {w w' : World} {base : Nat} {v : Value} {ls : List (List UInt8)} (h : RL w base v ls) (hb : Below w.heap.size w w') : RL w' base v ls := RS.later h hb
theorem RL.nil (w : World) (base : Nat) : RL w base (.slice none 0 0) [] := ⟨[], World.ownsRow_nil _ _ _ _, fun j u h => by simp at h⟩
theorem RL.pa {w : World} {base : Nat} {v : Value} {ls : List (List UInt8)} (h : RL w base v ls) : PA w v ls := by
  have := RS.pa h
  have e : (List.range ls.length).map (fun j => ls.getD j []) = ls := by
    apply List.ext_getElem
    · simp
    · intro i h1 h2; simp [List.getD, h2]
  rwa [e] at this

theorem RL.snoc {w w' : World} {base : Nat} {v v' x : Value} {vs : List Value} {ls : List (List UInt8)} {l : List UInt8} (h1 : w.ownsRow base 37 1 v ls.length vs) (h2 : ∀ (j : Nat) u, vs[j]? = some u → HB w u (ls.getD j []) ∧ TB w u) (hx : HB w x l) (tx : TB w x)
    (hg : w.grownBy w' v.ownBlock) (ho : w'.ownsRow base 37 1 v' (ls.length + 1) (vs ++ [x])) : RL w' base v' (ls ++ [l]) := by
  have hl := h1.1
  rw [Nat.mul_one] at hl
  have := RS.snoc (sig := fun j => (ls ++ [l]).getD j []) h1 (fun j u hu => by
    have hj : j < ls.length := by
      have := (List.getElem?_eq_some_iff.1 hu).1
      omega
    have e : (ls ++ [l]).getD j [] = ls.getD j [] := by simp [List.getD, List.getElem?_append_left hj]
    show HB w u ((ls ++ [l]).getD j []) ∧ TB w u
    rw [e]
    exact h2 j u hu) (by
      show HB w x ((ls ++ [l]).getD ls.length [])
      have e : (ls ++ [l]).getD ls.length [] = l := by simp [List.getD]
      rw [e]
      exact hx) tx hg ho
  unfold RL
  rwa [List.length_append]

/-- What is written into a block of other things leaves them. -/
theorem RL.only {w w' : World} {g base : Nat} {v : Value} {ls : List (List UInt8)} {cs : Array Value} {t : TypeId} {fr : Nat × Nat} (h : RL w base v ls) (ho : Only g w w') (hg : w.heap[g]? = some (.cells cs t fr)) (h1 : t ≠ 5) (h2 : t ≠ 37) : RL w' base v ls := by
  obtain ⟨vs, o, q⟩ := h
  refine ⟨vs, ⟨o.1, ?_⟩, fun j u hu => ?_⟩
  · rcases o.2 with hn | ⟨b, cap, cur, rfl, hb, hc, rest⟩
    · exact .inl hn
    · refine .inr ⟨b, cap, cur, rfl, hb, ?_, rest⟩
      have hne : b ≠ g := by
        intro e
        subst e
        rw [hg] at hc
        simp only [Option.some.injEq, Obj.cells.injEq] at hc
        exact h2 hc.2.1
      rw [ho.block b hne (Array.getElem?_eq_some_iff.1 hc).1]
      exact hc
  · obtain ⟨k1, k2⟩ := q j u hu
    refine ⟨((HBG.typed k1 k2 hg h1).only ho).1, fun b o' n c e => ?_⟩
    obtain ⟨cur, fr', hc⟩ := k2 b o' n c e
    have hne : b ≠ g := by
      intro e
      subst e
      rw [hg] at hc
      simp only [Option.some.injEq, Obj.cells.injEq] at hc
      exact h1 hc.2.1
    exact ⟨cur, fr', by rw [ho.block b hne (Array.getElem?_eq_some_iff.1 hc).1]; exact hc⟩

/-- A cut of rows: from k up to h. -/
theorem PA.seg {w : World} {p : Option Addr} {n c : Nat} {ls : List (List UInt8)} (h : PA w (.slice p n c) ls) (b e : Nat) (hbe : b ≤ e) (he : e ≤ n) :
    PA w (.slice (cutP p c b) (e - b) (c - b)) (seg ls b e) := by
  obtain ⟨p', cap, vs, ev, h1, h2, h3, h4, h5, h6⟩ := h
  simp only [Value.slice.injEq] at ev
  obtain ⟨rfl, rfl, rfl⟩ := ev
  refine ⟨cutP p c b, c - b, (vs.drop b).take (e - b), ?_, ?_, by omega, ?_, ?_, ?_, ?_⟩
  · rw [seg_length he]
  · rw [seg_length he]; omega
  · intro hp
    unfold cutP at hp
    split at hp
    · omega
    · have := h3 (by simpa using hp)
      omega
  · rw [seg_length he]; simp; omega
  · intro hn
    have hkl : b < e := by
      rcases Nat.lt_or_ge b e with h | h
      · exact h
      · exact absurd (by unfold Go.Proofs.YtcgpgnajmfemhaaGreatDoor.seg; rw [show e - b = 0 by omega]; simp) hn
    have hl : ls ≠ [] := by
      intro e0
      subst e0
      simp at he
      omega
    obtain ⟨bl, o, rfl, hc⟩ := h5 hl
    refine ⟨bl, o + b, ?_, fun i x hx => ?_⟩
    · unfold cutP
      rw [if_neg (by omega)]
      simp [Addr.add_lit]
    · rw [List.getElem?_take] at hx
      split at hx
      · rw [List.getElem?_drop] at hx
        have := hc (b + i) x hx
        rwa [← Nat.add_assoc] at this
      · cases hx
  · intro i x l hx hl
    unfold Go.Proofs.YtcgpgnajmfemhaaGreatDoor.seg at hl
    rw [List.getElem?_take] at hx hl
    split at hx
    · rename_i hi
      rw [if_pos hi] at hl
      rw [List.getElem?_drop] at hx hl
      exact h6 (b + i) x l hx hl
    · cases hx

/-- The root of a part of digests. -/
def partF (size : Int) (ls : List (List UInt8)) (q : Nat × Nat) : List UInt8 := rootF size (seg ls q.1 q.2)

/-- The three boxes of Range. -/
def RG (w0 : World) (size : Int) (lv : Value) (ls : List (List UInt8)) (acc : List (Nat × Nat)) (w : World) : Prop :=
  ∃ rv, w.heap[w0.heap.size]? = some (.cells #[.int .i64 size] 3 (0, 0)) ∧ w.heap[w0.heap.size + 1]? = some (.cells #[lv] 38 (0, 0)) ∧ w.heap[w0.heap.size + 2]? = some (.cells #[rv] 38 (0, 0)) ∧ RL w (w0.heap.size + 3) rv (acc.map (partF size ls)) ∧ Below w0.heap.size w0 w ∧ w0.heap.size + 2 < w.heap.size

theorem RL.mono {w : World} {base base' : Nat} {v : Value} {ls : List (List UInt8)} (h : RL w base v ls) (hb : base' ≤ base) : RL w base' v ls := by
  obtain ⟨vs, h1, h2⟩ := h
  exact ⟨vs, owns_mono h1 hb, h2⟩

/-- What shows a range of digests. -/
def rngF (size : Int) (ls : List (List UInt8)) (lo hi : Int) : List (List UInt8) := if 0 ≤ lo ∧ lo ≤ hi ∧ hi ≤ ls.length ∧ 0 < ls.length then (wo lo.toNat hi.toNat 20 0 ls.length).map (partF size ls) else []

end Go.Proofs.YtcgpgnajmfemhaaGreatDoor

namespace Go.Proofs.YtcgpgnajmfemhaaGreatDoor
open Go.RowKit

theorem PA.kfront {w : World} {p : Option Addr} {n c : Nat} {ls : List (List UInt8)} (h : PA w (.slice p n c) ls) (k : Nat) (hk : k ≤ n) : PA w (.slice p k c) (ls.take k) := by
  have hs := h.seg 0 k (Nat.zero_le _) hk
  have e1 : cutP p c 0 = p := by unfold cutP; cases p <;> simp [Addr.add]
  have e2 : Go.Proofs.YtcgpgnajmfemhaaGreatDoor.seg ls 0 k = ls.take k := by simp [Go.Proofs.YtcgpgnajmfemhaaGreatDoor.seg]
  rw [e1, e2, Nat.sub_zero, Nat.sub_zero] at hs
  exact hs

theorem run_kupto {P : Program} {t e : TypeId} (ht : P.underlying t = some (.slice e)) (hsz : (P.info? e).map (·.size) = some 1) (p : Option Addr) (n c h : Nat) (y : Int) (hy : y = (h : Int)) (hh : h ≤ c) (w : World) :
    (Instr.slice t (.slice p n c) none (some (.int .i64 y)) none).run P w = .ok (.slice p h c) w := by
  subst hy
  obtain ⟨i, hi, hs⟩ := Option.map_eq_some_iff.1 hsz
  have he : P.elem t = e := by simp [Program.elem, ht]
  rw [run_slice_h w t p n c (by rw [he]; exact ht) .i64 (h : Int) (by omega) (by omega), he]
  cases p <;> simp [Go.sizeOf, typeInfo, hi, hs, sliced, Result.andThen, Addr.add]

end Go.Proofs.YtcgpgnajmfemhaaGreatDoor
