/- What this text proves: laws for a walk, over any program: the beginning of a region that draws its order, its operations counted; an operation that yields, and one whose guard is not met, taken first. What this text proves: the walk of the document's Root (annalsref11) over this program: the root over any digests. -/
import Derived.Test.YtggficgmjbgmpaaDoorVocab
import Derived.Deep.RegionHeld3
import Derived.Test.YtggficgmjbgmpaaDoorJKq
import Derived.Test.YtggficgmjbgmpaaDoorJHr
namespace Go.Proofs.YtggficgmjbgmpaaDoor
open Go.RowKit

theorem wp_region_heldN {P : Program} {id : Nat} {ops : Array Oper} {Q : Exit → Act → World → Prop} {a : Act} {w : World} (hm : P.follows .mixedOrders = true) (S : World → Prop) (n : Nat) (hn : ops.size = n)
    (h : wpAnyH P .any ops Q S n (Array.replicate n false) a w.drew) : (Code.region id ops true).wp P Q a w := by
  subst hn
  exact wp_region_held hm h

theorem tkN {P : Program} {md : Region.Mode} {ops : Array Oper} {Q : Exit → Act → World → Prop} {S : World → Prop} {fuel : Nat} {listed : Array Bool} {a : Act} {w : World} (i : Nat) (oi : Oper) (hS : S w)
    (h : wpAnyH P md ops Q S fuel (listed.setIfInBounds i true) (a.put oi.dst undef) w) (hi : ops[i]? = some oi := by rfl) (hs : Region.noSelect ops = true := by kernel_rfl)
    (hf : Region.free md ops listed i = true := by kernel_rfl) (hr : (Region.ready md ops listed).contains i = true := by kernel_rfl)
    (hQ : ∀ c a w, Q (.panic c) (a.put oi.dst undef) w → Q (.panic c) a w := by exact fun _ _ _ h => h)
    (hw : Region.wanted oi (yielded ops a.tmps) = false := by rfl) : wpAnyH P md ops Q S (fuel + 1) listed a w :=
  wpAnyH_take hi hs hf hr hQ (Or.inr ⟨hw, rfl⟩) hS h

theorem tkY {P : Program} {md : Region.Mode} {ops : Array Oper} {Q : Exit → Act → World → Prop} {S : World → Prop} {fuel : Nat} {listed : Array Bool} {a : Act} {w : World} (i : Nat) (oi : Oper) (v : Value) (hS : S w)
    (hy : ∀ w, S w → (execOp a.eval oi).run P w = .ok (.value v) w)
    (h : wpAnyH P md ops Q S fuel (listed.setIfInBounds i true) (a.put oi.dst v) w) (hi : ops[i]? = some oi := by rfl) (hs : Region.noSelect ops = true := by kernel_rfl)
    (hf : Region.free md ops listed i = true := by kernel_rfl) (hr : (Region.ready md ops listed).contains i = true := by kernel_rfl)
    (hQ : ∀ c a w, Q (.panic c) (a.put oi.dst v) w → Q (.panic c) a w := by exact fun _ _ _ h => h)
    (hw : Region.wanted oi (yielded ops a.tmps) = true := by rfl) : wpAnyH P md ops Q S (fuel + 1) listed a w :=
  wpAnyH_take hi hs hf hr hQ (Or.inl ⟨hw, hy⟩) hS h

end Go.Proofs.YtggficgmjbgmpaaDoor

namespace Go.Proofs.YtggficgmjbgmpaaDoor
open Go.RowKit

set_option maxRecDepth 100000 in
set_option maxHeartbeats 1000000 in
theorem rroot_none (size : Int) (v : Value) (w : World) (hp : PA w v []) :
    Calls Tryd.prog 31 #[.int .i64 size, v] w fun x w' => ∃ p c, x = .returned (.slice p (rootF size []).length c) ∧ HB w' (.slice p (rootF size []).length c) (rootF size []) ∧ Below w.heap.size w w' ∧ TB w' (.slice p (rootF size []).length c) := by
  obtain ⟨p, c, rfl⟩ := hp.shape
  have hH := rhash_toT size 0 (.slice none 0 0) [] w (by simp) (by decide) (PA.nil _)
  have hR : rootF size [] = hashF size 0 [] := by simp [rootF]
  rw [hR]
  generalize hashF size 0 [] = F at *
  clear hp hR
  simp only [List.length_nil, Int.natCast_zero] at *
  go_enter Tryd.func31, Tryd.ntmps31
  go_wp2_with fail
  refine hH.mono ?_
  rintro x w1 ⟨p1, c1, rfl, k1, hb1, t1⟩
  clear hH
  go_wp2
  go_ret
  exact ⟨p1, c1, rfl, k1, hb1, t1⟩

set_option maxRecDepth 100000 in
set_option maxHeartbeats 1000000 in
theorem rroot_one (size : Int) (v : Value) (l : List UInt8) (w : World) (hp : PA w v [l]) (hl : l.length ≤ 140737488355328) :
    Calls Tryd.prog 31 #[.int .i64 size, v] w fun x w' => ∃ p c, x = .returned (.slice p l.length c) ∧ HB w' (.slice p l.length c) l ∧ Below w.heap.size w w' ∧ TB w' (.slice p l.length c) := by
  obtain ⟨p, c, rfl⟩ := hp.shape
  obtain ⟨bl, o, rfl⟩ := hp.addr (by simp)
  obtain ⟨q, k, l', hl', hc1, hh⟩ := hp.get 0 (by simp)
  obtain rfl : l = l' := by have := hl'.out; simpa using this
  have bA := (Below.refl w.heap.size w).alloc (Nat.le_refl _) (.cells #[] 5)
  have hA := hh.later bA
  have d1 := cell_later bA hc1
  rw [Nat.add_zero] at d1
  clear hp hc1 hh hl'
  simp only [List.length_cons, List.length_nil, Nat.zero_add] at *
  go_enter Tryd.func31, Tryd.ntmps31
  go_wp2_with (at_builtin; refine wpList_append_hb rfl (.tmp 14) (.tmp 17) 39 rfl w.heap.size 5 Tryd.underlying39 i_u8 _ 0 [] rfl (World.ownsRow_made w #[] 0 (Nat.le_refl _) (Nat.zero_le _) rfl) _ _ _ l rfl hA ?qa ?qb ?_)
  case qa => omega
  case qb => simp
  intro v1 w1 hown1 hgrow1
  have hb1 : Below w.heap.size w w1 := ((Below.refl _ w).alloc (Nat.le_refl _) _).grown hgrow1 (by simp) (by intro k hk; cases hk; exact Nat.le_refl _)
  have ho : w1.ownsRow w.heap.size 5 1 v1 l.length (bcs l) := by simpa using hown1
  have hh := HB.of_owns ho
  have tt := TB.of_owns ho
  obtain ⟨p1, c1, hv⟩ := hh.shape
  rw [hv] at hh tt ⊢
  clear hv hown1 hgrow1 ho hA d1
  go_wp2
  go_ret
  exact ⟨_, _, rfl, hh, hb1, tt⟩

theorem cf_rroot (xs : Array Value) (w : World) : (callFunc 31 xs).run Tryd.prog w = .ok (.enter 31 xs) w := by go_simp
theorem cf_rhash (xs : Array Value) (w : World) : (callFunc 43 xs).run Tryd.prog w = .ok (.enter 43 xs) w := by go_simp

set_option maxRecDepth 100000 in
set_option maxHeartbeats 2000000 in
theorem rroot_more (size : Int) (p : Option Addr) (c n k : Nat) (LA LB LC : List UInt8) (w : World) (hn : 2 ≤ n) (hk : k < n) (hc : n ≤ c) (hb : n ≤ 1048576)
    (hS : Calls Tryd.prog 38 #[.int .i64 (n : Int)] w fun x w' => x = .returned (.int .i64 (k : Int)) ∧ w' = w)
    (h1 : ∀ W, Below w.heap.size w W → Calls Tryd.prog 31 #[.int .i64 size, .slice p k c] W fun x w' => ∃ p c, x = .returned (.slice p LA.length c) ∧ HB w' (.slice p LA.length c) LA ∧ Below W.heap.size W w')
    (h2 : ∀ W, Below w.heap.size w W → Calls Tryd.prog 31 #[.int .i64 size, .slice (cutP p c k) (n - k) (c - k)] W fun x w' => ∃ p c, x = .returned (.slice p LB.length c) ∧ HB w' (.slice p LB.length c) LB ∧ Below W.heap.size W w')
    (h3 : ∀ W v, PA W v [LA, LB] → Calls Tryd.prog 43 #[.int .i64 size, .int .i64 4, v] W fun x w' => ∃ p c, x = .returned (.slice p LC.length c) ∧ HB w' (.slice p LC.length c) LC ∧ Below W.heap.size W w' ∧ TB w' (.slice p LC.length c)) :
    Calls Tryd.prog 31 #[.int .i64 size, .slice p n c] w fun x w' => ∃ p c, x = .returned (.slice p LC.length c) ∧ HB w' (.slice p LC.length c) LC ∧ Below w.heap.size w w' ∧ TB w' (.slice p LC.length c) := by
  have s1 := fun w => run_kupto (P := Tryd.prog) Tryd.underlying33 s_bytes p n c k (k : Int) rfl (by omega) w
  have s2 := fun w => run_cut (P := Tryd.prog) Tryd.underlying33 s_bytes p n c k (k : Int) rfl (by omega) w
  have n0 : ((n : Int) == 0) = false := by simp; omega
  have n1 : ((n : Int) == 1) = false := by simp; omega
  generalize LA.length = na at *
  generalize LB.length = nb at *
  go_enter Tryd.func31, Tryd.ntmps31
  go_wp2_with fail
  refine hS.mono ?_
  rintro x w1 ⟨rfl, hw⟩
  subst hw
  clear hS
  go_wp2
  have hHeld : True := trivial
  refine wp_region_heldN (by kernel_rfl) (fun _ => True) 14 rfl ?_
  refine wpAnyH_take (i := 0) (oi := { dst := some 22, op := Op.move (Operand.tmp 0), type := 3, pos := "ref.go:27", after := #[], guard := none }) (v := ?v0) rfl (by kernel_rfl) (by kernel_rfl) (by kernel_rfl) (fun _ _ _ h => h) (Or.inl ⟨by rfl, ?y0⟩) hHeld ?r0
  case y0 => (intro w hSw; (try dsimp only at hSw); go_simp) <;> with_reducible rfl
  try simp only [Act.put, List.setIfInBounds_toArray, List.set_cons_zero, List.set_cons_succ]
  refine wpAnyH_take (i := 1) (oi := { dst := some 23, op := Op.move (Operand.tmp 0), type := 3, pos := "ref.go:27", after := #[], guard := none }) (v := ?v1) rfl (by kernel_rfl) (by kernel_rfl) (by kernel_rfl) (fun _ _ _ h => h) (Or.inl ⟨by rfl, ?y1⟩) hHeld ?r1
  case y1 => (intro w hSw; (try dsimp only at hSw); go_simp) <;> with_reducible rfl
  try simp only [Act.put, List.setIfInBounds_toArray, List.set_cons_zero, List.set_cons_succ]
  refine wpAnyH_take (i := 2) (oi := { dst := some 24, op := Op.move (Operand.tmp 1), type := 33, pos := "ref.go:27", after := #[], guard := none }) (v := ?v2) rfl (by kernel_rfl) (by kernel_rfl) (by kernel_rfl) (fun _ _ _ h => h) (Or.inl ⟨by rfl, ?y2⟩) hHeld ?r2
  case y2 => (intro w hSw; (try dsimp only at hSw); go_simp) <;> with_reducible rfl
  try simp only [Act.put, List.setIfInBounds_toArray, List.set_cons_zero, List.set_cons_succ]
  refine wpAnyH_take (i := 3) (oi := { dst := some 25, op := Op.move (Operand.tmp 5), type := 3, pos := "ref.go:27", after := #[], guard := none }) (v := ?v3) rfl (by kernel_rfl) (by kernel_rfl) (by kernel_rfl) (fun _ _ _ h => h) (Or.inl ⟨by rfl, ?y3⟩) hHeld ?r3
  case y3 => (intro w hSw; (try dsimp only at hSw); go_simp) <;> with_reducible rfl
  try simp only [Act.put, List.setIfInBounds_toArray, List.set_cons_zero, List.set_cons_succ]
  refine wpAnyH_take (i := 4) (oi := { dst := some 26, op := Op.slice 33 (Operand.tmp 24) none (some (Operand.tmp 25)) none, type := 33, pos := "ref.go:27", after := #[{ on := 2, ground := Ground.data }, { on := 3, ground := Ground.data }], guard := none }) (v := ?v4) rfl (by kernel_rfl) (by kernel_rfl) (by kernel_rfl) (fun _ _ _ h => h) (Or.inl ⟨by rfl, ?y4⟩) hHeld ?r4
  case y4 => (intro w hSw; (try dsimp only at hSw); go_simp) <;> with_reducible rfl
  try simp only [Act.put, List.setIfInBounds_toArray, List.set_cons_zero, List.set_cons_succ]
  refine wpAnyH_take (i := 6) (oi := { dst := some 28, op := Op.move (Operand.tmp 0), type := 3, pos := "ref.go:27", after := #[], guard := none }) (v := ?v6) rfl (by kernel_rfl) (by kernel_rfl) (by kernel_rfl) (fun _ _ _ h => h) (Or.inl ⟨by rfl, ?y6⟩) hHeld ?r6
  case y6 => (intro w hSw; (try dsimp only at hSw); go_simp) <;> with_reducible rfl
  try simp only [Act.put, List.setIfInBounds_toArray, List.set_cons_zero, List.set_cons_succ]
  refine wpAnyH_take (i := 7) (oi := { dst := some 29, op := Op.move (Operand.tmp 1), type := 33, pos := "ref.go:27", after := #[], guard := none }) (v := ?v7) rfl (by kernel_rfl) (by kernel_rfl) (by kernel_rfl) (fun _ _ _ h => h) (Or.inl ⟨by rfl, ?y7⟩) hHeld ?r7
  case y7 => (intro w hSw; (try dsimp only at hSw); go_simp) <;> with_reducible rfl
  try simp only [Act.put, List.setIfInBounds_toArray, List.set_cons_zero, List.set_cons_succ]
  refine wpAnyH_take (i := 8) (oi := { dst := some 30, op := Op.move (Operand.tmp 5), type := 3, pos := "ref.go:27", after := #[], guard := none }) (v := ?v8) rfl (by kernel_rfl) (by kernel_rfl) (by kernel_rfl) (fun _ _ _ h => h) (Or.inl ⟨by rfl, ?y8⟩) hHeld ?r8
  case y8 => (intro w hSw; (try dsimp only at hSw); go_simp) <;> with_reducible rfl
  try simp only [Act.put, List.setIfInBounds_toArray, List.set_cons_zero, List.set_cons_succ]
  refine wpAnyH_take (i := 9) (oi := { dst := some 31, op := Op.slice 33 (Operand.tmp 29) (some (Operand.tmp 30)) none none, type := 33, pos := "ref.go:27", after := #[{ on := 7, ground := Ground.data }, { on := 8, ground := Ground.data }], guard := none }) (v := ?v9) rfl (by kernel_rfl) (by kernel_rfl) (by kernel_rfl) (fun _ _ _ h => h) (Or.inl ⟨by rfl, ?y9⟩) hHeld ?r9
  case y9 => (intro w hSw; (try dsimp only at hSw); go_simp) <;> with_reducible rfl
  try simp only [Act.put, List.setIfInBounds_toArray, List.set_cons_zero, List.set_cons_succ]
  refine wpAnyH_ready (rs := [5]) (by kernel_rfl) (by simp) ?_
  refine AllReadyH.cons (o := { dst := some 27, op := Op.call { callee := Callee.value (Operand.func 31), args := #[Operand.tmp 23, Operand.tmp 26], argTypes := #[3, 33] }, type := 39, pos := "ref.go:27", after := #[{ on := 1, ground := Ground.data }, { on := 4, ground := Ground.data }], guard := none }) rfl (fun K hK => ?_) AllReadyH.nil
  go_simp
  refine (h1 _ ((Below.refl _ _).drew)).mono ?_
  rintro e w2 ⟨p2, c2, rfl, k2, hb2'⟩
  have hb2 : Below w1.heap.size w1 w2 := ((Below.refl _ w1).drew).trans (hb2'.mono (by simp))
  refine hK.out _ _ ?_ (fun _ => ?_)
  · exact hHeld
  clear hK K
  try simp only [Act.put, List.setIfInBounds_toArray, List.set_cons_zero, List.set_cons_succ]
  refine wpAnyH_ready (rs := [10]) (by kernel_rfl) (by simp) ?_
  refine AllReadyH.cons (o := { dst := some 32, op := Op.call { callee := Callee.value (Operand.func 31), args := #[Operand.tmp 28, Operand.tmp 31], argTypes := #[3, 33] }, type := 39, pos := "ref.go:27", after := #[{ on := 6, ground := Ground.data }, { on := 9, ground := Ground.data }, { on := 5, ground := Ground.chain }], guard := none }) rfl (fun K hK => ?_) AllReadyH.nil
  go_simp
  refine (h2 _ hb2).mono ?_
  rintro e w3 ⟨p3, c3, rfl, k3, hb3'⟩
  have hb3 := hb2.trans (hb3'.mono hb2.size)
  have hpa := PA.two w3 _ _ _ _ (k2.later hb3') k3
  refine hK.out _ _ ?_ (fun _ => ?_)
  · exact hHeld
  clear hK K
  try simp only [Act.put, List.setIfInBounds_toArray, List.set_cons_zero, List.set_cons_succ]
  refine wpAnyH_ready (rs := [11]) (by kernel_rfl) (by simp) ?_
  refine AllReadyH.cons (o := { dst := some 33, op := Op.buildSlice 33 2 #[(0, Operand.tmp 27), (1, Operand.tmp 32)], type := 33, pos := "ref.go:27", after := #[{ on := 5, ground := Ground.data }, { on := 10, ground := Ground.data }], guard := none }) rfl (fun K hK => ?_) AllReadyH.nil
  go_simp
  refine hK.out _ _ ?_ (fun _ => ?_)
  · exact hHeld
  clear hK K
  try simp only [Act.put, List.setIfInBounds_toArray, List.set_cons_zero, List.set_cons_succ]
  refine wpAnyH_ready (rs := [12]) (by kernel_rfl) (by simp) ?_
  refine AllReadyH.cons (o := { dst := some 34, op := Op.call { callee := Callee.value (Operand.func 43), args := #[Operand.tmp 22, Operand.const (Value.int IntKind.i64 4), Operand.tmp 33], argTypes := #[3, 3, 33] }, type := 39, pos := "ref.go:27", after := #[{ on := 0, ground := Ground.data }, { on := 11, ground := Ground.data }, { on := 10, ground := Ground.chain }], guard := none }) rfl (fun K hK => ?_) AllReadyH.nil
  go_simp
  refine (h3 _ _ hpa).mono ?_
  rintro e w4 ⟨p4, c4, rfl, k4, hb4', t4⟩
  have hb3a := hb3.alloc hb3.size (.cells #[.slice p2 na c2, .slice p3 nb c3] 39)
  have hb4 := hb3a.trans (hb4'.mono hb3a.size)
  refine hK.out _ _ ?_ (fun _ => ?_)
  · exact hHeld
  clear hK K
  try simp only [Act.put, List.setIfInBounds_toArray, List.set_cons_zero, List.set_cons_succ]
  refine wpAnyH_take (i := 13) (oi := { dst := some 4, op := Op.assign (Operand.tmp 34), type := 39, pos := "ref.go:27", after := #[{ on := 12, ground := Ground.data }, { on := 12, ground := Ground.chain }, { on := 0, ground := Ground.phase }, { on := 1, ground := Ground.phase }, { on := 2, ground := Ground.phase }, { on := 3, ground := Ground.phase }, { on := 4, ground := Ground.phase }, { on := 5, ground := Ground.phase }, { on := 6, ground := Ground.phase }, { on := 7, ground := Ground.phase }, { on := 8, ground := Ground.phase }, { on := 9, ground := Ground.phase }, { on := 10, ground := Ground.phase }, { on := 11, ground := Ground.phase }, { on := 12, ground := Ground.phase }], guard := none }) (v := ?v13) rfl (by kernel_rfl) (by kernel_rfl) (by kernel_rfl) (fun _ _ _ h => h) (Or.inl ⟨by rfl, ?y13⟩) hHeld ?r13
  case y13 => (intro w hSw; (try dsimp only at hSw); go_simp) <;> with_reducible rfl
  try simp only [Act.put, List.setIfInBounds_toArray, List.set_cons_zero, List.set_cons_succ]
  refine wpAnyH_done (by kernel_rfl) ?_ _
  clear hpa k2 k3 hb2 hb2' hb3 hb3' hb3a hb4' h1 h2 h3 s1 s2
  go_wp2
  go_ret
  exact ⟨p4, c4, rfl, k4, hb4, t4⟩

theorem rootF_fork (size : Int) (ls : List (List UInt8)) (h : 2 ≤ ls.length) (hb : ls.length ≤ 1048576) : rootF size ls = hashF size 4 [rootF size (ls.take (half ls.length)), rootF size (ls.drop (half ls.length))] := by
  obtain ⟨q1, q2, q3⟩ := half_bounds h (by omega)
  have n1 : ls.take (half ls.length) ≠ [] := fun e => by have := congrArg List.length e; rw [List.length_take, List.length_nil] at this; omega
  have n2 : ls.drop (half ls.length) ≠ [] := fun e => by have := congrArg List.length e; rw [List.length_drop, List.length_nil] at this; omega
  rw [rootF_rt size 21 ls (List.length_pos_iff.1 (by omega)) (by omega) (by omega), rtF_more size 20 h, rootF_rt size 20 _ n1 (by simp; omega) (by simp; omega), rootF_rt size 20 _ n2 (by simp; omega) (by simp; omega)]
  rfl

theorem rroot_any (size : Int) : ∀ (f : Nat) (v : Value) (ls : List (List UInt8)) (w : World), PA w v ls → ls.length ≤ 2 ^ f → ls.length ≤ 1048576 → (∀ l ∈ ls, l.length ≤ 140737488355328) →
    Calls Tryd.prog 31 #[.int .i64 size, v] w fun x w' => ∃ p c, x = .returned (.slice p (rootF size ls).length c) ∧ HB w' (.slice p (rootF size ls).length c) (rootF size ls) ∧ Below w.heap.size w w' ∧ TB w' (.slice p (rootF size ls).length c) := by
  have few : ∀ (v : Value) (ls : List (List UInt8)) (w : World), PA w v ls → ls.length ≤ 1 → (∀ l ∈ ls, l.length ≤ 140737488355328) →
      Calls Tryd.prog 31 #[.int .i64 size, v] w fun x w' => ∃ p c, x = .returned (.slice p (rootF size ls).length c) ∧ HB w' (.slice p (rootF size ls).length c) (rootF size ls) ∧ Below w.heap.size w w' ∧ TB w' (.slice p (rootF size ls).length c) := by
    intro v ls w hp h1 hl
    match ls, hp, h1, hl with
    | [], hp, _, _ => exact rroot_none size v w hp
    | [l], hp, _, hl =>
      have e : rootF size [l] = l := by
        unfold rootF
        rw [if_neg (by simp), ovF_some (l := l) (by simp [knR])]
      rw [e]
      exact rroot_one size v l w hp (hl l (by simp))
    | a :: b :: r, _, h1, _ => simp at h1
  intro f
  induction f with
  | zero => intro v ls w hp h1 h2 hl; exact few v ls w hp (by simpa using h1) hl
  | succ f ih =>
    intro v ls w hp h1 h2 hl
    by_cases hc : ls.length ≤ 1
    · exact few v ls w hp hc hl
    · have hn : 2 ≤ ls.length := by omega
      obtain ⟨q1, q2, q3⟩ := half_bounds hn (by omega)
      obtain ⟨r1, r2⟩ := half_le hn (by omega) h1
      obtain ⟨p, c, rfl⟩ := hp.shape
      have hlen := hp.len
      rw [rootF_fork size ls hn h2]
      have pA := hp.kfront (half ls.length) (by omega)
      have pB := hp.seg (half ls.length) ls.length (by omega) (Nat.le_refl _)
      have eB : Go.Proofs.YtggficgmjbgmpaaDoor.seg ls (half ls.length) ls.length = ls.drop (half ls.length) := by
        unfold Go.Proofs.YtggficgmjbgmpaaDoor.seg
        exact List.take_of_length_le (by simp)
      rw [eB] at pB
      refine rroot_more size p c ls.length (half ls.length) (rootF size (ls.take (half ls.length))) (rootF size (ls.drop (half ls.length))) _ w hn q2 hlen.2.1 h2 (rsplit2_any _ w hn (by omega)) ?_ ?_ ?_
      · intro W hW
        refine (ih (.slice p (half ls.length) c) _ W (pA.later hW) (by simp; omega) (by simp; omega) (fun l h => hl l (List.mem_of_mem_take h))).mono ?_
        rintro x w' ⟨p', c', a, b, d, _⟩
        exact ⟨p', c', a, b, d⟩
      · intro W hW
        refine (ih _ _ W (pB.later hW) (by simp; omega) (by simp; omega) (fun l h => hl l (List.mem_of_mem_drop h))).mono ?_
        rintro x w' ⟨p', c', a, b, d, _⟩
        exact ⟨p', c', a, b, d⟩
      · intro W v hv
        exact rhash_toT size 4 v _ W (by simp) (by decide) hv

end Go.Proofs.YtggficgmjbgmpaaDoor
