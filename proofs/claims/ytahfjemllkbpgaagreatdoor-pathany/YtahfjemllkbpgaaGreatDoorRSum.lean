/- What this text proves: the walk of the document's Sum (annalsref01) over this program: SHA-256 of any bytes, in new memory. -/
import Derived.Test.YtahfjemllkbpgaaGreatDoorRRound
import Derived.Test.YtahfjemllkbpgaaGreatDoorRAdds
import Derived.Test.YtahfjemllkbpgaaGreatDoorRIdx
import Derived.Test.YtahfjemllkbpgaaGreatDoorBe64
import Derived.Deep.RegionHeld3
namespace Go.Proofs.YtahfjemllkbpgaaGreatDoor
open Go.RowKit

/-- The text behind n bytes of the padding. -/
def padTo (l : List UInt8) (n : Nat) : List UInt8 := l ++ 128 :: List.replicate n 0
theorem padTo_step (l : List UInt8) (n : Nat) : bcs (padTo l n) ++ [.int .u8 0] = bcs (padTo l (n + 1)) := by
  have e : (128 : UInt8) :: List.replicate (n + 1) 0 = 128 :: List.replicate n 0 ++ [0] := by rw [List.replicate_succ']; rfl
  unfold padTo
  rw [e]
  simp [bcs, bc]
theorem padTo_length (l : List UInt8) (n : Nat) : (padTo l n).length = l.length + 1 + n := by simp [padTo]; omega

/-- The text behind k bytes of its length. -/
def lenTo (l : List UInt8) (z k : Nat) : List UInt8 := padTo l z ++ (be64 (8 * l.length)).take k
theorem lenTo_step (l : List UInt8) (z k : Nat) (hk : k < 8) (v : Value) (hv : v = bc (UInt8.ofNat (8 * l.length / 2 ^ (8 * (7 - k))))) : bcs (lenTo l z k) ++ [v] = bcs (lenTo l z (k + 1)) := by
  subst hv
  unfold lenTo
  rw [List.take_add_one, be64_get _ _ hk]
  simp [bcs]
theorem lenTo_length (l : List UInt8) (z k : Nat) (hk : k ≤ 8) : (lenTo l z k).length = l.length + 1 + z + k := by
  unfold lenTo
  rw [List.length_append, padTo_length, List.length_take, be64_length]
  omega
theorem lenTo_all (l : List UInt8) (z : Nat) (hz : z = 64 * blocks l.length - 9 - l.length) : lenTo l z 8 = l ++ padding l.length := by
  subst hz
  unfold lenTo padTo padding
  rw [List.take_of_length_le (by rw [be64_length]; omega), List.append_assoc]
  rfl

/-- How long a slice is: a loop's measure. -/
def lenS : Value → Nat | .slice _ n _ => n | _ => 0

theorem AR.beside {w w' : World} {g : Nat} {t e : TypeId} {L : List UInt32} {base n : Nat} {v : Value} {xs : List Value} (h : AR w g t L) (ho : w.ownsRow base e 1 v n xs) (hne : t ≠ e) (hg : w.grownBy w' v.ownBlock) : AR w' g t L := by
  unfold AR
  rw [hg.block g h.lt ?_]
  · exact h
  · intro e1
    rcases ho.2 with ⟨rfl, _⟩ | ⟨g', cap, cur, rfl, _, hgg, _⟩
    · cases e1
    · simp only [Value.ownBlock, Option.some.injEq] at e1
      subst e1
      unfold AR at h
      rw [h] at hgg
      simp only [Option.some.injEq, Obj.cells.injEq] at hgg
      exact hne hgg.2.1

/-- What the document's Sum holds in memory beside the text: the state and the numbers. -/
def RM (w : World) (g4 : Nat) (K : List UInt32) (S : St) (wr : World) : Prop := AR wr w.heap.size 90 (stL S) ∧ AR wr g4 121 K ∧ Below w.heap.size w wr
theorem RM.beside {w wr w' : World} {g4 : Nat} {K : List UInt32} {S : St} {n : Nat} {v : Value} {xs : List Value} (h : RM w g4 K S wr) (ho : wr.ownsRow w.heap.size 5 1 v n xs) (hg : wr.grownBy w' v.ownBlock) : RM w g4 K S w' :=
  ⟨h.1.beside ho (by decide) hg, h.2.1.beside ho (by decide) hg, h.2.2.grown hg h.2.2.size (fun k hk => (ho.lt k hk).1)⟩
theorem RM.alloc {w wr : World} {g4 : Nat} {K : List UInt32} {S : St} (h : RM w g4 K S wr) (o : Obj) : RM w g4 K S (wr.alloc o) := ⟨h.1.alloc o, h.2.1.alloc o, h.2.2.alloc h.2.2.size o⟩
theorem RM.drewN {w wr : World} {g4 : Nat} {K : List UInt32} {S : St} (h : RM w g4 K S wr) (n : Nat) : RM w g4 K S (wr.drewN n) := ⟨h.1, h.2.1, below_drewN h.2.2 n⟩

theorem lenV (n k : Nat) (hk : k < 8) : Value.int .u8 (8 * (n : Int) / 2 ^ (56 - 8 * k) % 256) = bc (UInt8.ofNat (8 * n / 2 ^ (8 * (7 - k)))) := by
  unfold bc
  have e : 56 - 8 * k = 8 * (7 - k) := by omega
  rw [e, show 8 * (n : Int) / 2 ^ (8 * (7 - k)) % 256 = ((8 * n / 2 ^ (8 * (7 - k)) % 256 : Nat) : Int) by simp]
  simp

theorem owns_block {w : World} {base : Nat} {e : TypeId} {p : Option Addr} {n c : Nat} {xs : List Value} (h : w.ownsRow base e 1 (.slice p n c) n xs) (hn : 0 < n) : ∃ g cur, p = some ⟨g, 0, none⟩ ∧ w.heap[g]? = some (.cells cur e (0, 0)) := by
  rcases h.2 with ⟨h1, h0⟩ | ⟨g, cap, cur, h1, _, hg, _⟩
  · omega
  · simp only [Value.slice.injEq] at h1
    exact ⟨g, cur, h1.1, hg⟩

theorem AR.apart {w : World} {g k : Nat} {t e : TypeId} {L : List UInt32} {cur : Array Value} (h : AR w g t L) (hk : w.heap[k]? = some (.cells cur e (0, 0))) (hne : t ≠ e) : k ≠ g := by
  intro e1
  subst e1
  unfold AR at h
  rw [hk] at h
  simp only [Option.some.injEq, Obj.cells.injEq] at h
  exact hne h.2.1.symm

/-- What the document's Sum holds in memory while it mixes a block. -/
def RI (w : World) (g4 g5 gw gv N c5 : Nat) (K : List UInt32) (T : List UInt8) (S V : St) (WS : List UInt32) (wr : World) : Prop :=
  RM w g4 K S wr ∧ HB wr (.slice (some ⟨g5, 0, none⟩) N c5) T ∧ AR wr gw 121 WS ∧ AR wr gv 90 (stL V)

theorem RM.later {w wr w' : World} {g4 : Nat} {K : List UInt32} {S : St} (h : RM w g4 K S wr) (hb : Below wr.heap.size wr w') : RM w g4 K S w' := ⟨h.1.later hb, h.2.1.later hb, h.2.2.trans (hb.mono h.2.2.size)⟩

section
variable {w wr : World} {g4 g5 gw gv N c5 : Nat} {K : List UInt32} {T : List UInt8} {S V : St} {WS : List UInt32}
theorem RI.later {w' : World} (h : RI w g4 g5 gw gv N c5 K T S V WS wr) (hb : Below wr.heap.size wr w') : RI w g4 g5 gw gv N c5 K T S V WS w' := ⟨h.1.later hb, h.2.1.later hb, h.2.2.1.later hb, h.2.2.2.later hb⟩
theorem RI.drewN (h : RI w g4 g5 gw gv N c5 K T S V WS wr) (n : Nat) : RI w g4 g5 gw gv N c5 K T S V WS (wr.drewN n) := h.later (below_drewN (Below.refl _ _) n)
theorem RI.putW (h : RI w g4 g5 gw gv N c5 K T S V WS wr) (h1 : w.heap.size < gw) (h2 : g4 < gw) (h3 : g5 < gw) (h4 : gv ≠ gw) (k : Nat) (x : UInt32) (u : Value) (hu : u = wc x) : RI w g4 g5 gw gv N c5 K T S V (WS.set k x) (wr.setCell ⟨gw, k, none⟩ u) :=
  ⟨⟨h.1.1.other _ _ (by simp; omega), h.1.2.1.other _ _ (by simp; omega), h.1.2.2.setCell (by simp; omega) _⟩, h.2.1.setOther _ _ (by simp; omega), h.2.2.1.put k x u hu, h.2.2.2.other _ _ (by simpa using h4)⟩
theorem ar_put8Other {w : World} {g k : Nat} {t : TypeId} {L : List UInt32} (h : AR w g t L) (M : St) (hne : g ≠ k) : AR (put8 w k M) g t L :=
  (((((((h.other _ _ hne).other _ _ hne).other _ _ hne).other _ _ hne).other _ _ hne).other _ _ hne).other _ _ hne).other _ _ hne
theorem RI.putV (h : RI w g4 g5 gw gv N c5 K T S V WS wr) (h1 : w.heap.size < gv) (h2 : g4 < gv) (h3 : g5 < gv) (h4 : gw ≠ gv) (M : St) : RI w g4 g5 gw gv N c5 K T S M WS (put8 wr gv M) :=
  ⟨⟨ar_put8Other h.1.1 M (by omega), ar_put8Other h.1.2.1 M (by omega), below_put8 h.1.2.2 (by omega) M⟩, h.2.1.put8 _ M (by omega), ar_put8Other h.2.2.1 M h4, h.2.2.2.put8 M⟩
end

/-- The first n sums of two lists of words, the rest as it was. -/
def addUp (A B : List UInt32) : Nat → List UInt32
  | 0 => A
  | n + 1 => (addUp A B n).set n (addw (A.getD n 0) (B.getD n 0))
theorem addUp_get (A B : List UInt32) (n m : Nat) (h : n ≤ m) : (addUp A B n)[m]? = A[m]? := by
  induction n with
  | zero => rfl
  | succ n ih => rw [addUp, List.getElem?_set_ne (by omega)]; exact ih (by omega)
theorem addUp_all (S V : St) : addUp (stL S) (stL V) 8 = stL (addSt S V) := rfl
theorem stL_get (S : St) (k : Nat) (hk : k < 8) : (stL S)[k]? = some ((stL S).getD k 0) := by
  have : k < (stL S).length := hk
  simp [List.getD, this]

/-- What the document's Sum holds in memory while it adds a block's state. -/
def RJ (w : World) (g4 g5 gv N c5 : Nat) (K : List UInt32) (T : List UInt8) (L : List UInt32) (V : St) (wr : World) : Prop :=
  AR wr w.heap.size 90 L ∧ AR wr g4 121 K ∧ Below w.heap.size w wr ∧ HB wr (.slice (some ⟨g5, 0, none⟩) N c5) T ∧ AR wr gv 90 (stL V)
theorem RJ.put {w wr : World} {g4 g5 gv N c5 : Nat} {K : List UInt32} {T : List UInt8} {L : List UInt32} {V : St} (h : RJ w g4 g5 gv N c5 K T L V wr) (h1 : g4 ≠ w.heap.size) (h2 : g5 ≠ w.heap.size) (h3 : gv ≠ w.heap.size) (k : Nat) (x : UInt32) (u : Value) (hu : u = wc x) : RJ w g4 g5 gv N c5 K T (L.set k x) V (wr.setCell ⟨w.heap.size, k, none⟩ u) :=
  ⟨h.1.put k x u hu, h.2.1.other _ _ h1, h.2.2.1.setCell (Nat.le_refl _) _, h.2.2.2.1.setOther _ _ h2, h.2.2.2.2.other _ _ h3⟩
theorem RJ.drew {w wr : World} {g4 g5 gv N c5 : Nat} {K : List UInt32} {T : List UInt8} {L : List UInt32} {V : St} (h : RJ w g4 g5 gv N c5 K T L V wr) : RJ w g4 g5 gv N c5 K T L V wr.drew :=
  ⟨h.1, h.2.1, h.2.2.1.drew, h.2.2.2.1.later (Below.refl _ _).drew, h.2.2.2.2⟩

theorem cells_new (w : World) (L : List Value) (t : TypeId) : ∀ j u, L[j]? = some u → (w.alloc (.cells L.toArray t)).cell? ((⟨w.heap.size, 0, none⟩ : Addr).add j) = some u := by
  intro j u hj
  rw [Addr.add_lit, Nat.zero_add, cell_of_row _ _ j _ t (0, 0) (heap_alloc_new w _)]
  simpa using hj
theorem spellV (x : UInt32) : bcs (spellW x) = [.int .u8 ((x.toNat : Int) / 16777216), .int .u8 ((x.toNat : Int) / 65536 % 256), .int .u8 ((x.toNat : Int) / 256 % 256), .int .u8 ((x.toNat : Int) % 256)] := by
  have h := w32 x
  have e : ∀ n : Nat, bc (UInt8.ofNat n) = .int .u8 ((n % 256 : Nat) : Int) := fun n => by simp [bc]
  simp only [spellW, bcs, List.map_cons, List.map_nil, e]
  congr 2
  omega

theorem wordAt_in (T X : List UInt8) (n k : Nat) (hX : X = (T.drop n).take 64) (hk : k < 16) : wordAt (T.drop (n + 4 * k)) 0 = wordAt X k := by
  subst hX
  unfold wordAt
  have e : ∀ i, i < 4 → (T.drop (n + 4 * k)).getD i 0 = ((T.drop n).take 64).getD (4 * k + i) 0 := by
    intro i hi
    simp only [List.getD, List.getElem?_drop, List.getElem?_take]
    rw [if_pos (by omega), Nat.add_assoc]
  have e0 := e 0 (by omega)
  have e1 := e 1 (by omega)
  have e2 := e 2 (by omega)
  have e3 := e 3 (by omega)
  simp only [Nat.mul_zero, Nat.zero_add, Nat.add_zero] at e0 e1 e2 e3 ⊢
  rw [e0, e1, e2, e3]

theorem schedL_at (X : List UInt8) (k : Nat) (hk : k < 64) : (schedL X (k + 1))[k]? = some (nextW X (Wl X k)) := by
  rw [← schedL_set X k hk, List.getElem?_set_self (by rw [schedL_length X k (by omega)]; exact hk)]

theorem wrapadd (x y : UInt32) : IntKind.u32.wrap ((x.toNat : Int) + (y.toNat : Int)) = ((addw x y).toNat : Int) := by
  rw [IntKind.wrap_u32]
  exact addw_eq x y

theorem RI.drew {w wr : World} {g4 g5 gw gv N c5 : Nat} {K : List UInt32} {T : List UInt8} {S V : St} {WS : List UInt32} (h : RI w g4 g5 gw gv N c5 K T S V WS wr) : RI w g4 g5 gw gv N c5 K T S V WS wr.drew := h.drewN 1

set_option maxRecDepth 100000 in
set_option maxHeartbeats 2000000 in
theorem rsum_any (v : Value) (l : List UInt8) (w : World) (h : HB w v l) (hl : l.length ≤ 140737488351232) :
    Calls Tryz.prog 44 #[v] w fun e w' => ∃ v', e = .returned v' ∧ w'.ownsRow w.heap.size 5 1 v' 32 (bcs (sha l)) ∧ Below w.heap.size w w' := by
  obtain ⟨p, c, rfl⟩ := h.shape
  obtain ⟨S0, hS⟩ : ∃ S0, S0 = startSt := ⟨_, rfl⟩
  have HS : Hid (S0 = startSt) := hS
  obtain ⟨K, hK⟩ : ∃ K, K = kTab := ⟨_, rfl⟩
  have HK : Hid (K = kTab) := hK
  have HKL : Hid (K.length = 64) := by show _ = _; rw [hK]; exact kTab_length
  have hadds := radds_any
  rw [← hK] at hadds
  have HADDS : Hid _ := hadds
  clear hS hK hadds
  obtain ⟨i0, hi, hz0, hz1, hz2⟩ := info_parts i_u8
  have hbl : blocks l.length = (l.length + 72) / 64 := rfl
  have hlen := h.len.2.1
  have hmx := h.len.2.2.1
  unfold maxLen at hmx
  obtain ⟨N, hN⟩ : ∃ N, N = 64 * blocks l.length := ⟨_, rfl⟩
  have hN1 : l.length + 9 ≤ N := by omega
  have hN2 : N ≤ l.length + 72 := by omega
  have HN : Hid (N = 64 * blocks l.length) := hN
  have hN3 : (64 : Int) * ((blocks l.length : Nat) : Int) = (N : Int) := by omega
  have hB : ((blocks l.length : Nat) : Int) ≤ 2199023255553 := by omega
  clear hN hbl
  go_enter Tryz.func44, Tryz.ntmps44
  go_wp2_with (first | (refine wpList_buildTo rfl 90 _ rfl (some 17) rfl (wcs (stL S0)).toArray (by rw [HS.out]; kernel_rfl) ?_) | (refine wpList_store_ar rfl 90 (.tmp 3) (.tmp 17) rfl w.heap.size (stL S0) rfl rfl 90 _ (heap_alloc_new w _) i8w rfl ?_))
  intro w1 g1 hg1
  have hb1 : Below w.heap.size w w1 := ((Below.refl _ w).alloc (Nat.le_refl _) _).grown hg1 (by simp) (by intro k hk; cases hk; exact Nat.le_refl _)
  clear hg1
  go_wp2_with fail
  refine (HADDS.out _).mono ?_
  rintro e w2 ⟨rfl, hb2⟩
  have g2 := g1.later hb2
  have hb02 := hb1.trans (hb2.mono hb1.size)
  have hw2 : w.heap.size < w2.heap.size := g2.lt
  clear g1 hb1 hb2 HADDS
  go_wp2_with (refine wpList_store_ar rfl 121 (.tmp 4) (.tmp 18) rfl w2.heap.size K rfl rfl 121 _ (heap_alloc_new w2 _) ?si ?sh ?_)
  case si => rw [HKL.out]; exact i64w
  case sh => rw [HKL.out]; rfl
  intro w3 k3 hg3
  have hb3 : Below w2.heap.size w2 w3 := ((Below.refl _ w2).alloc (Nat.le_refl _) _).grown hg3 (by simp) (by intro k hk; cases hk; exact Nat.le_refl _)
  have g3 := g2.later hb3
  have hb03 := hb02.trans (hb3.mono hb02.size)
  have h3 := h.later hb03
  have hs3 := hb03.size
  clear g2 hg3 hb3
  go_wp2_with (first | (at_builtin; refine wpList_append_hb rfl (.tmp 19) (.tmp 20) 22 rfl w.heap.size 5 Tryz.underlying22 i_u8 _ 0 [] rfl (World.ownsRow_nil w3 _ _ _) _ _ _ l rfl h3 ?qa ?qb ?_))
  case qa => omega
  case qb => omega
  intro v4 w4 hown4 hgrow4
  have hown4' : w4.ownsRow w.heap.size 5 1 v4 l.length (bcs l) := by simpa using hown4
  have hb4 : Below w3.heap.size w3 w4 := (Below.refl _ w3).grown hgrow4 (Nat.le_refl _) (by intro k hk; cases hk)
  have hM4 : RM w w2.heap.size K S0 w4 := ⟨g3.later hb4, k3.later hb4, hb03.trans (hb4.mono hs3)⟩
  have hs4 := hM4.2.2.size
  clear hown4 hgrow4 hb4 g3 k3 hb03 h3 hs3 hb02
  go_wp2_with (first | (at_builtin; refine wpList_append_own _ rfl (.tmp 21) (.tmp 22) 22 rfl w.heap.size 5 i0 (.int .u8 0) 1 1 Tryz.underlying22 hi hz0 hz1 hz2 rfl (by decide) _ _ _ rfl (hown4'.alloc _) ⟨w4.heap.size, 0, none⟩ 1 1 [.int .u8 128] rfl rfl ?ra ?rb ?rc ?rd ?re ?_))
  case ra => exact cell_one_new _ _ _
  case rb => intro u hu; simp at hu; subst hu; rfl
  case rc => unfold maxLen; omega
  case rd => omega
  case re => simp; omega
  intro v5 w5 hown5 hgrow5 _
  have hM5 : RM w w2.heap.size K S0 w5 := (hM4.alloc _).beside (hown4'.alloc _) hgrow5
  have hown5' : w5.ownsRow w.heap.size 5 1 v5 (l.length + 1 + 0) (bcs (padTo l 0)) := by
    have e : bcs (padTo l 0) = bcs l ++ [.int .u8 128] := by simp [padTo, bcs, bc]
    rw [e]
    exact hown5
  obtain ⟨p5, c5, hv5⟩ := owns_shape hown5'
  rw [hv5] at hown5' ⊢
  clear hv5 hown5 hgrow5 hM4 hown4' hs4 h
  go_wp2
  go_loopw [5] (fun v wr => ∃ (z : Nat) (p5 : Option Addr) (c5 : Nat), l.length + 9 + z ≤ N ∧ v = .slice p5 (l.length + 1 + z) c5 ∧ wr.ownsRow w.heap.size 5 1 (.slice p5 (l.length + 1 + z) c5) (l.length + 1 + z) (bcs (padTo l z)) ∧ RM w w2.heap.size K S0 wr)
    (fun v _ => N - lenS v)
  case atStart => exact ⟨0, p5, c5, by omega, rfl, hown5', hM5⟩
  case round =>
    clear hown5' hM5
    obtain ⟨z, p5, c5, hz, rfl, hown, hM⟩ := hrel
    have hsz := hM.2.2.size
    by_cases hlt : l.length + 9 + z < N
    · go_wp2_with (first | (go_at_call 84; refine (rblocks_any l.length _ (by omega)).mono ?_; rintro e w' ⟨rfl, hw⟩; have hw2 := hw.symm; subst hw2; clear hw) | (at_builtin; refine wpList_append_own _ rfl (.tmp 32) (.tmp 33) 22 rfl w.heap.size 5 i0 (.int .u8 0) 1 1 Tryz.underlying22 hi hz0 hz1 hz2 rfl (by decide) _ _ _ rfl (hown.alloc _) ⟨wr.heap.size, 0, none⟩ 1 1 [.int .u8 0] rfl rfl ?ta ?tb ?tc ?td ?te ?_))
      case ta => exact cell_one_new _ _ _
      case tb => intro u hu; simp at hu; subst hu; rfl
      case tc => unfold maxLen; omega
      case td => omega
      case te => simp; omega
      intro v6 w6 hown6 hgrow6 _
      have hM6 : RM w w2.heap.size K S0 w6 := (hM.alloc _).beside (hown.alloc _) hgrow6
      rw [padTo_step] at hown6
      obtain ⟨p6, c6, hv6⟩ := owns_shape hown6
      rw [hv6] at hown6 ⊢
      clear hv6 hgrow6 hM hown
      go_wp2
      go_roundw
      case rel => first | exact ⟨z + 1, p6, c6, by omega, rfl, hown6, hM6⟩ | ((repeat apply Exists.intro); exact ⟨⟨z + 1, p6, c6, by omega, rfl, hown6, hM6⟩, rfl⟩)
      case measure => simp [lenS]; omega
    · have hzN : z = 64 * blocks l.length - 9 - l.length := by have := HN.out; omega
      have HT := lenTo_all l z hzN
      have HT8 : Hid (lenTo l z 8 = l ++ padding l.length) := HT
      have e0 : padTo l z = lenTo l z 0 := by simp [lenTo]
      rw [e0] at hown
      have hzn : l.length + 9 + z = N := by omega
      clear HT e0 hzN hlt hz
      have htest : ¬ ((l.length : Int) + 1 + (z : Int)) < (N : Int) - 8 := by omega
      go_wp2_with (go_at_call 84; refine (rblocks_any l.length _ (by omega)).mono ?_; rintro e w' ⟨rfl, hw⟩; have hw2 := hw.symm; subst hw2; clear hw)
      go_loopw [5, 6] (fun v i wr => ∃ (k : Nat) (p5 : Option Addr) (c5 : Nat), k ≤ 8 ∧ i = .int .i64 (56 - 8 * (k : Int)) ∧ v = .slice p5 (l.length + 1 + z + k) c5 ∧ wr.ownsRow w.heap.size 5 1 (.slice p5 (l.length + 1 + z + k) c5) (l.length + 1 + z + k) (bcs (lenTo l z k)) ∧ RM w w2.heap.size K S0 wr)
        (fun v _ _ => N - lenS v)
      case atStart => exact ⟨0, p5, c5, by omega, rfl, rfl, hown, hM⟩
      case round =>
        clear hown hM hsz
        obtain ⟨k, p5, c5, hk, rfl, rfl, hown, hM⟩ := hrel
        have hsz := hM.2.2.size
        by_cases hlt : k < 8
        · have hlv := lenV l.length k hlt
          have HLV : Hid (Value.int .u8 (8 * (l.length : Int) / 2 ^ (56 - 8 * k) % 256) = bc (UInt8.ofNat (8 * l.length / 2 ^ (8 * (7 - k))))) := hlv
          clear hlv
          go_wp2_with (first | (at_builtin; refine wpList_append_own _ rfl (.tmp 39) (.tmp 47) 22 rfl w.heap.size 5 i0 (.int .u8 0) 1 1 Tryz.underlying22 hi hz0 hz1 hz2 rfl (by decide) _ _ _ rfl (hown.alloc _) ⟨wr.heap.size, 0, none⟩ 1 1 [.int .u8 (8 * (l.length : Int) / 2 ^ (56 - 8 * k) % 256)] rfl rfl ?ua ?ub ?uc ?ud ?ue ?_))
          case ua => exact cell_one_new _ _ _
          case ub => intro u hu; simp at hu; subst hu; rfl
          case uc => unfold maxLen; omega
          case ud => omega
          case ue => simp; omega
          intro v6 w6 hown6 hgrow6 _
          have hM6 : RM w w2.heap.size K S0 w6 := (hM.alloc _).beside (hown.alloc _) hgrow6
          rw [lenTo_step l z k hlt _ HLV.out] at hown6
          obtain ⟨p6, c6, hv6⟩ := owns_shape hown6
          rw [hv6] at hown6 ⊢
          clear hv6 hgrow6 hM hown HLV
          go_wp2
          go_roundw
          case rel => first | exact ⟨k + 1, p6, c6, by omega, by go_num, rfl, hown6, hM6⟩ | ((repeat apply Exists.intro); exact ⟨⟨k + 1, p6, c6, by omega, by go_num, rfl, hown6, hM6⟩, rfl⟩)
          case measure => simp [lenS]; omega
        · have hk8 : k = 8 := by omega
          subst hk8
          have hN8 : l.length + 1 + z + 8 = N := by omega
          rw [hN8, HT8.out] at hown
          rw [hN8]
          obtain ⟨g5, cur5, hp5, hg5⟩ := owns_block hown (by omega)
          subst hp5
          have hT := HB.of_owns hown
          have hTl : (l ++ padding l.length).length = N := by
            have := hT.len.1
            omega
          have HSH : Hid (sha l = spellSt (mixes S0 (l ++ padding l.length) (blocks l.length))) := by
            show spellSt (mixes startSt _ _) = _
            rw [HS.out]
          obtain ⟨Bn, hBn⟩ : ∃ Bn, Bn = blocks l.length := ⟨_, rfl⟩
          have HNB : Hid (N = 64 * Bn) := by show _ = _; rw [hBn]; exact HN.out
          rw [← hBn] at HSH
          have ne1 := hM.1.apart hg5 (by decide)
          have ne2 := hM.2.1.apart hg5 (by decide)
          have hg5lt : g5 < wr.heap.size := (Array.getElem?_eq_some_iff.1 hg5).1
          have hg4lt := hM.2.1.lt
          obtain ⟨g4, hg4⟩ : ∃ g4, g4 = w2.heap.size := ⟨_, rfl⟩
          rw [← hg4] at hM ne2 hg4lt hw2 ⊢
          generalize l ++ padding l.length = T at *
          have HTL : Hid (T.length = N) := hTl
          have hN128 : N ≤ 140737488351304 := by omega
          clear hTl hown hg5 hk hlt hsz HT8 hN8 hzn htest hN3 hB hBn hg4 HN hN1 hN2 hlen hmx hz2 hz1 hz0 hi hl
          go_wp2
          go_loopw [7] (fun i wr => ∃ j : Nat, 64 * j ≤ N ∧ i = .int .i64 ((64 * j : Nat) : Int) ∧ RM w g4 K (mixes S0 T j) wr ∧ HB wr (.slice (some ⟨g5, 0, none⟩) N c5) T ∧ g5 < wr.heap.size ∧ g4 < wr.heap.size)
            (fun i _ => N - (intOf i).toNat)
          case atStart => exact ⟨0, by omega, rfl, hM, hT, hg5lt, hg4lt⟩
          case round =>
            clear hM hT hg5lt hg4lt
            obtain ⟨j, hj, rfl, hM, hT, hg5lt, hg4lt⟩ := hrel
            by_cases hlt : 64 * j + 64 ≤ N
            · have HX : mixes S0 T (j + 1) = mixF (mixes S0 T j) ((T.drop (64 * j)).take 64) := rfl
              obtain ⟨X, hX⟩ : ∃ X, X = (T.drop (64 * j)).take 64 := ⟨_, rfl⟩
              rw [← hX] at HX
              have HXE : Hid (X = (T.drop (64 * j)).take 64) := hX
              generalize mixes S0 T j = S at *
              have HMX : Hid (mixes S0 T (j + 1) = mixF S X) := HX
              clear HX hX
              obtain ⟨n, hn⟩ : ∃ n, n = 64 * j := ⟨_, rfl⟩
              rw [← hn] at hlt hj ⊢
              have Hn : Hid (n = 64 * j) := hn
              have HXN : Hid (X = (T.drop n).take 64) := by show _ = _; rw [hn]; exact HXE.out
              clear hn HXE
              have htest : (n : Int) < (N : Int) := by omega
              go_wp2_with (first | (refine wpList_load_row rfl 90 (.tmp 3) rfl w.heap.size rfl 90 _ _ _ (hM.alloc _).1 Tryz.underlying90 rfl (by rw [i8w]; rfl) ?_) | (refine wpList_store_ar rfl 90 (.tmp 9) (.tmp 55) rfl (wr.heap.size + 1) (stL S) rfl rfl 90 _ (heap_alloc2_new wr _ _) i8w rfl ?_))
              intro w7 gV hg7
              have hb7 : Below wr.heap.size wr w7 := (((Below.refl _ wr).alloc (Nat.le_refl _) _).alloc (by simp) _).grown hg7 (by simp; omega) (by intro k hk; cases hk; omega)
              have a0 : AR w7 wr.heap.size 121 (schedL X 0) := ((AR.new wr 121 (schedL X 0) _ rfl).alloc _).grown hg7 (by omega)
              have hI0 : RI w g4 g5 wr.heap.size (wr.heap.size + 1) N c5 K T S S (schedL X 0) w7 := ⟨hM.later hb7, hT.later hb7, a0, gV⟩
              have hw1 : w.heap.size < wr.heap.size := hM.1.lt
              have hTn : n + 64 ≤ T.length := by rw [HTL.out]; exact hlt
              have HTN : Hid (n + 64 ≤ T.length) := hTn
              clear hg7 hb7 a0 gV hM hT hTn
              obtain ⟨gw, hgw⟩ : ∃ gw, gw = wr.heap.size := ⟨_, rfl⟩
              rw [← hgw] at hI0 hw1 hg5lt hg4lt ⊢
              clear hgw
              go_wp2
              go_loopw [56] (fun i wq => ∃ k : Nat, k ≤ 64 ∧ i = .int .i64 k ∧ RI w g4 g5 gw (gw + 1) N c5 K T S (rds S X k) (schedL X k) wq)
                (fun i _ => 64 - (intOf i).toNat)
              case atStart => exact ⟨0, by omega, rfl, hI0⟩
              case round =>
                clear hI0
                obtain ⟨k, hk, rfl, hI⟩ := hrel
                by_cases hlt2 : k < 64
                · by_cases h16 : k < 16
                  · --<A
                    have k1 : ∀ w, (Instr.slice 22 (.slice (some ⟨g5, 0, none⟩) N c5) (some (.int .i64 ((n : Int) + 4 * (k : Int)))) none none).run Tryz.prog w = .ok (.slice (cutP (some ⟨g5, 0, none⟩) c5 (n + 4 * k)) (N - (n + 4 * k)) (c5 - (n + 4 * k))) w := fun w => run_cut (P := Tryz.prog) Tryz.underlying22 s_u8 _ N c5 (n + 4 * k) _ (by omega) (by omega) w
                    have hh := hI.2.1.behind (n + 4 * k) (by omega)
                    have hwd := wordAt_in T X n k HXN.out h16
                    have HWD : Hid (wordAt (T.drop (n + 4 * k)) 0 = nextW X (Wl X k)) := by show _ = _; rw [hwd, nextW_first X k h16]
                    have h4 : 4 ≤ (T.drop (n + 4 * k)).length := by have := HTN.out; simp; omega
                    have H4 : Hid (4 ≤ (T.drop (n + 4 * k)).length) := h4
                    clear hwd h4
                    obtain ⟨y0, hy⟩ := schedL_some X k k (by omega) (by omega)
                    have qc := hI.2.2.1.cell k y0 hy
                    have qf := hI.2.2.1.free k
                    clear hy
                    go_wp2_with fail
                    refine (rword_gen _ _ _ hh H4.out).mono ?_
                    rintro e w' ⟨rfl, m, hw⟩
                    rw [HWD.out]
                    subst hw
                    have hI2 := hI.drewN m
                    have rc : (wr.drewN m).cell? ⟨gw, k, none⟩ = some (.int .u32 (y0.toNat : Int)) := qc
                    have rf : (wr.drewN m).frozen? ⟨gw, k, none⟩ = false := qf
                    clear hI qc qf hh H4 HWD
                    generalize wr.drewN m = w8 at *
                    have HW9 := hI2.putW hw1 hg4lt hg5lt (by omega) k (nextW X (Wl X k)) (.int .u32 ((nextW X (Wl X k)).toNat : Int)) rfl
                    rw [schedL_set X k hlt2] at HW9
                    clear hI2
                    have HR : Hid (rds S X (k + 1) = rnd (rds S X k) (kTab.getD k 0) (nextW X (Wl X k))) := rfl
                    have HKK : Hid (K[k]? = some (kTab.getD k 0)) := by show _ = _; rw [HK.out]; exact kTab_get k hlt2
                    have HWW : Hid ((schedL X (k + 1))[k]? = some (nextW X (Wl X k))) := schedL_at X k hlt2
                    generalize kTab.getD k 0 = kk at *
                    generalize nextW X (Wl X k) = ww at *
                    generalize rds S X k = V at *
                    go_wp2_with fail
                    clear rc rf
                    have q8 := ar8 HW9.2.2.2
                    have qk := HW9.1.2.1.cell k _ HKK.out
                    have qw := HW9.2.2.1.cell k _ HWW.out
                    generalize (w8.setCell ⟨gw, k, none⟩ (.int .u32 (ww.toNat : Int))) = w9 at *
                    clear HKK HWW
                    obtain ⟨c0, c1, c2, c3, c4, c5', c6, c7, f0, f1, f2, f3, f4, f5, f6, f7⟩ := q8
                    go_region_with (go_at_call 87; rw [wrapadd kk ww]; refine (rround_any V (addw kk ww) _).mono ?_; rintro e w10 ⟨M, hM, rfl, hb10⟩; have HI10 := HW9.drew.later hb10; obtain ⟨d0, d1, d2, d3, d4, d5, d6, d7, e0, e1, e2, e3, e4, e5, e6, e7⟩ := ar8 HI10.2.2.2)
                    all_goals (
                      have HI11 := HI10.putV (by omega) (by omega) (by omega) (by omega) M
                      change Exit.inBlock _ _ _ _ (put8 w10 (gw + 1) M)
                      clear d0 d1 d2 d3 d4 d5 d6 d7 e0 e1 e2 e3 e4 e5 e6 e7 c0 c1 c2 c3 c4 c5' c6 c7 f0 f1 f2 f3 f4 f5 f6 f7 HI10 hb10 HW9 qk qw
                      generalize put8 w10 (gw + 1) M = w11 at *
                      rw [hM.out, rndA_eq, ← HR.out] at HI11
                      clear hM
                      go_wp2
                      exact ⟨⟨k + 1, by omega, by go_num, HI11⟩, by simp [intOf]; omega⟩)
                    --A>
                  · --<B
                    have hk1 : 16 ≤ k := by omega
                    have hA16 := hI.2.2.1.cell (k - 16) _ (schedL_get X k (k - 16) (by omega))
                    have hA15 := hI.2.2.1.cell (k - 15) _ (schedL_get X k (k - 15) (by omega))
                    have hA7 := hI.2.2.1.cell (k - 7) _ (schedL_get X k (k - 7) (by omega))
                    have hA2 := hI.2.2.1.cell (k - 2) _ (schedL_get X k (k - 2) (by omega))
                    obtain ⟨y0, hy⟩ := schedL_some X k k (by omega) (by omega)
                    have qc := hI.2.2.1.cell k y0 hy
                    have qf := hI.2.2.1.free k
                    clear hy
                    obtain ⟨xa, ea⟩ : ∃ x, (Wl X k).getD (k - 16) 0 = x := ⟨_, rfl⟩
                    obtain ⟨xb, eb⟩ : ∃ x, (Wl X k).getD (k - 15) 0 = x := ⟨_, rfl⟩
                    obtain ⟨xc, ec⟩ : ∃ x, (Wl X k).getD (k - 7) 0 = x := ⟨_, rfl⟩
                    obtain ⟨xd, ed⟩ : ∃ x, (Wl X k).getD (k - 2) 0 = x := ⟨_, rfl⟩
                    rw [ea] at hA16
                    rw [eb] at hA15
                    rw [ec] at hA7
                    rw [ed] at hA2
                    have HN0 := nextW_then X k hk1 xa xb xc xd ea eb ec ed
                    clear ea eb ec ed
                    have HE : Hid _ := HN0
                    clear HN0
                    have ha := w32 xa
                    have hb := w32 xb
                    have hcc := w32 xc
                    have hd := w32 xd
                    have hn16 : ¬ (k : Int) < 16 := by omega
                    go_wp2
                    go_quiet (fail)
                    have fI := hI.drewN nq
                    have f16 : (wr.drewN nq).cell? ⟨gw, k - 16, none⟩ = some (.int .u32 (xa.toNat : Int)) := hA16
                    have f7 : (wr.drewN nq).cell? ⟨gw, k - 7, none⟩ = some (.int .u32 (xc.toNat : Int)) := hA7
                    have ff : (wr.drewN nq).frozen? ⟨gw, k, none⟩ = false := qf
                    have fc : (wr.drewN nq).cell? ⟨gw, k, none⟩ = some (.int .u32 (y0.toNat : Int)) := qc
                    clear hI hA16 hA15 hA7 hA2 qf qc
                    generalize wr.drewN nq = W at *
                    have i16 : IntKind.i64.wrap ((k : Int) - 16) = (k : Int) - 16 := by rw [IntKind.wrap_i64]; omega
                    have i7 : IntKind.i64.wrap ((k : Int) - 7) = (k : Int) - 7 := by rw [IntKind.wrap_i64]; omega
                    have t16 : ((k : Int) - 16).toNat = k - 16 := by omega
                    have t7 : ((k : Int) - 7).toNat = k - 7 := by omega
                    have p16 : (0 : Int) ≤ (k : Int) - 16 := by omega
                    have p7 : (0 : Int) ≤ (k : Int) - 7 := by omega
                    have u16 : (k : Int) - 16 < 64 := by omega
                    have u7 : (k : Int) - 7 < 64 := by omega
                    have n16 : (⟨gw, k, none⟩ : Addr) ≠ ⟨gw, k - 16, none⟩ := by intro e; simp only [Addr.mk.injEq] at e; omega
                    have n7 : (⟨gw, k, none⟩ : Addr) ≠ ⟨gw, k - 7, none⟩ := by intro e; simp only [Addr.mk.injEq] at e; omega
                    have s7 : (7 : Int) ≤ (k : Int) := by omega
                    have s71 : (k : Int) < 71 := by omega
                    go_wp2_with fail
                    go_region_held3 (fun w' => w'.cell? ⟨gw, k - 16, none⟩ = some (.int .u32 (xa.toNat : Int)) ∧ w'.cell? ⟨gw, k - 7, none⟩ = some (.int .u32 (xc.toNat : Int))) (first | exact ⟨f16, f7⟩ | exact ⟨(World.cell?_setCell_other _ _ _ _ n16).trans f16, (World.cell?_setCell_other _ _ _ _ n7).trans f7⟩) (first | (go_at_call_of 86 (Value.int IntKind.i64 7); refine (right7 xb _).mono ?_; rintro e w' ⟨rfl, m1, hm1⟩; subst hm1) | (go_at_call_of 86 (Value.int IntKind.i64 18); refine (right18 xb _).mono ?_; rintro e w' ⟨rfl, m2, hm2⟩; subst hm2) | (go_at_call_of 86 (Value.int IntKind.i64 17); refine (right17 xd _).mono ?_; rintro e w' ⟨rfl, m3, hm3⟩; subst hm3) | (go_at_call_of 86 (Value.int IntKind.i64 19); refine (right19 xd _).mono ?_; rintro e w' ⟨rfl, m4, hm4⟩; subst hm4))
                    rename_i hHeld
                    clear hHeld
                    rw [ssig0_eq xb, ssig1_eq xd]
                    have hu : Value.int .u32 (IntKind.u32.wrap (IntKind.u32.wrap (IntKind.u32.wrap ((xa.toNat : Int) + ((ssig0 xb).toNat : Int)) + (xc.toNat : Int)) + ((ssig1 xd).toNat : Int))) = wc (nextW X (Wl X k)) := by
                      unfold wc
                      rw [← HE.out, IntKind.wrap_u32, IntKind.wrap_u32, IntKind.wrap_u32]
                      congr 1
                      omega
                    rw [hu]
                    have HW9 := (fI.drewN (1 + m1 + m2 + m3 + m4)).putW hw1 hg4lt hg5lt (by omega) k (nextW X (Wl X k)) _ rfl
                    rw [schedL_set X k hlt2] at HW9
                    have HR : Hid (rds S X (k + 1) = rnd (rds S X k) (kTab.getD k 0) (nextW X (Wl X k))) := rfl
                    have HKK : Hid (K[k]? = some (kTab.getD k 0)) := by show _ = _; rw [HK.out]; exact kTab_get k hlt2
                    have HWW : Hid ((schedL X (k + 1))[k]? = some (nextW X (Wl X k))) := schedL_at X k hlt2
                    clear fI f16 f7 ff fc i16 i7 t16 t7 p16 p7 u16 u7 n16 n7 hu HE
                    generalize kTab.getD k 0 = kk at *
                    generalize (W.drewN (1 + m1 + m2 + m3 + m4)).setCell ⟨gw, k, none⟩ (wc (nextW X (Wl X k))) = w9 at *
                    generalize nextW X (Wl X k) = ww at *
                    generalize rds S X k = V at *
                    go_wp2_with fail
                    have q8 := ar8 HW9.2.2.2
                    have qk := HW9.1.2.1.cell k _ HKK.out
                    have qw := HW9.2.2.1.cell k _ HWW.out
                    clear HKK HWW
                    obtain ⟨c0, c1, c2, c3, c4, c5', c6, c7, f0, f1, f2, f3, f4, f5, f6, f7⟩ := q8
                    go_region_with (go_at_call 87; rw [wrapadd kk ww]; refine (rround_any V (addw kk ww) _).mono ?_; rintro e w10 ⟨M, hM, rfl, hb10⟩; have HI10 := HW9.drew.later hb10; obtain ⟨d0, d1, d2, d3, d4, d5, d6, d7, e0, e1, e2, e3, e4, e5, e6, e7⟩ := ar8 HI10.2.2.2)
                    all_goals (
                      have HI11 := HI10.putV (by omega) (by omega) (by omega) (by omega) M
                      change Exit.inBlock _ _ _ _ (put8 w10 (gw + 1) M)
                      clear d0 d1 d2 d3 d4 d5 d6 d7 e0 e1 e2 e3 e4 e5 e6 e7 c0 c1 c2 c3 c4 c5' c6 c7 f0 f1 f2 f3 f4 f5 f6 f7 HI10 hb10 HW9 qk qw
                      generalize put8 w10 (gw + 1) M = w11 at *
                      rw [hM.out, rndA_eq, ← HR.out] at HI11
                      clear hM
                      go_wp2
                      exact ⟨⟨k + 1, by omega, by go_num, HI11⟩, by simp [intOf]; omega⟩)
                    --B>
                · have hk64 : k = 64 := by omega
                  subst hk64
                  clear hlt2 hk
                  have HMX2 : mixes S0 T (j + 1) = addSt S (rds S X 64) := HMX.out
                  obtain ⟨⟨r1, r2, r3⟩, r4, r5, r6⟩ := hI
                  generalize rds S X 64 = V at *
                  have HMX3 : Hid (mixes S0 T (j + 1) = addSt S V) := HMX2
                  have hJ0 : RJ w g4 g5 (gw + 1) N c5 K T (addUp (stL S) (stL V) 0) V wr := ⟨r1, r2, r3, r4, r6⟩
                  clear HMX2 HMX r1 r2 r3 r4 r5 r6 HXN
                  go_wp2
                  go_loopw [117] (fun i wq => ∃ k : Nat, k ≤ 8 ∧ i = .int .i64 k ∧ RJ w g4 g5 (gw + 1) N c5 K T (addUp (stL S) (stL V) k) V wq)
                    (fun i _ => 8 - (intOf i).toNat)
                  case atStart => exact ⟨0, by omega, rfl, hJ0⟩
                  case round =>
                    clear hJ0
                    obtain ⟨k, hk, rfl, hJ⟩ := hrel
                    by_cases hlt3 : k < 8
                    · have qx := hJ.1.cell k _ ((addUp_get (stL S) (stL V) k k (Nat.le_refl _)).trans (stL_get S k hlt3))
                      have qy := hJ.2.2.2.2.cell k _ (stL_get V k hlt3)
                      have qf := hJ.1.free k
                      have HAU : Hid ((addUp (stL S) (stL V) k).set k (addw ((stL S).getD k 0) ((stL V).getD k 0)) = addUp (stL S) (stL V) (k + 1)) := rfl
                      generalize (stL S).getD k 0 = x at *
                      generalize (stL V).getD k 0 = y at *
                      have hx := w32 x
                      have hy := w32 y
                      have hk8 : (k : Int) < 8 := by omega
                      go_wp2
                      go_region
                      have hJ2 := (hJ.put (by omega) ne1 (by omega) k (addw x y) (.int .u32 (((x.toNat : Int) + (y.toNat : Int)) % 4294967296)) (by rw [addw_eq]; rfl)).drew
                      rw [HAU.out] at hJ2
                      generalize (wr.setCell ⟨w.heap.size, k, none⟩ (.int .u32 (((x.toNat : Int) + (y.toNat : Int)) % 4294967296))).drew = w12 at *
                      clear hJ qx qy qf HAU
                      go_wp2
                      go_roundw
                      case rel => first | exact ⟨k + 1, by omega, by go_num, hJ2⟩ | ((repeat apply Exists.intro); exact ⟨⟨k + 1, by omega, by go_num, hJ2⟩, rfl⟩)
                      case measure => simp [intOf]; omega
                    · have hk8 : k = 8 := by omega
                      subst hk8
                      clear hlt3 hk
                      rw [addUp_all, ← HMX3.out] at hJ
                      have hlt5 := hJ.2.2.2.2.lt
                      obtain ⟨r1, r2, r3, r4, _⟩ := hJ
                      go_wp2
                      go_roundw
                      case rel => first | exact ⟨j + 1, by have := Hn.out; omega, by have := Hn.out; congr 1; omega, ⟨r1, r2, r3⟩, r4, by omega, by omega⟩ | ((repeat apply Exists.intro); exact ⟨⟨j + 1, by have := Hn.out; omega, by have := Hn.out; congr 1; omega, ⟨r1, r2, r3⟩, r4, by omega, by omega⟩, rfl⟩)
                      case measure => simp [intOf]; omega
            · have hjN : j = Bn := by have := HNB.out; omega
              subst hjN
              clear hlt hj
              have hend : ((64 * j : Nat) : Int) = (N : Int) := by have := HNB.out; omega
              obtain ⟨r1, r2, r3⟩ := hM
              generalize mixes S0 T j = S at *
              rw [hend]
              go_wp2_with (refine wpList_load_row rfl 90 (.tmp 3) rfl w.heap.size rfl 90 _ _ _ r1 Tryz.underlying90 rfl (by rw [i8w]; rfl) ?_)
              clear hend hT hg5lt hg4lt r1 r2 HNB HTL ne1 hw2 ne2
              have h0 : wr.ownsRow w.heap.size 5 1 (.slice none 0 0) (4 * 0) (bcs (((stL S).take 0).flatMap spellW)) := World.ownsRow_nil wr _ _ _
              go_loopw [14, 130] (fun v i wq => ∃ (k : Nat) (p6 : Option Addr) (c6 : Nat), k ≤ 8 ∧ i = .int .i64 k ∧ v = .slice p6 (4 * k) c6 ∧ wq.ownsRow w.heap.size 5 1 (.slice p6 (4 * k) c6) (4 * k) (bcs (((stL S).take k).flatMap spellW)) ∧ Below w.heap.size w wq)
                (fun _ i _ => 8 - (intOf i).toNat)
              case atStart => exact ⟨0, none, 0, by omega, rfl, rfl, h0, r3⟩
              case round =>
                clear h0 r3
                obtain ⟨k, p6, c6, hk, rfl, rfl, hown, hbe⟩ := hrel
                have hsz := hbe.size
                by_cases hlt : k < 8
                · have hx := stL_get S k hlt
                  have HFL : Hid (bcs (((stL S).take (k + 1)).flatMap spellW) = bcs (((stL S).take k).flatMap spellW) ++ bcs (spellW ((stL S).getD k 0))) := by
                    show _ = _
                    rw [List.take_add_one, hx]
                    simp [bcs]
                  have kx := run_index8 S k hlt
                  generalize (stL S).getD k 0 = x at *
                  clear hx
                  have hx := w32 x
                  have hk8 : (k : Int) < 8 := by omega
                  have HSV : Hid (bcs (spellW x) = [.int .u8 ((x.toNat : Int) / 16777216), .int .u8 ((x.toNat : Int) / 65536 % 256), .int .u8 ((x.toNat : Int) / 256 % 256), .int .u8 ((x.toNat : Int) % 256)]) := spellV x
                  obtain ⟨i1, hi, hz0, hz1, hz2⟩ := info_parts i_u8
                  go_wp2_with (at_builtin; refine wpList_append_own _ rfl (.tmp 133) (.tmp 145) 22 rfl w.heap.size 5 i1 (.int .u8 0) 1 1 Tryz.underlying22 hi hz0 hz1 hz2 rfl (by decide) _ _ _ rfl (hown.alloc _) ⟨wr.heap.size, 0, none⟩ 4 4 [.int .u8 ((x.toNat : Int) / 16777216), .int .u8 ((x.toNat : Int) / 65536 % 256), .int .u8 ((x.toNat : Int) / 256 % 256), .int .u8 ((x.toNat : Int) % 256)] rfl rfl ?va ?vb ?vc ?vd ?ve ?_)
                  case va => exact cells_new _ [_, _, _, _] _
                  case vb => intro u hu; simp at hu; rcases hu with rfl | rfl | rfl | rfl <;> rfl
                  case vc => unfold maxLen; omega
                  case vd => omega
                  case ve => simp; omega
                  intro v6 w6 hown6 hgrow6 _
                  have hb6 : Below w.heap.size w w6 := (hbe.alloc hsz _).grown hgrow6 (by simp; omega) (fun k hk => (hown.lt k hk).1)
                  rw [← HSV.out, ← HFL.out] at hown6
                  obtain ⟨p7, c7, hv6⟩ := owns_shape hown6
                  rw [hv6] at hown6 ⊢
                  clear hv6 hgrow6 hown hbe HFL HSV kx
                  go_wp2
                  go_roundw
                  case rel => first | exact ⟨k + 1, p7, c7, by omega, by go_num, rfl, hown6, hb6⟩ | ((repeat apply Exists.intro); exact ⟨⟨k + 1, p7, c7, by omega, by go_num, rfl, hown6, hb6⟩, rfl⟩)
                  case measure => simp [intOf]; omega
                · have hk8 : k = 8 := by omega
                  subst hk8
                  go_wp2
                  go_ret
                  refine ⟨_, rfl, ?_, hbe⟩
                  rw [HSH.out]
                  exact hown

end Go.Proofs.YtahfjemllkbpgaaGreatDoor
