/- What this text proves: the walks of the document's right, word, adds and round (annalsref01) over this program. What this text proves: the walk of the document's adds (annalsref01) over this program: the rounds' numbers. What this text proves: an index into an array of eight words. What this text holds: a plain fact on a number in eight bytes. What this text proves: the walk of the document's Sum (annalsref01) over this program: SHA-256 of any bytes, in new memory. What this text proves: the walk of sha.Cut over this program. What this text proves: the walk of the document's Cut over this program. -/
import Derived.Test.YtcgpgnajmfemhaaGreatDoorJSm
import Derived.Test.YtcgpgnajmfemhaaGreatDoorJMix
import Derived.Great.BuildSlice
import Derived.Test.YtcgpgnajmfemhaaGreatDoorJSha
import Derived.Deep.RegionHeld3
namespace Go.Proofs.YtcgpgnajmfemhaaGreatDoor
open Go.RowKit

theorem word_sum (x0 x1 x2 x3 : UInt8) : ((UInt32.ofNat (x0.toNat * 16777216 + x1.toNat * 65536 + x2.toNat * 256 + x3.toNat)).toNat : Int) = (x0.toNat : Int) * 16777216 + (x1.toNat : Int) * 65536 + (x2.toNat : Int) * 256 + (x3.toNat : Int) := by
  have h0 := x0.toNat_lt
  have h1 := x1.toNat_lt
  have h2 := x2.toNat_lt
  have h3 := x3.toNat_lt
  rw [ofNat32 _ (by omega)]
  omega

/-- A round with its two numbers added first. -/
def rndA (s : St) (a : UInt32) : St :=
  ⟨UInt32.ofNat ((UInt32.ofNat (s.h.toNat + (bsig1 s.e).toNat + (chf s.e s.f s.g).toNat + a.toNat)).toNat + (bsig0 s.a).toNat + (majf s.a s.b s.c).toNat), s.a, s.b, s.c, UInt32.ofNat (s.d.toNat + (UInt32.ofNat (s.h.toNat + (bsig1 s.e).toNat + (chf s.e s.f s.g).toNat + a.toNat)).toNat), s.e, s.f, s.g⟩
theorem rndA_eq (s : St) (k w : UInt32) : rndA s (addw k w) = rnd s k w := by
  have e : UInt32.ofNat (s.h.toNat + (bsig1 s.e).toNat + (chf s.e s.f s.g).toNat + (addw k w).toNat) = tOf s k w := by
    apply UInt32.toNat_inj.1
    unfold tOf addw
    rw [ofNat32m, ofNat32m, ofNat32m]
    omega
  unfold rndA rnd
  rw [e]

theorem aA_eq (s : St) (a : UInt32) : ((s.h.toNat : Int) + ((bsig1 s.e).toNat : Int) + ((chf s.e s.f s.g).toNat : Int) + (a.toNat : Int) + ((bsig0 s.a).toNat : Int) + ((majf s.a s.b s.c).toNat : Int)) % 4294967296 = ((rndA s a).a.toNat : Int) := by
  show _ = ((UInt32.ofNat _).toNat : Int)
  rw [ofNat32m, ofNat32m]
  omega
theorem eA_eq (s : St) (a : UInt32) : ((s.d.toNat : Int) + ((s.h.toNat : Int) + ((bsig1 s.e).toNat : Int) + ((chf s.e s.f s.g).toNat : Int) + (a.toNat : Int))) % 4294967296 = ((rndA s a).e.toNat : Int) := by
  show _ = ((UInt32.ofNat _).toNat : Int)
  rw [ofNat32m, ofNat32m]
  omega

end Go.Proofs.YtcgpgnajmfemhaaGreatDoor

namespace Go.Proofs.YtcgpgnajmfemhaaGreatDoor
open Go.RowKit

end Go.Proofs.YtcgpgnajmfemhaaGreatDoor

namespace Go.Proofs.YtcgpgnajmfemhaaGreatDoor
open Go.RowKit

theorem run_index8 (S : St) (k : Nat) (hk : k < 8) (w : World) : (Instr.index 217 (.agg (wcs (stL S)).toArray) (.int .i64 (k : Int))).run Tryz.prog w = .ok (.int .u32 (((stL S).getD k 0).toNat : Int)) w := by
  have hu : Tryz.prog.underlying 217 = some (.array 8 107) := Tryz.underlying217
  have hs : (Tryz.prog.info? 107).map (·.size) = some 1 := by kernel_rfl
  obtain ⟨i, hi, hs⟩ := Option.map_eq_some_iff.1 hs
  match k, hk with
  | 0, _ => simp [Instr.index, run_underlying hu, asIntOf, Go.sizeOf, typeInfo, hi, Result.andThen, go_sem, wcs, stL, wc]
  | 1, _ => simp [Instr.index, run_underlying hu, asIntOf, Go.sizeOf, typeInfo, hi, hs, Result.andThen, go_sem, wcs, stL, wc]
  | 2, _ => simp [Instr.index, run_underlying hu, asIntOf, Go.sizeOf, typeInfo, hi, hs, Result.andThen, go_sem, wcs, stL, wc]
  | 3, _ => simp [Instr.index, run_underlying hu, asIntOf, Go.sizeOf, typeInfo, hi, hs, Result.andThen, go_sem, wcs, stL, wc]
  | 4, _ => simp [Instr.index, run_underlying hu, asIntOf, Go.sizeOf, typeInfo, hi, hs, Result.andThen, go_sem, wcs, stL, wc]
  | 5, _ => simp [Instr.index, run_underlying hu, asIntOf, Go.sizeOf, typeInfo, hi, hs, Result.andThen, go_sem, wcs, stL, wc]
  | 6, _ => simp [Instr.index, run_underlying hu, asIntOf, Go.sizeOf, typeInfo, hi, hs, Result.andThen, go_sem, wcs, stL, wc]
  | 7, _ => simp [Instr.index, run_underlying hu, asIntOf, Go.sizeOf, typeInfo, hi, hs, Result.andThen, go_sem, wcs, stL, wc]

end Go.Proofs.YtcgpgnajmfemhaaGreatDoor

namespace Go.Proofs.YtcgpgnajmfemhaaGreatDoor
theorem be64_get (n k : Nat) (hk : k < 8) : (be64 n)[k]? = some (UInt8.ofNat (n / 2 ^ (8 * (7 - k)))) := by simp [be64, hk]
end Go.Proofs.YtcgpgnajmfemhaaGreatDoor

namespace Go.Proofs.YtcgpgnajmfemhaaGreatDoor
open Go.RowKit

/-- The text behind n bytes of the padding. -/
def padTo (l : List UInt8) (n : Nat) : List UInt8 := l ++ 128 :: List.replicate n 0
theorem padTo_step (l : List UInt8) (n : Nat) : bcs (padTo l n) ++ [.int .u8 0] = bcs (padTo l (n + 1)) := by
  have e : (128 : UInt8) :: List.replicate (n + 1) 0 = 128 :: List.replicate n 0 ++ [0] := by rw [List.replicate_succ']; rfl
  unfold padTo
  rw [e]
  simp [bcs, bc]
theorem padTo_length (l : List UInt8) (n : Nat) : (padTo l n).length = l.length + 1 + n := by simp [padTo]; omega

/-- The text behind k bytes of its length. -/
def lenTo (l : List UInt8) (z k : Nat) : List UInt8 := padTo l z ++ (be64 (8 * l.length)).take k
theorem lenTo_step (l : List UInt8) (z k : Nat) (hk : k < 8) (v : Value) (hv : v = bc (UInt8.ofNat (8 * l.length / 2 ^ (8 * (7 - k))))) : bcs (lenTo l z k) ++ [v] = bcs (lenTo l z (k + 1)) := by
  subst hv
  unfold lenTo
  rw [List.take_add_one, be64_get _ _ hk]
  simp [bcs]
theorem lenTo_length (l : List UInt8) (z k : Nat) (hk : k ≤ 8) : (lenTo l z k).length = l.length + 1 + z + k := by
  unfold lenTo
  rw [List.length_append, padTo_length, List.length_take, be64_length]
  omega
theorem lenTo_all (l : List UInt8) (z : Nat) (hz : z = 64 * blocks l.length - 9 - l.length) : lenTo l z 8 = l ++ padding l.length := by
  subst hz
  unfold lenTo padTo padding
  rw [List.take_of_length_le (by rw [be64_length]; omega), List.append_assoc]
  rfl

/-- How long a slice is: a loop's measure. -/
def lenS : Value → Nat | .slice _ n _ => n | _ => 0

theorem AR.beside {w w' : World} {g : Nat} {t e : TypeId} {L : List UInt32} {base n : Nat} {v : Value} {xs : List Value} (h : AR w g t L) (ho : w.ownsRow base e 1 v n xs) (hne : t ≠ e) (hg : w.grownBy w' v.ownBlock) : AR w' g t L := by
  unfold AR
  rw [hg.block g h.lt ?_]
  · exact h
  · intro e1
    rcases ho.2 with ⟨rfl, _⟩ | ⟨g', cap, cur, rfl, _, hgg, _⟩
    · cases e1
    · simp only [Value.ownBlock, Option.some.injEq] at e1
      subst e1
      unfold AR at h
      rw [h] at hgg
      simp only [Option.some.injEq, Obj.cells.injEq] at hgg
      exact hne hgg.2.1

/-- What the document's Sum holds in memory beside the text: the state and the numbers. -/
def RM (w : World) (g4 : Nat) (K : List UInt32) (S : St) (wr : World) : Prop := AR wr w.heap.size 217 (stL S) ∧ AR wr g4 248 K ∧ Below w.heap.size w wr
theorem RM.beside {w wr w' : World} {g4 : Nat} {K : List UInt32} {S : St} {n : Nat} {v : Value} {xs : List Value} (h : RM w g4 K S wr) (ho : wr.ownsRow w.heap.size 5 1 v n xs) (hg : wr.grownBy w' v.ownBlock) : RM w g4 K S w' :=
  ⟨h.1.beside ho (by decide) hg, h.2.1.beside ho (by decide) hg, h.2.2.grown hg h.2.2.size (fun k hk => (ho.lt k hk).1)⟩
theorem RM.alloc {w wr : World} {g4 : Nat} {K : List UInt32} {S : St} (h : RM w g4 K S wr) (o : Obj) : RM w g4 K S (wr.alloc o) := ⟨h.1.alloc o, h.2.1.alloc o, h.2.2.alloc h.2.2.size o⟩
theorem RM.drewN {w wr : World} {g4 : Nat} {K : List UInt32} {S : St} (h : RM w g4 K S wr) (n : Nat) : RM w g4 K S (wr.drewN n) := ⟨h.1, h.2.1, below_drewN h.2.2 n⟩

theorem lenV (n k : Nat) (hk : k < 8) : Value.int .u8 (8 * (n : Int) / 2 ^ (56 - 8 * k) % 256) = bc (UInt8.ofNat (8 * n / 2 ^ (8 * (7 - k)))) := by
  unfold bc
  have e : 56 - 8 * k = 8 * (7 - k) := by omega
  rw [e, show 8 * (n : Int) / 2 ^ (8 * (7 - k)) % 256 = ((8 * n / 2 ^ (8 * (7 - k)) % 256 : Nat) : Int) by simp]
  simp

theorem owns_block {w : World} {base : Nat} {e : TypeId} {p : Option Addr} {n c : Nat} {xs : List Value} (h : w.ownsRow base e 1 (.slice p n c) n xs) (hn : 0 < n) : ∃ g cur, p = some ⟨g, 0, none⟩ ∧ w.heap[g]? = some (.cells cur e (0, 0)) := by
  rcases h.2 with ⟨h1, h0⟩ | ⟨g, cap, cur, h1, _, hg, _⟩
  · omega
  · simp only [Value.slice.injEq] at h1
    exact ⟨g, cur, h1.1, hg⟩

theorem AR.apart {w : World} {g k : Nat} {t e : TypeId} {L : List UInt32} {cur : Array Value} (h : AR w g t L) (hk : w.heap[k]? = some (.cells cur e (0, 0))) (hne : t ≠ e) : k ≠ g := by
  intro e1
  subst e1
  unfold AR at h
  rw [hk] at h
  simp only [Option.some.injEq, Obj.cells.injEq] at h
  exact hne h.2.1.symm

/-- What the document's Sum holds in memory while it mixes a block. -/
def RI (w : World) (g4 g5 gw gv N c5 : Nat) (K : List UInt32) (T : List UInt8) (S V : St) (WS : List UInt32) (wr : World) : Prop :=
  RM w g4 K S wr ∧ HB wr (.slice (some ⟨g5, 0, none⟩) N c5) T ∧ AR wr gw 248 WS ∧ AR wr gv 217 (stL V)

theorem RM.later {w wr w' : World} {g4 : Nat} {K : List UInt32} {S : St} (h : RM w g4 K S wr) (hb : Below wr.heap.size wr w') : RM w g4 K S w' := ⟨h.1.later hb, h.2.1.later hb, h.2.2.trans (hb.mono h.2.2.size)⟩

section
variable {w wr : World} {g4 g5 gw gv N c5 : Nat} {K : List UInt32} {T : List UInt8} {S V : St} {WS : List UInt32}
theorem RI.later {w' : World} (h : RI w g4 g5 gw gv N c5 K T S V WS wr) (hb : Below wr.heap.size wr w') : RI w g4 g5 gw gv N c5 K T S V WS w' := ⟨h.1.later hb, h.2.1.later hb, h.2.2.1.later hb, h.2.2.2.later hb⟩
theorem RI.drewN (h : RI w g4 g5 gw gv N c5 K T S V WS wr) (n : Nat) : RI w g4 g5 gw gv N c5 K T S V WS (wr.drewN n) := h.later (below_drewN (Below.refl _ _) n)
theorem RI.putW (h : RI w g4 g5 gw gv N c5 K T S V WS wr) (h1 : w.heap.size < gw) (h2 : g4 < gw) (h3 : g5 < gw) (h4 : gv ≠ gw) (k : Nat) (x : UInt32) (u : Value) (hu : u = wc x) : RI w g4 g5 gw gv N c5 K T S V (WS.set k x) (wr.setCell ⟨gw, k, none⟩ u) :=
  ⟨⟨h.1.1.other _ _ (by simp; omega), h.1.2.1.other _ _ (by simp; omega), h.1.2.2.setCell (by simp; omega) _⟩, h.2.1.setOther _ _ (by simp; omega), h.2.2.1.put k x u hu, h.2.2.2.other _ _ (by simpa using h4)⟩
theorem ar_put8Other {w : World} {g k : Nat} {t : TypeId} {L : List UInt32} (h : AR w g t L) (M : St) (hne : g ≠ k) : AR (put8 w k M) g t L :=
  (((((((h.other _ _ hne).other _ _ hne).other _ _ hne).other _ _ hne).other _ _ hne).other _ _ hne).other _ _ hne).other _ _ hne
theorem RI.putV (h : RI w g4 g5 gw gv N c5 K T S V WS wr) (h1 : w.heap.size < gv) (h2 : g4 < gv) (h3 : g5 < gv) (h4 : gw ≠ gv) (M : St) : RI w g4 g5 gw gv N c5 K T S M WS (put8 wr gv M) :=
  ⟨⟨ar_put8Other h.1.1 M (by omega), ar_put8Other h.1.2.1 M (by omega), below_put8 h.1.2.2 (by omega) M⟩, h.2.1.put8 _ M (by omega), ar_put8Other h.2.2.1 M h4, h.2.2.2.put8 M⟩
end

/-- The first n sums of two lists of words, the rest as it was. -/
def addUp (A B : List UInt32) : Nat → List UInt32
  | 0 => A
  | n + 1 => (addUp A B n).set n (addw (A.getD n 0) (B.getD n 0))
theorem addUp_get (A B : List UInt32) (n m : Nat) (h : n ≤ m) : (addUp A B n)[m]? = A[m]? := by
  induction n with
  | zero => rfl
  | succ n ih => rw [addUp, List.getElem?_set_ne (by omega)]; exact ih (by omega)
theorem addUp_all (S V : St) : addUp (stL S) (stL V) 8 = stL (addSt S V) := rfl
theorem stL_get (S : St) (k : Nat) (hk : k < 8) : (stL S)[k]? = some ((stL S).getD k 0) := by
  have : k < (stL S).length := hk
  simp [List.getD, this]

/-- What the document's Sum holds in memory while it adds a block's state. -/
def RJ (w : World) (g4 g5 gv N c5 : Nat) (K : List UInt32) (T : List UInt8) (L : List UInt32) (V : St) (wr : World) : Prop :=
  AR wr w.heap.size 217 L ∧ AR wr g4 248 K ∧ Below w.heap.size w wr ∧ HB wr (.slice (some ⟨g5, 0, none⟩) N c5) T ∧ AR wr gv 217 (stL V)
theorem RJ.put {w wr : World} {g4 g5 gv N c5 : Nat} {K : List UInt32} {T : List UInt8} {L : List UInt32} {V : St} (h : RJ w g4 g5 gv N c5 K T L V wr) (h1 : g4 ≠ w.heap.size) (h2 : g5 ≠ w.heap.size) (h3 : gv ≠ w.heap.size) (k : Nat) (x : UInt32) (u : Value) (hu : u = wc x) : RJ w g4 g5 gv N c5 K T (L.set k x) V (wr.setCell ⟨w.heap.size, k, none⟩ u) :=
  ⟨h.1.put k x u hu, h.2.1.other _ _ h1, h.2.2.1.setCell (Nat.le_refl _) _, h.2.2.2.1.setOther _ _ h2, h.2.2.2.2.other _ _ h3⟩
theorem RJ.drew {w wr : World} {g4 g5 gv N c5 : Nat} {K : List UInt32} {T : List UInt8} {L : List UInt32} {V : St} (h : RJ w g4 g5 gv N c5 K T L V wr) : RJ w g4 g5 gv N c5 K T L V wr.drew :=
  ⟨h.1, h.2.1, h.2.2.1.drew, h.2.2.2.1.later (Below.refl _ _).drew, h.2.2.2.2⟩

theorem cells_new (w : World) (L : List Value) (t : TypeId) : ∀ j u, L[j]? = some u → (w.alloc (.cells L.toArray t)).cell? ((⟨w.heap.size, 0, none⟩ : Addr).add j) = some u := by
  intro j u hj
  rw [Addr.add_lit, Nat.zero_add, cell_of_row _ _ j _ t (0, 0) (heap_alloc_new w _)]
  simpa using hj
theorem spellV (x : UInt32) : bcs (spellW x) = [.int .u8 ((x.toNat : Int) / 16777216), .int .u8 ((x.toNat : Int) / 65536 % 256), .int .u8 ((x.toNat : Int) / 256 % 256), .int .u8 ((x.toNat : Int) % 256)] := by
  have h := w32 x
  have e : ∀ n : Nat, bc (UInt8.ofNat n) = .int .u8 ((n % 256 : Nat) : Int) := fun n => by simp [bc]
  simp only [spellW, bcs, List.map_cons, List.map_nil, e]
  congr 2
  omega

theorem wordAt_in (T X : List UInt8) (n k : Nat) (hX : X = (T.drop n).take 64) (hk : k < 16) : wordAt (T.drop (n + 4 * k)) 0 = wordAt X k := by
  subst hX
  unfold wordAt
  have e : ∀ i, i < 4 → (T.drop (n + 4 * k)).getD i 0 = ((T.drop n).take 64).getD (4 * k + i) 0 := by
    intro i hi
    simp only [List.getD, List.getElem?_drop, List.getElem?_take]
    rw [if_pos (by omega), Nat.add_assoc]
  have e0 := e 0 (by omega)
  have e1 := e 1 (by omega)
  have e2 := e 2 (by omega)
  have e3 := e 3 (by omega)
  simp only [Nat.mul_zero, Nat.zero_add, Nat.add_zero] at e0 e1 e2 e3 ⊢
  rw [e0, e1, e2, e3]

theorem schedL_at (X : List UInt8) (k : Nat) (hk : k < 64) : (schedL X (k + 1))[k]? = some (nextW X (Wl X k)) := by
  rw [← schedL_set X k hk, List.getElem?_set_self (by rw [schedL_length X k (by omega)]; exact hk)]

theorem wrapadd (x y : UInt32) : IntKind.u32.wrap ((x.toNat : Int) + (y.toNat : Int)) = ((addw x y).toNat : Int) := by
  rw [IntKind.wrap_u32]
  exact addw_eq x y

theorem RI.drew {w wr : World} {g4 g5 gw gv N c5 : Nat} {K : List UInt32} {T : List UInt8} {S V : St} {WS : List UInt32} (h : RI w g4 g5 gw gv N c5 K T S V WS wr) : RI w g4 g5 gw gv N c5 K T S V WS wr.drew := h.drewN 1

end Go.Proofs.YtcgpgnajmfemhaaGreatDoor

namespace Go.Proofs.YtcgpgnajmfemhaaGreatDoor
open Go.RowKit

/-- How long a cut of a given size is. -/
def cutLen (n : Int) : Nat := (max 0 (min n 32)).toNat
theorem cutLen_le (n : Int) : cutLen n ≤ 32 := by unfold cutLen; omega
theorem cutLen_int (n : Int) : max 0 (min n 32) = (cutLen n : Int) := by unfold cutLen; omega

set_option maxRecDepth 100000 in
set_option maxHeartbeats 1000000 in
theorem cut_any (n : Int) (v : Value) (D : List UInt8) (w : World) (hD : D.length = 32) (hsum : Calls Tryz.prog 115 #[v] w fun e w' => ∃ v', e = .returned v' ∧ w'.ownsRow w.heap.size 5 1 v' 32 (bcs D) ∧ Below w.heap.size w w') :
    Calls Tryz.prog 105 #[.int .i64 n, v] w fun e w' => ∃ p c, e = .returned (.slice p (cutLen n) c) ∧ HB w' (.slice p (cutLen n) c) (D.take (cutLen n)) ∧ Below w.heap.size w w' := by
  have HS : Hid (Calls Tryz.prog 115 #[v] w fun e w' => ∃ v', e = .returned v' ∧ w'.ownsRow w.heap.size 5 1 v' 32 (bcs D) ∧ Below w.heap.size w w') := hsum
  have HD : Hid (D.length = 32) := hD
  clear hsum hD
  by_cases h : n < 1
  · have hc : cutLen n = 0 := by unfold cutLen; omega
    rw [hc]
    clear HS hc
    go_enter Tryz.func105, Tryz.ntmps105
    go_wp2
    go_ret
    exact ⟨none, 0, rfl, HB.nil _, Below.refl _ _⟩
  · by_cases h32 : 32 < n
    · have hc : cutLen n = 32 := by unfold cutLen; omega
      rw [hc]
      clear hc
      go_enter Tryz.func105, Tryz.ntmps105
      go_wp2_with fail
      refine HS.out.mono ?_
      rintro e w1 ⟨v1, rfl, hown1, hb1⟩
      have s1 := HB.of_owns hown1
      obtain ⟨p1, c1, hv1⟩ := owns_shape hown1
      subst hv1
      have hl := s1.len.2.1
      have hmx := s1.len.2.2.1
      have s2 := s1.cut 0 32 32 (by omega) (by omega) (by omega) hl
      have e1 : cutP p1 32 0 = p1 := by unfold cutP; cases p1 <;> simp [Addr.add]
      rw [e1, Nat.sub_zero, List.drop_zero] at s2
      have HS2 : Hid (HB w1 (.slice p1 32 32) (D.take 32)) := s2
      clear hown1 HS s2 e1 s1
      go_wp2
      go_ret
      exact ⟨_, _, rfl, HS2.out, hb1⟩
    · obtain ⟨m, hm⟩ : ∃ m : Nat, (m : Int) = n := ⟨n.toNat, by omega⟩
      have hc : cutLen n = m := by unfold cutLen; omega
      rw [hc]
      subst hm
      have hle : m ≤ 32 := by omega
      have hle2 : (m : Int) ≤ 32 := by omega
      clear hc h32
      go_enter Tryz.func105, Tryz.ntmps105
      go_wp2_with fail
      refine HS.out.mono ?_
      rintro e w1 ⟨v1, rfl, hown1, hb1⟩
      have s1 := HB.of_owns hown1
      obtain ⟨p1, c1, hv1⟩ := owns_shape hown1
      subst hv1
      have hl := s1.len.2.1
      have hmx := s1.len.2.2.1
      have s2 := s1.cut 0 m m (by omega) (by omega) (by omega) (by omega)
      have e1 : cutP p1 m 0 = p1 := by unfold cutP; cases p1 <;> simp [Addr.add]
      rw [e1, Nat.sub_zero, List.drop_zero] at s2
      have HS2 : Hid (HB w1 (.slice p1 m m) (D.take m)) := s2
      have hmc : (m : Int) ≤ (c1 : Int) := by omega
      clear hown1 HS s2 e1 s1
      go_wp2_with fail
      go_ret
      exact ⟨_, _, rfl, HS2.out, hb1⟩

end Go.Proofs.YtcgpgnajmfemhaaGreatDoor

namespace Go.Proofs.YtcgpgnajmfemhaaGreatDoor
open Go.RowKit

/-- Where v points, there is a block of bytes. -/
def TB (w : World) (v : Value) : Prop := ∀ b o n c, v = .slice (some ⟨b, o, none⟩) n c → ∃ cur fr, w.heap[b]? = some (.cells cur 5 fr)

theorem TB.of_owns {w : World} {base n : Nat} {v : Value} {xs : List Value} (h : w.ownsRow base 5 1 v n xs) : TB w v := by
  intro b o m c e
  rcases h.2 with ⟨rfl, _⟩ | ⟨g, cap, cur, rfl, _, hg, _⟩
  · cases e
  · simp only [Value.slice.injEq, Option.some.injEq, Addr.mk.injEq] at e
    obtain ⟨⟨rfl, _, _⟩, _⟩ := e
    exact ⟨cur, _, hg⟩
theorem TB.front {w : World} {p : Option Addr} {n c : Nat} (h : TB w (.slice p n c)) (m d : Nat) : TB w (.slice p m d) := by
  intro b o n' c' e
  simp only [Value.slice.injEq] at e
  obtain ⟨rfl, _⟩ := e
  exact h b o n c rfl
theorem TB.nil (w : World) (n c : Nat) : TB w (.slice none n c) := by intro b o m d e; simp at e
theorem TB.later {w w' : World} {v : Value} (h : TB w v) (hb : Below w.heap.size w w') : TB w' v := by
  intro b o n c e
  obtain ⟨cur, fr, hg⟩ := h b o n c e
  exact ⟨cur, fr, by rw [hb.block b (Array.getElem?_eq_some_iff.1 hg).1]; exact hg⟩

end Go.Proofs.YtcgpgnajmfemhaaGreatDoor
