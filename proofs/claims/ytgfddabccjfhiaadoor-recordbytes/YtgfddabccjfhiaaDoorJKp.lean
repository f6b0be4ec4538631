/- What this text holds: a record, plainly; whether it may be; its bytes; the walks of record's small functions within, linkCount, sized and put over this program. What this text holds: blocks of unlike types part what lies apart; rows of texts that are read; a reader's calls, whatever came ahead; what is read of a record's bytes, plainly. -/
import Derived.Test.YtgfddabccjfhiaaDoorSkTz
import Derived.Test.YtgfddabccjfhiaaDoorJCp
import Derived.Test.YtgfddabccjfhiaaDoorJRd
namespace Go.Proofs.YtgfddabccjfhiaaDoor
open Go.RowKit

/-- A record: epoch, time, count, tree, list, links. -/
structure Rc where
  e : Int
  t : Int
  c : Int
  tr : List UInt8
  li : List UInt8
  lk : List (List UInt8)

/-- Whether all have so many bytes. -/
def sizedB (size : Int) (ls : List (List UInt8)) : Bool := ls.all fun l => decide ((l.length : Int) = size)

/-- Whether a record may be. -/
def canB (size : Int) (r : Rc) : Bool :=
  decide (1 ≤ size) && (decide (size ≤ 32) && (decide (0 ≤ r.e ∧ r.e ≤ 255) && (decide (0 ≤ r.t ∧ r.t ≤ 1125899906842624) && (decide (0 ≤ r.c ∧ r.c ≤ 32) && (decide (r.lk.length = (linksL r.e.toNat).length) && (sizedB size [r.tr, r.li] && sizedB size r.lk))))))

theorem within_any (n most : Int) (w : World) :
    Calls Tryd.prog 51 #[.int .i64 n, .int .i64 most] w fun x w' => x = .returned (.bool (decide (0 ≤ n ∧ n ≤ most))) ∧ w' = w := by
  by_cases h0 : 0 ≤ n
  · by_cases h1 : n ≤ most
    · rw [show decide (0 ≤ n ∧ n ≤ most) = true by simp; omega]
      go_enter Tryd.func51, Tryd.ntmps51
      go_wp2
      go_ret
      exact ⟨rfl, rfl⟩
    · rw [show decide (0 ≤ n ∧ n ≤ most) = false by simp; omega]
      have d1 : decide (n ≤ most) = false := by simpa using h1
      go_enter Tryd.func51, Tryd.ntmps51
      go_wp2
      go_ret
      exact ⟨rfl, rfl⟩
  · rw [show decide (0 ≤ n ∧ n ≤ most) = false by simp; omega]
    have d0 : decide (0 ≤ n) = false := by simpa using h0
    go_enter Tryd.func51, Tryd.ntmps51
    go_wp2
    go_ret
    exact ⟨rfl, rfl⟩

set_option maxRecDepth 100000 in
set_option maxHeartbeats 1000000 in
theorem linkCount_any (e : Nat) (w : World) (he : e < 9223372036854775808) (hT : TD w) :
    Calls Tryd.prog 43 #[.int .i64 (e : Int)] w fun x w' => x = .returned (.int .i64 ((linksL e).length : Int)) ∧ w' = w := by
  rcases Nat.eq_zero_or_pos e with h | h
  · subst h
    rw [linksL_zero]
    go_enter Tryd.func43, Tryd.ntmps43
    go_wp2
    go_ret
    exact ⟨rfl, rfl⟩
  · rw [linksL_pos e h, lk_length]
    have hC := tz_any e (by omega) (by omega) w hT
    have ht := (tz_spec e h he).choose_spec.2
    generalize tz e = T at *
    have hu : IntKind.u64.wrap (e : Int) = (e : Int) := by rw [IntKind.wrap_u64]; omega
    have hz : ((e : Int) == 0) = false := by simp; omega
    go_enter Tryd.func43, Tryd.ntmps43
    go_wp2_with fail
    refine hC.mono ?_
    rintro x w1 ⟨rfl, hw⟩
    subst hw
    clear hC hu hz
    go_wp2
    go_ret
    exact ⟨by go_num, rfl⟩

theorem sized_snoc (size : Int) (ls : List (List UInt8)) (l : List UInt8) : sizedB size (ls ++ [l]) = (sizedB size ls && decide ((l.length : Int) = size)) := by simp [sizedB]

theorem sized_no (size : Int) (ls : List (List UInt8)) (k : Nat) (l : List UInt8) (h : ls[k]? = some l) (hl : (l.length : Int) ≠ size) : sizedB size ls = false := by
  unfold sizedB
  rw [List.all_eq_false]
  exact ⟨l, List.mem_of_getElem? h, by simpa using hl⟩

set_option maxRecDepth 100000 in
set_option maxHeartbeats 1000000 in
theorem rsized_any (size : Int) (v : Value) (ls : List (List UInt8)) (w : World) (h : PA w v ls) :
    Calls Tryd.prog 52 #[.int .i64 size, v] w fun x w' => x = .returned (.bool (sizedB size ls)) ∧ w' = w := by
  obtain ⟨p, c, rfl⟩ := h.shape
  have hm := h.len
  unfold maxLen at hm
  have HB0 : Hid (∀ (k : Nat) (l : List UInt8), ls[k]? = some l → (l.length : Int) ≠ size → sizedB size ls = false) := fun k l h1 h2 => sized_no size ls k l h1 h2
  obtain ⟨B, hB⟩ : ∃ B, B = sizedB size ls := ⟨_, rfl⟩
  rw [← hB] at HB0 ⊢
  have HB1 : Hid (B = sizedB size ls) := hB
  clear hB
  go_enter Tryd.func52, Tryd.ntmps52
  go_wp2
  go_loopw [9] (fun i wr => ∃ k : Nat, k ≤ ls.length ∧ i = .int .i64 k ∧ Hid (sizedB size (ls.take k) = true) ∧ wr = w) (fun i _ => ls.length - (intOf i).toNat)
  case atStart => exact ⟨0, Nat.zero_le _, rfl, rfl, rfl⟩
  case round =>
    obtain ⟨k, hk, rfl, hS, hwr⟩ := hrel
    subst hwr
    by_cases hlt : k < ls.length
    · obtain ⟨b, o, rfl⟩ := h.addr (by omega)
      obtain ⟨q, kc, l, hl, c1, h1⟩ := h.get k hlt
      have hlt2 : (k : Int) < (ls.length : Int) := by omega
      by_cases hz : (l.length : Int) = size
      · have HN : Hid (sizedB size (ls.take (k + 1)) = true) := by
          show sizedB _ _ = true
          rw [List.take_add_one, hl.out]
          show sizedB size (ls.take k ++ [l]) = true
          rw [sized_snoc, hS.out]
          simpa using hz
        have hne : ((l.length : Int) != size) = false := by simpa using hz
        clear hl h1 HB0 HB1 hS hz
        go_wp2
        go_roundw
        case rel => first | exact ⟨k + 1, by omega, by go_num, HN, trivial⟩ | ((repeat apply Exists.intro); exact ⟨⟨k + 1, by omega, by go_num, HN, trivial⟩, rfl⟩)
        case measure => simp [intOf]; omega
      · have HF : Hid (B = false) := HB0.out k l hl.out hz
        have hne : ((l.length : Int) != size) = true := by simpa using hz
        clear hl h1 HB0 HB1 hS hz
        go_wp2
        go_ret
        rw [HF.out]
        exact ⟨rfl, rfl⟩
    · have HF : Hid (B = true) := by
        have := hS.out
        rw [List.take_of_length_le (by omega)] at this
        show B = true
        rw [HB1.out, this]
      clear HB0 HB1 hS
      go_wp2
      go_ret
      rw [HF.out]
      exact ⟨rfl, rfl⟩

/-- All texts, one behind the other. -/
def putL (ls : List (List UInt8)) : List UInt8 := (ls.map bytesL).flatten
theorem putL_snoc (ls : List (List UInt8)) (l : List UInt8) : putL (ls ++ [l]) = putL ls ++ bytesL l := by simp [putL]
theorem putL_one (l : List UInt8) : putL [l] = bytesL l := by simp [putL]

theorem bytesL_len (l : List UInt8) (h : l.length ≤ 32) : (bytesL l).length ≤ 41 := by
  unfold bytesL
  rw [List.length_append, numL_length]
  have := cnt_le8 l.length (by omega)
  omega

theorem putL_len (ls : List (List UInt8)) (h : ∀ x ∈ ls, x.length ≤ 32) : (putL ls).length ≤ 41 * ls.length := by
  induction ls with
  | nil => simp [putL]
  | cons a t ih =>
    have h1 := bytesL_len a (h a (by simp))
    have h2 := ih fun x hx => h x (by simp [hx])
    have e : putL (a :: t) = bytesL a ++ putL t := by simp [putL]
    rw [e, List.length_append, List.length_cons]
    omega

theorem sized_le {size : Int} {ls : List (List UInt8)} (h : sizedB size ls = true) (hs : size ≤ 32) : ∀ x ∈ ls, x.length ≤ 32 := by
  intro x hx
  unfold sizedB at h
  have := List.all_eq_true.1 h x hx
  simp at this
  omega

set_option maxRecDepth 100000 in
set_option maxHeartbeats 1000000 in
theorem rput_any (v u : Value) (l : List UInt8) (ls : List (List UInt8)) (w : World) (hv : HB w v l) (h : PA w u ls) (hl : l.length ≤ 1048576) (hn : ls.length ≤ 1048576) (hz : ∀ x ∈ ls, x.length ≤ 32) :
    Calls Tryd.prog 37 #[v, u] w fun x w' => ∃ v', x = .returned v' ∧ HB w' v' (l ++ putL ls) ∧ Below w.heap.size w w' := by
  obtain ⟨p, c, rfl⟩ := h.shape
  go_enter Tryd.func37, Tryd.ntmps37
  go_wp2
  go_loopw [0, 9] (fun v i wr => ∃ k : Nat, k ≤ ls.length ∧ i = .int .i64 k ∧ HB wr v (l ++ putL (ls.take k)) ∧ Below w.heap.size w wr) (fun _ i _ => ls.length - (intOf i).toNat)
  case atStart => exact ⟨0, Nat.zero_le _, rfl, by simpa [putL] using hv, Below.refl _ _⟩
  case round =>
    obtain ⟨k, hk, rfl, hH, hbe⟩ := hrel
    by_cases hlt : k < ls.length
    · obtain ⟨b, o, rfl⟩ := h.addr (by omega)
      obtain ⟨q, kc, x, hx, c1, h1⟩ := (h.later hbe).get k hlt
      have hlt2 : (k : Int) < (ls.length : Int) := by omega
      have hx32 := hz x (List.mem_of_getElem? hx.out)
      have hpl := putL_len (ls.take k) (fun y hy => hz y (List.mem_of_mem_take hy))
      have htl : (ls.take k).length ≤ 1048576 := by simp; omega
      have hC := cbytes_any _ _ _ _ wr hH h1 (by rw [List.length_append]; omega)
      have HN : Hid (l ++ putL (ls.take k) ++ bytesL x = l ++ putL (ls.take (k + 1))) := by
        show _ = _
        rw [List.take_add_one, hx.out]
        show _ = l ++ putL (ls.take k ++ [x])
        rw [putL_snoc, List.append_assoc]
      clear hx h1 hH hpl htl hx32
      generalize putL (ls.take k) = F at *
      go_wp2_with fail
      refine hC.mono ?_
      rintro y w2 hy
      obtain ⟨v2, rfl, hv2, hb2⟩ : ∃ v2, y = .returned v2 ∧ HB w2 v2 (l ++ F ++ bytesL x) ∧ Below wr.heap.size wr w2 := by
        obtain ⟨p2, c2, e1, e2, e3⟩ := hy
        exact ⟨_, e1, HB.of_owns e2, e3⟩
      rw [HN.out] at hv2
      have hb3 := hbe.trans (hb2.mono hbe.size)
      clear hC hy hb2 HN
      go_wp2
      go_roundw
      case rel => first | exact ⟨k + 1, by omega, by go_num, hv2, hb3⟩ | ((repeat apply Exists.intro); exact ⟨⟨k + 1, by omega, by go_num, hv2, hb3⟩, rfl⟩)
      case measure => simp [intOf]; omega
    · rw [List.take_of_length_le (by omega)] at hH
      go_wp2
      go_ret
      exact ⟨_, rfl, hH, hbe⟩

end Go.Proofs.YtgfddabccjfhiaaDoor

namespace Go.Proofs.YtgfddabccjfhiaaDoor
open Go.RowKit

/-- Blocks of another type than T stay. -/
def TK (T : TypeId) (w w' : World) : Prop := ∀ (k : Nat) cur t fr, w.heap[k]? = some (.cells cur t fr) → t ≠ T → w'.heap[k]? = some (.cells cur t fr)

theorem TK.of_only {T : TypeId} {g : Nat} {w w' : World} {cs : Array Value} {f : Nat × Nat} (ho : Only g w w') (hg : w.heap[g]? = some (.cells cs T f)) : TK T w w' := by
  intro k cur t fr hk ht
  have hne : k ≠ g := by
    rintro rfl
    rw [hg] at hk
    simp only [Option.some.injEq, Obj.cells.injEq] at hk
    exact ht hk.2.1.symm
  exact (ho.block k hne (Array.getElem?_eq_some_iff.1 hk).1).trans hk

theorem TK.of_below {T : TypeId} {w w' : World} (hb : Below w.heap.size w w') : TK T w w' := fun k _ _ _ hk _ => (hb.block k (Array.getElem?_eq_some_iff.1 hk).1).trans hk

theorem TK.of_grown {T : TypeId} {w w' : World} {base s n : Nat} {v : Value} {xs : List Value} (h : w.ownsRow base T s v n xs) (hg : w.grownBy w' v.ownBlock) : TK T w w' := by
  intro k cur t fr hk ht
  have hne : some k ≠ v.ownBlock := by
    rcases h.2 with ⟨rfl, _⟩ | ⟨g, cap, cur', rfl, _, hg', _⟩
    · simp [Value.ownBlock]
    · simp only [Value.ownBlock, ne_eq, Option.some.injEq]
      intro e
      subst e
      rw [hg'] at hk
      simp only [Option.some.injEq, Obj.cells.injEq] at hk
      exact ht hk.2.1.symm
  exact (hg.block k (Array.getElem?_eq_some_iff.1 hk).1 hne).trans hk

theorem HBN.tk {T : TypeId} {g : Nat} {w w' : World} {v : Value} {l : List UInt8} (h : HBN w g v l) (t : TK T w w') (hT : 5 ≠ T) : HBN w' g v l := by
  obtain ⟨⟨p, cap, e, h1, h2, h3, h4⟩, h5⟩ := h
  refine ⟨⟨p, cap, e, h1, h2, h3, fun hn => ?_⟩, fun a n c ev => ?_⟩
  · obtain ⟨b, o, rfl, hc⟩ := h4 hn
    refine ⟨b, o, rfl, fun i x hx => ?_⟩
    obtain ⟨cur, fr, hb⟩ := (h5 _ _ _ e).2
    have hk : w'.heap[b]? = w.heap[b]? := (t b cur _ fr hb hT).trans hb.symm
    rw [World.cell?_of_block (w := w) hk]
    exact hc i x hx
  · obtain ⟨hne, cur, fr, hb⟩ := h5 a n c ev
    exact ⟨hne, cur, fr, t _ cur _ fr hb hT⟩

theorem RR.tk {T : TypeId} {g : Nat} {w w' : World} {l : List UInt8} {e : Int} (h : RR w g l e) (t : TK T w w') (hT : 5 ≠ T) (hR : 81 ≠ T) : RR w' g l e := by
  obtain ⟨p, c, h1, h2⟩ := h
  exact ⟨p, c, t g _ _ _ h1 hR, h2.tk t hT⟩

theorem RR.typed {g : Nat} {w : World} {l : List UInt8} {e : Int} (h : RR w g l e) : ∃ cs f, w.heap[g]? = some (.cells cs 81 f) := by
  obtain ⟨p, c, h1, h2⟩ := h
  exact ⟨_, _, h1⟩

theorem owns_tk {T e : TypeId} {w w' : World} {base n : Nat} {v : Value} {xs : List Value} (h : w.ownsRow base e 1 v n xs) (t : TK T w w') (hT : e ≠ T) : w'.ownsRow base e 1 v n xs := by
  refine ⟨h.1, ?_⟩
  rcases h.2 with hn | ⟨g, cap, cur, rfl, hbg, hg, rest⟩
  · exact .inl hn
  · exact .inr ⟨g, cap, cur, rfl, hbg, t g cur _ _ hg hT, rest⟩

/-- A row of texts that the call owns, none of them in block g. -/
def RW (w : World) (base g : Nat) (y : Value) (ls : List (List UInt8)) : Prop :=
  ∃ vs : List Value, vs.length = ls.length ∧ w.ownsRow base 22 1 y ls.length vs ∧ ∀ (j : Nat) u l, vs[j]? = some u → ls[j]? = some l → HBN w g u l

theorem RW.nil (w : World) (base g : Nat) : RW w base g (.slice none 0 0) [] := ⟨[], rfl, World.ownsRow_nil _ _ _ _, fun j u l h => by simp at h⟩
theorem RW.tk {T : TypeId} {w w' : World} {base g : Nat} {y : Value} {ls : List (List UInt8)} (h : RW w base g y ls) (t : TK T w w') (hT : 5 ≠ T) (hB : 22 ≠ T) : RW w' base g y ls := by
  obtain ⟨vs, h1, h2, h3⟩ := h
  exact ⟨vs, h1, owns_tk h2 t hB, fun j u l hu hl => (h3 j u l hu hl).tk t hT⟩

theorem RW.pa {w : World} {base g : Nat} {v : Value} {ls : List (List UInt8)} (h : RW w base g v ls) : PA w v ls := by
  obtain ⟨vs, h1, h2, h3⟩ := h
  obtain ⟨h4, h5⟩ := h2
  rcases h5 with ⟨rfl, h0⟩ | ⟨g', cap, cur, rfl, hb, hg, hl, hm, hs, ht⟩
  · obtain rfl : ls = [] := List.eq_nil_of_length_eq_zero h0
    exact PA.nil w
  · refine ⟨_, cap, vs, rfl, hl, hm, (fun h => by cases h), h1, fun _ => ⟨g', 0, rfl, fun i x hx => ?_⟩, fun i x l hx hl => (h3 i x l hx hl).1⟩
    rw [Nat.zero_add, cell_of_row w g' i cur 22 (0, 0) hg]
    have hi : i < vs.length := (List.getElem?_eq_some_iff.1 hx).1
    rw [← ht, List.getElem?_take, if_pos (by omega)] at hx
    simpa using hx

theorem RW.snoc {w wA w' : World} {base g : Nat} {y x v' : Value} {vs : List Value} {ls : List (List UInt8)} {l : List UInt8} (hl1 : vs.length = ls.length) (h2 : wA.ownsRow base 22 1 y ls.length vs) (h3 : ∀ (j : Nat) u l, vs[j]? = some u → ls[j]? = some l → HBN w g u l) (hx : HBN w g x l) (hb : Below w.heap.size w wA)
    (hg : wA.grownBy w' y.ownBlock) (ho : w'.ownsRow base 22 1 v' (ls.length + 1) (vs ++ [x])) : RW w' base g v' (ls ++ [l]) := by
  have t := TK.of_grown h2 hg
  refine ⟨vs ++ [x], by simp [hl1], by simpa using ho, fun j u m hu hm => ?_⟩
  by_cases hi : j < ls.length
  · rw [List.getElem?_append_left (by omega)] at hu hm
    exact ((h3 j u m hu hm).later hb).tk t (by decide)
  · rw [List.getElem?_append_right (by omega)] at hu hm
    rw [hl1] at hu
    obtain ⟨rfl, rfl⟩ : x = u ∧ l = m := by
      cases hj : j - ls.length with
      | zero => rw [hj] at hu hm; exact ⟨by simpa using hu, by simpa using hm⟩
      | succ j => rw [hj] at hm; simp at hm
    exact (hx.later hb).tk t (by decide)

/-- What a number, or a text, is read as behind what came ahead. -/
def rdU (l : List UInt8) (e : Int) (most : Int) : Int × Nat × List UInt8 := if e = 0 then uintF l most else (e, 0, l)
def rdB (l : List UInt8) (e : Int) (most : Int) : Int × List UInt8 × List UInt8 := if e = 0 then bytesF l most else (e, [], l)

theorem uintF_most (l : List UInt8) (most : Int) (hm : 0 ≤ most) : ((uintF l most).2.1 : Int) ≤ most := by
  unfold uintF
  split
  · simpa using hm
  · split
    · simpa using hm
    · split
      · simpa using hm
      · split
        · simpa using hm
        · split
          · simpa using hm
          · split
            · simpa using hm
            · simp; omega

theorem rdU_most (l : List UInt8) (e most : Int) (hm : 0 ≤ most) : ((rdU l e most).2.1 : Int) ≤ most := by
  unfold rdU
  split
  · exact uintF_most l most hm
  · simpa using hm

theorem bytesF_le (l : List UInt8) (most : Int) : (bytesF l most).2.2.length ≤ l.length := by
  have h := uintF_le l most
  unfold bytesF
  dsimp only
  split
  · simp
  · split
    · simp
    · simp; omega

theorem rdU_le (l : List UInt8) (e most : Int) : (rdU l e most).2.2.length ≤ l.length := by
  unfold rdU
  split
  · exact uintF_le l most
  · exact Nat.le_refl _
theorem rdB_le (l : List UInt8) (e most : Int) : (rdB l e most).2.2.length ≤ l.length := by
  unfold rdB
  split
  · exact bytesF_le l most
  · exact Nat.le_refl _

theorem ruint_all (g : Nat) (l : List UInt8) (e most : Int) (w : World) (h : RR w g l e) : Calls Tryd.prog 41 #[.pointer (some ⟨g, 0, none⟩), .int .i64 most] w fun x w' => x = .returned (.int .i64 ((rdU l e most).2.1 : Int)) ∧ RR w' g (rdU l e most).2.2 (rdU l e most).1 ∧ Only g w w' := by
  unfold rdU
  by_cases he : e = 0
  · subst he
    rw [if_pos rfl]
    exact uint_any g l most w h
  · rw [if_neg he]
    refine (uint_stays g l e most w h he).mono ?_
    rintro x w' ⟨rfl, rfl⟩
    exact ⟨rfl, h, Only.refl _ _⟩

theorem rbytes_all (g : Nat) (l : List UInt8) (e most : Int) (w : World) (h : RR w g l e) (hsz : l.length ≤ 140737488355328) : Calls Tryd.prog 42 #[.pointer (some ⟨g, 0, none⟩), .int .i64 most] w fun x w' => ∃ v, x = .returned v ∧ ∃ p c, v = .slice p (rdB l e most).2.1.length c ∧ HBN w' g (.slice p (rdB l e most).2.1.length c) (rdB l e most).2.1 ∧ RR w' g (rdB l e most).2.2 (rdB l e most).1 ∧ Only g w w' := by
  unfold rdB
  by_cases he : e = 0
  · subst he
    rw [if_pos rfl]
    exact (bytes_any g l most w h hsz).mono fun x w' ⟨p, c, h1, h2, h3, h4⟩ => ⟨_, h1, p, c, rfl, h2, h3, h4⟩
  · rw [if_neg he]
    refine (bytes_stays g l e most w h he).mono ?_
    rintro x w' ⟨rfl, rfl⟩
    exact ⟨_, rfl, none, 0, rfl, HBN.nil _ _, h, Only.refl _ _⟩

/-- The links, read one behind the other: they, what is left, the error. -/
def lkS (most : Int) (l : List UInt8) (e : Int) : Nat → List (List UInt8) × List UInt8 × Int
  | 0 => ([], l, e)
  | k + 1 => ((lkS most l e k).1 ++ [(rdB (lkS most l e k).2.1 (lkS most l e k).2.2 most).2.1], (rdB (lkS most l e k).2.1 (lkS most l e k).2.2 most).2.2, (rdB (lkS most l e k).2.1 (lkS most l e k).2.2 most).1)

theorem lkS_len (most : Int) (l : List UInt8) (e : Int) (k : Nat) : (lkS most l e k).1.length = k := by
  induction k with
  | zero => rfl
  | succ k ih => simp [lkS, ih]
theorem lkS_le (most : Int) (l : List UInt8) (e : Int) (k : Nat) : (lkS most l e k).2.1.length ≤ l.length := by
  induction k with
  | zero => exact Nat.le_refl _
  | succ k ih => exact Nat.le_trans (rdB_le _ _ _) ih

end Go.Proofs.YtgfddabccjfhiaaDoor
