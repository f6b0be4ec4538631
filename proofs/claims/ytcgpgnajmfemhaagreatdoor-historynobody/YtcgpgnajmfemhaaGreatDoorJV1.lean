/- What this text holds: a record, plainly; whether it may be; its bytes; the walks of record's small functions within, linkCount, sized and put over this program. What this text proves: the walk of annalsref13.Links over this program: how many links an epoch's record has; whether a record may be, told in one row. What this text proves: the walk of annalsref13.Can over this program: whether a record may be. (By program: held.py, mkrrec.py.) -/
import Derived.Test.YtcgpgnajmfemhaaGreatDoorJOp
import Derived.Test.YtcgpgnajmfemhaaGreatDoorJE5
import Derived.Test.YtcgpgnajmfemhaaGreatDoorJQ1
namespace Go.Proofs.YtcgpgnajmfemhaaGreatDoor
open Go.RowKit

/-- A record: epoch, time, count, tree, list, links. -/
structure Rc where
  e : Int
  t : Int
  c : Int
  tr : List UInt8
  li : List UInt8
  lk : List (List UInt8)

/-- Whether all have so many bytes. -/
def sizedB (size : Int) (ls : List (List UInt8)) : Bool := ls.all fun l => decide ((l.length : Int) = size)

/-- Whether a record may be. -/
def canB (size : Int) (r : Rc) : Bool :=
  decide (1 ≤ size) && (decide (size ≤ 32) && (decide (0 ≤ r.e ∧ r.e ≤ 255) && (decide (0 ≤ r.t ∧ r.t ≤ 1125899906842624) && (decide (0 ≤ r.c ∧ r.c ≤ 32) && (decide (r.lk.length = (linksL r.e.toNat).length) && (sizedB size [r.tr, r.li] && sizedB size r.lk))))))

theorem within_any (n most : Int) (w : World) :
    Calls Tryz.prog 145 #[.int .i64 n, .int .i64 most] w fun x w' => x = .returned (.bool (decide (0 ≤ n ∧ n ≤ most))) ∧ w' = w := by
  by_cases h0 : 0 ≤ n
  · by_cases h1 : n ≤ most
    · rw [show decide (0 ≤ n ∧ n ≤ most) = true by simp; omega]
      go_enter Tryz.func145, Tryz.ntmps145
      go_wp2
      go_ret
      exact ⟨rfl, rfl⟩
    · rw [show decide (0 ≤ n ∧ n ≤ most) = false by simp; omega]
      have d1 : decide (n ≤ most) = false := by simpa using h1
      go_enter Tryz.func145, Tryz.ntmps145
      go_wp2
      go_ret
      exact ⟨rfl, rfl⟩
  · rw [show decide (0 ≤ n ∧ n ≤ most) = false by simp; omega]
    have d0 : decide (0 ≤ n) = false := by simpa using h0
    go_enter Tryz.func145, Tryz.ntmps145
    go_wp2
    go_ret
    exact ⟨rfl, rfl⟩

set_option maxRecDepth 100000 in
set_option maxHeartbeats 1000000 in
theorem linkCount_any (e : Nat) (w : World) (he : e < 9223372036854775808) (hT : TD w) :
    Calls Tryz.prog 146 #[.int .i64 (e : Int)] w fun x w' => x = .returned (.int .i64 ((linksL e).length : Int)) ∧ w' = w := by
  rcases Nat.eq_zero_or_pos e with h | h
  · subst h
    rw [linksL_zero]
    go_enter Tryz.func146, Tryz.ntmps146
    go_wp2
    go_ret
    exact ⟨rfl, rfl⟩
  · rw [linksL_pos e h, lk_length]
    have hC := tz_any e (by omega) (by omega) w hT
    have ht := (tz_spec e h he).choose_spec.2
    generalize tz e = T at *
    have hu : IntKind.u64.wrap (e : Int) = (e : Int) := by rw [IntKind.wrap_u64]; omega
    have hz : ((e : Int) == 0) = false := by simp; omega
    go_enter Tryz.func146, Tryz.ntmps146
    go_wp2_with fail
    refine hC.mono ?_
    rintro x w1 ⟨rfl, hw⟩
    subst hw
    clear hC hu hz
    go_wp2
    go_ret
    exact ⟨by go_num, rfl⟩

theorem sized_snoc (size : Int) (ls : List (List UInt8)) (l : List UInt8) : sizedB size (ls ++ [l]) = (sizedB size ls && decide ((l.length : Int) = size)) := by simp [sizedB]

theorem sized_no (size : Int) (ls : List (List UInt8)) (k : Nat) (l : List UInt8) (h : ls[k]? = some l) (hl : (l.length : Int) ≠ size) : sizedB size ls = false := by
  unfold sizedB
  rw [List.all_eq_false]
  exact ⟨l, List.mem_of_getElem? h, by simpa using hl⟩

set_option maxRecDepth 100000 in
set_option maxHeartbeats 1000000 in
theorem rsized_any (size : Int) (v : Value) (ls : List (List UInt8)) (w : World) (h : PA w v ls) :
    Calls Tryz.prog 147 #[.int .i64 size, v] w fun x w' => x = .returned (.bool (sizedB size ls)) ∧ w' = w := by
  obtain ⟨p, c, rfl⟩ := h.shape
  have hm := h.len
  unfold maxLen at hm
  have HB0 : Hid (∀ (k : Nat) (l : List UInt8), ls[k]? = some l → (l.length : Int) ≠ size → sizedB size ls = false) := fun k l h1 h2 => sized_no size ls k l h1 h2
  obtain ⟨B, hB⟩ : ∃ B, B = sizedB size ls := ⟨_, rfl⟩
  rw [← hB] at HB0 ⊢
  have HB1 : Hid (B = sizedB size ls) := hB
  clear hB
  go_enter Tryz.func147, Tryz.ntmps147
  go_wp2
  go_loopw [9] (fun i wr => ∃ k : Nat, k ≤ ls.length ∧ i = .int .i64 k ∧ Hid (sizedB size (ls.take k) = true) ∧ wr = w) (fun i _ => ls.length - (intOf i).toNat)
  case atStart => exact ⟨0, Nat.zero_le _, rfl, rfl, rfl⟩
  case round =>
    obtain ⟨k, hk, rfl, hS, hwr⟩ := hrel
    subst hwr
    by_cases hlt : k < ls.length
    · obtain ⟨b, o, rfl⟩ := h.addr (by omega)
      obtain ⟨q, kc, l, hl, c1, h1⟩ := h.get k hlt
      have hlt2 : (k : Int) < (ls.length : Int) := by omega
      by_cases hz : (l.length : Int) = size
      · have HN : Hid (sizedB size (ls.take (k + 1)) = true) := by
          show sizedB _ _ = true
          rw [List.take_add_one, hl.out]
          show sizedB size (ls.take k ++ [l]) = true
          rw [sized_snoc, hS.out]
          simpa using hz
        have hne : ((l.length : Int) != size) = false := by simpa using hz
        clear hl h1 HB0 HB1 hS hz
        go_wp2
        go_roundw
        case rel => first | exact ⟨k + 1, by omega, by go_num, HN, trivial⟩ | ((repeat apply Exists.intro); exact ⟨⟨k + 1, by omega, by go_num, HN, trivial⟩, rfl⟩)
        case measure => simp [intOf]; omega
      · have HF : Hid (B = false) := HB0.out k l hl.out hz
        have hne : ((l.length : Int) != size) = true := by simpa using hz
        clear hl h1 HB0 HB1 hS hz
        go_wp2
        go_ret
        rw [HF.out]
        exact ⟨rfl, rfl⟩
    · have HF : Hid (B = true) := by
        have := hS.out
        rw [List.take_of_length_le (by omega)] at this
        show B = true
        rw [HB1.out, this]
      clear HB0 HB1 hS
      go_wp2
      go_ret
      rw [HF.out]
      exact ⟨rfl, rfl⟩

/-- All texts, one behind the other. -/
def putL (ls : List (List UInt8)) : List UInt8 := (ls.map bytesL).flatten
theorem putL_snoc (ls : List (List UInt8)) (l : List UInt8) : putL (ls ++ [l]) = putL ls ++ bytesL l := by simp [putL]
theorem putL_one (l : List UInt8) : putL [l] = bytesL l := by simp [putL]

theorem bytesL_len (l : List UInt8) (h : l.length ≤ 32) : (bytesL l).length ≤ 41 := by
  unfold bytesL
  rw [List.length_append, numL_length]
  have := cnt_le8 l.length (by omega)
  omega

theorem putL_len (ls : List (List UInt8)) (h : ∀ x ∈ ls, x.length ≤ 32) : (putL ls).length ≤ 41 * ls.length := by
  induction ls with
  | nil => simp [putL]
  | cons a t ih =>
    have h1 := bytesL_len a (h a (by simp))
    have h2 := ih fun x hx => h x (by simp [hx])
    have e : putL (a :: t) = bytesL a ++ putL t := by simp [putL]
    rw [e, List.length_append, List.length_cons]
    omega

theorem sized_le {size : Int} {ls : List (List UInt8)} (h : sizedB size ls = true) (hs : size ≤ 32) : ∀ x ∈ ls, x.length ≤ 32 := by
  intro x hx
  unfold sizedB at h
  have := List.all_eq_true.1 h x hx
  simp at this
  omega

set_option maxRecDepth 100000 in
set_option maxHeartbeats 1000000 in
theorem rput_any (v u : Value) (l : List UInt8) (ls : List (List UInt8)) (w : World) (hv : HB w v l) (h : PA w u ls) (hl : l.length ≤ 1048576) (hn : ls.length ≤ 1048576) (hz : ∀ x ∈ ls, x.length ≤ 32) :
    Calls Tryz.prog 103 #[v, u] w fun x w' => ∃ v', x = .returned v' ∧ HB w' v' (l ++ putL ls) ∧ Below w.heap.size w w' := by
  obtain ⟨p, c, rfl⟩ := h.shape
  go_enter Tryz.func103, Tryz.ntmps103
  go_wp2
  go_loopw [0, 9] (fun v i wr => ∃ k : Nat, k ≤ ls.length ∧ i = .int .i64 k ∧ HB wr v (l ++ putL (ls.take k)) ∧ Below w.heap.size w wr) (fun _ i _ => ls.length - (intOf i).toNat)
  case atStart => exact ⟨0, Nat.zero_le _, rfl, by simpa [putL] using hv, Below.refl _ _⟩
  case round =>
    obtain ⟨k, hk, rfl, hH, hbe⟩ := hrel
    by_cases hlt : k < ls.length
    · obtain ⟨b, o, rfl⟩ := h.addr (by omega)
      obtain ⟨q, kc, x, hx, c1, h1⟩ := (h.later hbe).get k hlt
      have hlt2 : (k : Int) < (ls.length : Int) := by omega
      have hx32 := hz x (List.mem_of_getElem? hx.out)
      have hpl := putL_len (ls.take k) (fun y hy => hz y (List.mem_of_mem_take hy))
      have htl : (ls.take k).length ≤ 1048576 := by simp; omega
      have hC := cbytes_any _ _ _ _ wr hH h1 (by rw [List.length_append]; omega)
      have HN : Hid (l ++ putL (ls.take k) ++ bytesL x = l ++ putL (ls.take (k + 1))) := by
        show _ = _
        rw [List.take_add_one, hx.out]
        show _ = l ++ putL (ls.take k ++ [x])
        rw [putL_snoc, List.append_assoc]
      clear hx h1 hH hpl htl hx32
      generalize putL (ls.take k) = F at *
      go_wp2_with fail
      refine hC.mono ?_
      rintro y w2 hy
      obtain ⟨v2, rfl, hv2, hb2⟩ : ∃ v2, y = .returned v2 ∧ HB w2 v2 (l ++ F ++ bytesL x) ∧ Below wr.heap.size wr w2 := by
        obtain ⟨p2, c2, e1, e2, e3⟩ := hy
        exact ⟨_, e1, HB.of_owns e2, e3⟩
      rw [HN.out] at hv2
      have hb3 := hbe.trans (hb2.mono hbe.size)
      clear hC hy hb2 HN
      go_wp2
      go_roundw
      case rel => first | exact ⟨k + 1, by omega, by go_num, hv2, hb3⟩ | ((repeat apply Exists.intro); exact ⟨⟨k + 1, by omega, by go_num, hv2, hb3⟩, rfl⟩)
      case measure => simp [intOf]; omega
    · rw [List.take_of_length_le (by omega)] at hH
      go_wp2
      go_ret
      exact ⟨_, rfl, hH, hbe⟩

end Go.Proofs.YtcgpgnajmfemhaaGreatDoor

namespace Go.Proofs.YtcgpgnajmfemhaaGreatDoor
open Go.RowKit

theorem canB_iff (size : Int) (r : Rc) : canB size r = true ↔ (1 ≤ size ∧ size ≤ 32 ∧ 0 ≤ r.e ∧ r.e ≤ 255 ∧ 0 ≤ r.t ∧ r.t ≤ 1125899906842624 ∧ 0 ≤ r.c ∧ r.c ≤ 32 ∧ r.lk.length = (linksL r.e.toNat).length ∧ (r.tr.length : Int) = size ∧ (r.li.length : Int) = size ∧ sizedB size r.lk = true) := by
  simp only [canB, Bool.and_eq_true, decide_eq_true_eq, sizedB, List.all_cons, List.all_nil, Bool.and_true]
  constructor
  · rintro ⟨h1, h2, ⟨h3, h4⟩, ⟨h5, h6⟩, ⟨h7, h8⟩, h9, ⟨h10, h11⟩, h12⟩
    exact ⟨h1, h2, h3, h4, h5, h6, h7, h8, h9, h10, h11, h12⟩
  · rintro ⟨h1, h2, h3, h4, h5, h6, h7, h8, h9, h10, h11, h12⟩
    exact ⟨h1, h2, ⟨h3, h4⟩, ⟨h5, h6⟩, ⟨h7, h8⟩, h9, ⟨h10, h11⟩, h12⟩

theorem canB_no {size : Int} {r : Rc} (h : ¬ (1 ≤ size ∧ size ≤ 32 ∧ 0 ≤ r.e ∧ r.e ≤ 255 ∧ 0 ≤ r.t ∧ r.t ≤ 1125899906842624 ∧ 0 ≤ r.c ∧ r.c ≤ 32 ∧ r.lk.length = (linksL r.e.toNat).length ∧ (r.tr.length : Int) = size ∧ (r.li.length : Int) = size ∧ sizedB size r.lk = true)) : canB size r = false := by
  cases hb : canB size r with
  | false => rfl
  | true => exact absurd ((canB_iff size r).1 hb) h

theorem rc_dbl (k : Nat) (h : k < 62) : wrap64 (2 * ((2 ^ k : Nat) : Int)) = ((2 ^ (k + 1) : Nat) : Int) := by
  have h1 : 2 ^ k ≤ 2 ^ 61 := Nat.pow_le_pow_right (by decide) (by omega)
  have h2 : (2 : Nat) ^ 61 = 2305843009213693952 := by decide
  rw [Nat.pow_succ]
  generalize 2 ^ k = q at *
  unfold wrap64
  omega

end Go.Proofs.YtcgpgnajmfemhaaGreatDoor

namespace Go.Proofs.YtcgpgnajmfemhaaGreatDoor
open Go.RowKit

end Go.Proofs.YtcgpgnajmfemhaaGreatDoor
