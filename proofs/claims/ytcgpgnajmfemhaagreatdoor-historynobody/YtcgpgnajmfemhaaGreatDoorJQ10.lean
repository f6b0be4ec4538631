/- What this text proves: the walk of bits.copied over this program: the same bytes in new memory. What this text proves: the walk of bits.First over this program: the first n bits of bytes, in new memory. What this text proves: the walks of arena.LeafHash and arena.ForkHash over this program: a leaf's hash, and a fork's, in new memory. What this text proves: the walk of an arena's Leaf over this program, of an arena with no free places. What this text proves: the walks of a way's parts and needs, and of ptree.Insert over this program: the errors, and a first leaf. What this text proves: the walk of snaps.put of any one binding into the empty tree, over this program. (By program: mkhyput.py.) -/
import Derived.Test.YtcgpgnajmfemhaaGreatDoorJQ4
import Derived.Test.YtcgpgnajmfemhaaGreatDoorJOw
import Derived.Test.YtcgpgnajmfemhaaGreatDoorBitsPlain
import Derived.BigQuiet
import Derived.Test.YtcgpgnajmfemhaaGreatDoorJQ9
import Derived.Test.YtcgpgnajmfemhaaGreatDoorJQ7
import Derived.Test.YtcgpgnajmfemhaaGreatDoorJQ8
import Derived.Test.YtcgpgnajmfemhaaGreatDoorJQ3
import Derived.Test.YtcgpgnajmfemhaaGreatDoorJQ1
namespace Go.Proofs.YtcgpgnajmfemhaaGreatDoor.Vf
open Go.RowKit

set_option maxRecDepth 100000 in
set_option maxHeartbeats 1000000 in
theorem copied_any (v : Value) (l : List UInt8) (w : World) (h : HB w v l) (hbig : l.length ≤ 140737488355328) :
    Calls Tryz.prog 254 #[v] w fun e w' => e = .returned (.slice (some ⟨w.heap.size, 0, none⟩) l.length l.length) ∧ w'.ownsRow w.heap.size 5 1 (.slice (some ⟨w.heap.size, 0, none⟩) l.length l.length) l.length (bcs l) ∧ Below w.heap.size w w' := by
  obtain ⟨p, c, rfl⟩ := h.shape
  obtain ⟨i0, hi, hz0, hz1, hz2⟩ := info_parts i_u8
  go_enter Tryz.func254, Tryz.ntmps254
  go_wp2_with (first | (at_make; refine wpList_make_full _ rfl _ _ 37 rfl w.heap.size 5 i0 (.int .u8 0) 1 Tryz.underlying37 hi hz0 hz1 .i64 .i64 _ _ l.length rfl rfl ?qa ?qb ?qc ?qd ?qe ?_))
  case qa => rfl
  case qb => rfl
  case qc => rw [hz2]; omega
  case qd => unfold maxLen; omega
  case qe => exact Nat.le_refl _
  intro w1 hown1 hgrow1
  have hb1 : Below w.heap.size w w1 := (Below.refl _ w).grown hgrow1 (Nat.le_refl _) (by intro k hk; cases hk)
  have hs1 := h.later hb1
  clear h hgrow1
  go_wp2_with (refine wpList_copy_hb rfl (.tmp 7) (.tmp 8) 37 37 rfl 5 Tryz.underlying37 s_u8 w.heap.size l.length _ _ _ rfl rfl w.heap.size _ hown1 l hs1 rfl ?_)
  intro w2 hown2 hgrow2
  have hb2 : Below w.heap.size w w2 := hb1.grown hgrow2 hb1.size (by intro k hk; cases hk; exact Nat.le_refl _)
  clear hs1 hown1 hgrow2 hb1
  go_wp2
  go_ret
  exact ⟨rfl, hown2, hb2⟩

end Go.Proofs.YtcgpgnajmfemhaaGreatDoor.Vf

namespace Go.Proofs.YtcgpgnajmfemhaaGreatDoor.Vf
open Go.RowKit

theorem cut_calc : ∀ n : Fin 256, ∀ k : Fin 8, bits BinOp.and IntKind.u8 (n.val : Int) (255 * 2 ^ (8 - k.val) % 256) = ((n.val / 2 ^ (8 - k.val) * 2 ^ (8 - k.val) : Nat) : Int) := by decide +kernel

set_option maxRecDepth 100000 in
set_option maxHeartbeats 1000000 in
theorem first_any (v : Value) (l : List UInt8) (i : Int) (w : World) (h : HB w v l) (h0 : -9223372036854775808 ≤ i) (h1 : i ≤ 9223372036854775807) (hbig : l.length ≤ 140737488355328) :
    Calls Tryz.prog 243 #[v, .int .i64 i] w fun e w' => ∃ p c, e = .returned (.slice p (firstF l i).length c) ∧ HB w' (.slice p (firstF l i).length c) (firstF l i) ∧ Below w.heap.size w w' := by
  obtain ⟨p, c, rfl⟩ := h.shape
  by_cases hneg : i < 1
  · have e : firstF l i = [] := by unfold firstF; rw [show i.toNat = 0 by omega, firstN_zero]
    rw [e]
    clear e
    go_enter Tryz.func243, Tryz.ntmps243
    go_wp2
    go_ret
    exact ⟨none, 0, rfl, HB.nil _, Below.refl _ _⟩
  · obtain ⟨n, rfl⟩ : ∃ n : Nat, i = n := ⟨i.toNat, by omega⟩
    have ht : (n : Int).tdiv 8 = (n : Int) / 8 := Int.tdiv_eq_ediv_of_nonneg (by omega)
    have hm : (n : Int).tmod 8 = (n : Int) % 8 := Int.tmod_eq_emod_of_nonneg (by omega)
    have hF : firstF l (n : Int) = firstN l n := by unfold firstF; simp
    have hlc := h.len.2
    unfold maxLen at hlc
    rw [hF]
    clear hF
    by_cases hge : l.length ≤ n / 8
    · rw [firstN_all l n hge]
      have k1 := fun w => run_upto (P := Tryz.prog) Tryz.underlying37 s_u8 p l.length c l.length (l.length : Int) rfl (by omega) w
      go_enter Tryz.func243, Tryz.ntmps243
      go_wp2_with (first | (go_at_call 254; refine (copied_any _ l _ h hbig).mono ?_; rintro e w1 ⟨rfl, hown, hb1⟩))
      go_ret
      exact ⟨_, _, rfl, HB.of_owns hown, hb1⟩
    · by_cases hpart : n % 8 = 0
      · have HF : Hid (firstN l n = l.take (n / 8)) := firstN_whole l n hpart
        have k1 := fun w => run_upto (P := Tryz.prog) Tryz.underlying37 s_u8 p l.length c (n / 8) ((n : Int) / 8) (by omega) (by omega) w
        have hf := h.front (n / 8) (by omega)
        have hlt : (l.take (n / 8)).length = n / 8 := by rw [List.length_take]; omega
        have hcp := copied_any _ _ w hf (by omega)
        rw [hlt] at hcp
        have hp8 : (n : Int) % 8 = 0 := by omega
        have HL : Hid ((firstN l n).length = n / 8) := by show (firstN l n).length = n / 8; rw [HF.out, hlt]
        clear h hlt
        go_enter Tryz.func243, Tryz.ntmps243
        go_wp2_with (first | (go_at_call 254; refine hcp.mono ?_; rintro e w1 ⟨rfl, hown, hb1⟩))
        go_ret
        have hh := HB.of_owns hown
        rw [HL.out, HF.out]
        exact ⟨_, _, rfl, hh, hb1⟩
      · have hg : l[n / 8]? = some l[n / 8] := List.getElem?_eq_getElem (by omega)
        generalize l[n / 8]'(by omega) = x at hg
        have HF : Hid (firstN l n = l.take (n / 8) ++ [cutB x (n % 8)]) := firstN_part l n x hpart hg
        have k1 := fun w => run_upto (P := Tryz.prog) Tryz.underlying37 s_u8 p l.length c (n / 8 + 1) ((n : Int) / 8 + 1) (by omega) (by omega) w
        have hf := h.front (n / 8 + 1) (by omega)
        have hlt : (l.take (n / 8 + 1)).length = n / 8 + 1 := by rw [List.length_take]; omega
        have htk : l.take (n / 8 + 1) = l.take (n / 8) ++ [x] := by rw [List.take_add_one, hg]; rfl
        have hcp := copied_any _ _ w hf (by omega)
        rw [hlt] at hcp
        have hp8 : ¬ (n : Int) % 8 = 0 := by omega
        have hl8 : (l.take (n / 8)).length = n / 8 := by rw [List.length_take]; omega
        have HL : Hid ((firstN l n).length = n / 8 + 1) := by show (firstN l n).length = n / 8 + 1; rw [HF.out, List.length_append, hl8]; rfl
        have hx := x.toNat_lt
        have HX : Hid (bits BinOp.and IntKind.u8 (x.toNat : Int) (255 * 2 ^ (8 - n % 8) % 256) = ((cutB x (n % 8)).toNat : Int)) := by
          show bits BinOp.and IntKind.u8 (x.toNat : Int) (255 * 2 ^ (8 - n % 8) % 256) = ((cutB x (n % 8)).toNat : Int)
          rw [cutB_toNat]
          exact cut_calc ⟨x.toNat, hx⟩ ⟨n % 8, by omega⟩
        have HT : Hid (l.take (n / 8 + 1) = l.take (n / 8) ++ [x]) := htk
        have HL8 : Hid ((l.take (n / 8)).length = n / 8) := hl8
        clear h hlt hg htk hl8 hf
        go_enter Tryz.func243, Tryz.ntmps243
        go_wp2_with (first | (go_at_call 254; refine hcp.mono ?_; rintro e w1 ⟨rfl, hown, hb1⟩; rw [HT.out] at hown; have q1 : w1.cell? ⟨w.heap.size, n / 8, none⟩ = some (.int .u8 (x.toNat : Int)) := (by rw [hown.cellAt (n / 8) (by omega), bcs_get, List.getElem?_append_right (by rw [HL8.out]; exact Nat.le_refl _), HL8.out, Nat.sub_self]; rfl); have qf := hown.frozenAt (n / 8); clear hcp))
        go_region
        go_wp2
        go_ret
        rw [HX.out]
        have hown2 := owns_put hown (n / 8) (cutB x (n % 8)) (.int .u8 ((cutB x (n % 8)).toNat : Int)) rfl
        rw [List.set_append_right _ _ (by rw [HL8.out]; exact Nat.le_refl _), HL8.out, Nat.sub_self, List.set_cons_zero] at hown2
        have hb2 : Below w.heap.size w (w1.setCell ⟨w.heap.size, n / 8, none⟩ (.int .u8 ((cutB x (n % 8)).toNat : Int))) := hb1.setCell (Nat.le_refl _) _
        have hh := (HB.of_owns hown2).later (Below.refl _ _).drew
        rw [HL.out, HF.out]
        exact ⟨_, _, rfl, hh, hb2.drew⟩

end Go.Proofs.YtcgpgnajmfemhaaGreatDoor.Vf

namespace Go.Proofs.YtcgpgnajmfemhaaGreatDoor.Vf
open Go.RowKit

def leafF (size : Int) (id key : List UInt8) (since : Int) : List UInt8 := hashF size 1 [id, key, numB since]
def forkF (size depth : Int) (pre : List UInt8) (newest : Int) (ll lr : List UInt8) : List UInt8 := hashF size 2 [numB depth, firstF pre depth, numB newest, ll, lr]

set_option maxRecDepth 100000 in
set_option maxHeartbeats 1000000 in
theorem leafHash_any (size since : Int) (vi vk : Value) (id key : List UInt8) (w : World) (hi : HB w vi id) (hk : HB w vk key) (hT : Tabs w) :
    Calls Tryz.prog 229 #[.int .i64 size, vi, vk, .int .i64 since] w fun e w' => ∃ p c, e = .returned (.slice p (leafF size id key since).length c) ∧ HB w' (.slice p (leafF size id key since).length c) (leafF size id key since) ∧ Below w.heap.size w w' ∧ TB w' (.slice p (leafF size id key since).length c) := by
  obtain ⟨p, c, rfl⟩ := hi.shape
  obtain ⟨q, d, rfl⟩ := hk.shape
  have HF : Hid (leafF size id key since = hashF size 1 [id, key, numB since]) := rfl
  generalize leafF size id key since = F at *
  have hA := fun w' => number_to since w'
  generalize numB since = A at *
  go_enter Tryz.func229, Tryz.ntmps229
  go_wp2_with fail
  refine (hA _).mono ?_
  rintro e w1 ⟨p1, c1, rfl, h1, hb1⟩
  have hi1 := hi.later hb1
  have hk1 := hk.later hb1
  have hT1 := hT.later hb1
  clear hi hk hA hT
  go_wp2_with fail
  have hbA : Below w.heap.size w (w1.alloc (.cells #[.slice p id.length c, .slice q key.length d, .slice p1 8 c1] 37)) := hb1.alloc hb1.size _
  refine (hash_toT size 1 _ [id, key, A] _ (by simp) (by decide) (PA.lit w1 37 [_, _, _] _ 3 rfl rfl (by decide) (three_hb hi1 hk1 h1)) (hT1.later ((Below.refl _ w1).alloc (Nat.le_refl _) _))).mono ?_
  rintro e w3 ⟨p3, c3, rfl, h3, hb3, t3⟩
  rw [← HF.out] at h3 t3 ⊢
  have hb03 : Below w.heap.size w w3 := hbA.trans (hb3.mono hbA.size)
  go_wp2
  go_ret
  exact ⟨_, _, rfl, h3, hb03, t3⟩

set_option maxRecDepth 100000 in
set_option maxHeartbeats 1000000 in
theorem forkHash_any (size depth newest : Int) (vp vl vr : Value) (pre ll lr : List UInt8) (w : World) (hp : HB w vp pre) (hl : HB w vl ll) (hr : HB w vr lr) (hT : Tabs w) (h0 : -9223372036854775808 ≤ depth) (h1 : depth ≤ 9223372036854775807) (hbig : pre.length ≤ 140737488351232) :
    Calls Tryz.prog 244 #[.int .i64 size, .int .i64 depth, vp, .int .i64 newest, vl, vr] w fun e w' => ∃ p c, e = .returned (.slice p (forkF size depth pre newest ll lr).length c) ∧ HB w' (.slice p (forkF size depth pre newest ll lr).length c) (forkF size depth pre newest ll lr) ∧ Below w.heap.size w w' ∧ TB w' (.slice p (forkF size depth pre newest ll lr).length c) := by
  obtain ⟨p, c, rfl⟩ := hp.shape
  obtain ⟨q, d, rfl⟩ := hl.shape
  obtain ⟨r, e, rfl⟩ := hr.shape
  have HF : Hid (forkF size depth pre newest ll lr = hashF size 2 [numB depth, firstF pre depth, numB newest, ll, lr]) := rfl
  generalize forkF size depth pre newest ll lr = F at *
  have hA := fun w' => number_to depth w'
  have hB := fun w' => number_to newest w'
  have hC := fun w' h => first_any (.slice p pre.length c) pre depth w' h h0 h1 (by omega)
  generalize numB depth = A at *
  generalize numB newest = B at *
  generalize firstF pre depth = C at *
  go_enter Tryz.func244, Tryz.ntmps244
  go_wp2_with fail
  refine (hA _).mono ?_
  rintro x w1 ⟨p1, c1, rfl, k1, hb1⟩
  go_wp2_with fail
  refine (hC _ (hp.later hb1)).mono ?_
  rintro x w2 ⟨p2, c2, rfl, k2, hb2⟩
  have hb02 := hb1.trans (hb2.mono hb1.size)
  go_wp2_with fail
  refine (hB _).mono ?_
  rintro x w3 ⟨p3, c3, rfl, k3, hb3⟩
  have hb03 := hb02.trans (hb3.mono hb02.size)
  have k13 := (k1.later hb2).later hb3
  have k23 := k2.later hb3
  have hl3 := hl.later hb03
  have hr3 := hr.later hb03
  have hT3 := hT.later hb03
  clear hp hl hr hA hB hC k1 k2 hb1 hb2 hb02 hb3 hT
  go_wp2_with fail
  have hbA : Below w.heap.size w (w3.alloc (.cells #[.slice p1 8 c1, .slice p2 C.length c2, .slice p3 8 c3, .slice q ll.length d, .slice r lr.length e] 37)) := hb03.alloc hb03.size _
  refine (hash_toT size 2 _ [A, C, B, ll, lr] _ (by simp) (by decide) (PA.lit w3 37 [_, _, _, _, _] _ 5 rfl rfl (by decide) (five_hb k13 k23 k3 hl3 hr3)) (hT3.later ((Below.refl _ w3).alloc (Nat.le_refl _) _))).mono ?_
  rintro x w4 ⟨p4, c4, rfl, k4, hb4, t4⟩
  rw [← HF.out] at k4 t4 ⊢
  have hb04 : Below w.heap.size w w4 := hbA.trans (hb4.mono hbA.size)
  go_wp2
  go_ret
  exact ⟨_, _, rfl, k4, hb04, t4⟩

end Go.Proofs.YtcgpgnajmfemhaaGreatDoor.Vf

namespace Go.Proofs.YtcgpgnajmfemhaaGreatDoor.Vf
open Go.RowKit

/-- A leaf. -/
def leafS (s : Int) (id key : List UInt8) (since : Int) : NodeS := ⟨true, id, key, since, 0, [], since, 0, 0, leafF s id key since⟩

set_option maxRecDepth 100000 in
set_option maxHeartbeats 2000000 in
theorem leaf_ok (g n c base : Nat) (s r since : Int) (p : Option Addr) (xs : List Value) (vi vk : Value) (id key : List UInt8) (w : World) (h : AG w g s r p n c) (ho : w.ownsRow base 229 1 (.slice p n c) n xs) (hbase : base ≤ w.heap.size) (hs : s ≠ 0) (hr : (n : Int) < r) (hr2 : r ≤ 4194304)
    (hi : HB w vi id) (hk : HB w vk key) (hT : Tabs w) (hs0 : 0 ≤ since) (hid : id.length ≤ 65535) (hkey : key.length ≤ 65535) :
    Calls Tryz.prog 205 #[.pointer (some ⟨g, 0, none⟩), vi, vk, .int .i64 since] w fun e w' => ∃ p' c' nb, e = .returned (.tuple #[.int .i64 (n : Int), .int .i64 0]) ∧ AG w' g s r p' (n + 1) c' ∧ w'.ownsRow base 229 1 (.slice p' (n + 1) c') (n + 1) (xs ++ [.pointer (some ⟨nb, 0, none⟩)]) ∧ NB w' nb (leafS s id key since) ∧ w.heap.size ≤ nb ∧ Fr g (Value.slice p n c).ownBlock w w' := by
  obtain ⟨pi, ci, rfl⟩ := hi.shape
  obtain ⟨pk, ck, rfl⟩ := hk.shape
  have hM := miss_no g s w h.cells.1 hs
  have a1 : ¬ since < 0 := by omega
  have a2 : ¬ (65535 : Int) < (id.length : Int) := by omega
  have a3 : ¬ (65535 : Int) < (key.length : Int) := by omega
  have c0 := h.cells.1
  have hd : Below w.heap.size w w.drew := (Below.refl _ w).drew
  have hC1 := clone_own _ id _ (hi.later hd) (by omega)
  have HF : Hid (leafS s id key since = ⟨true, id, key, since, 0, [], since, 0, 0, leafF s id key since⟩) := rfl
  have hL := fun w' h1 h2 h3 => leafHash_any s since (.slice pi id.length ci) (.slice pk key.length ck) id key w' h1 h2 h3
  generalize leafS s id key since = X at *
  generalize leafF s id key since = F at *
  go_enter Tryz.func205, Tryz.ntmps205
  go_wp2_with (first | (go_at_call 63; refine hM.mono ?_; rintro e w1 ⟨rfl, hw⟩; have hw2 := hw.symm; clear hw; subst hw2))
  clear hM
  go_region_held3 (fun w' => w'.cell? ⟨g, 0, none⟩ = some (.int .i64 s)) (first | exact c0 | exact d1 | exact d2 | exact d3 | exact d4 | exact cell_later ((Below.refl _ w3).alloc (Nat.le_refl _) _) d3 | simpa using c0) (first
    | (go_at_call 44; refine hC1.mono ?_; rintro e w1 ⟨p1, c1, rfl, o1, hb1'⟩; have hb1 : Below w.heap.size w w1 := hd.trans (hb1'.mono (by simp)); have d1 := cell_later hb1 c0)
    | (go_at_call 44; refine (clone_own _ key _ (hk.later hb1) (by omega)).mono ?_; rintro e w2 ⟨p2, c2, rfl, o2, hb2'⟩; have hb2 : Below w.heap.size w w2 := hb1.trans (hb2'.mono hb1.size); have d2 := cell_later hb2 c0)
    | (go_at_call 229; refine (hL _ (hi.later hb2) (hk.later hb2) (hT.later hb2)).mono ?_; rintro e w3 ⟨p3, c3, rfl, k3, hb3', t3⟩; have hb3 : Below w.heap.size w w3 := hb2.trans (hb3'.mono hb2.size); have d3 := cell_later hb3 c0)
    | (go_at_call 228; have bN := (Below.refl _ w3).alloc (Nat.le_refl _) (.cells #[.bool true, .slice p1 id.length c1, .slice p2 key.length c2, .int .i64 since, .int .i64 0, .slice none 0 0, .int .i64 since, .int .i64 0, .int .i64 0, .slice p3 F.length c3] 228); have hb4 : Below w.heap.size w (w3.alloc (.cells #[.bool true, .slice p1 id.length c1, .slice p2 key.length c2, .int .i64 since, .int .i64 0, .slice none 0 0, .int .i64 since, .int .i64 0, .int .i64 0, .slice p3 F.length c3] 228)) := hb3.trans (bN.mono hb3.size); have h4 := h.later hb4; have o4 := owns_later ho hb4; refine (put_new g n c base s r p xs ⟨w3.heap.size, 0, none⟩ _ h4 o4 (Nat.le_trans hbase hb4.size) hs hr hr2).mono ?_; rintro e w5 ⟨p5, c5, rfl, h5, o5, f5⟩; have d4 := h5.cells.1))
  have hX : NB (w3.alloc (.cells #[.bool true, .slice p1 id.length c1, .slice p2 key.length c2, .int .i64 since, .int .i64 0, .slice none 0 0, .int .i64 since, .int .i64 0, .int .i64 0, .slice p3 F.length c3] 228)) w3.heap.size X := by
    rw [HF.out]
    exact ⟨_, _, _, _, heap_alloc_new w3 _, ⟨(((HB.of_owns o1).later hb2').later hb3').later bN, (((TB.of_owns o1).later hb2').later hb3').later bN⟩, ⟨((HB.of_owns o2).later hb3').later bN, ((TB.of_owns o2).later hb3').later bN⟩, HT.nil _, ⟨k3.later bN, t3.later bN⟩⟩
  have hX5 := hX.fr h4 o4 f5
  have hF : Fr g (Value.slice p n c).ownBlock w w5 := by
    refine ⟨fun B h1 h2 h3 => (hb4.mono h3).trans (f5.1 B h1 h2 (Nat.le_trans h3 hb4.size)), fun k hk1 hk2 hk3 => (f5.2 k (Nat.lt_of_lt_of_le hk1 hb4.size) hk2 hk3).trans (hb4.block k hk1)⟩
  have hs3 := hb3.size
  clear hX h4 o4 f5 bN hb4 o1 o2 k3 t3 hb1 hb1' hb2 hb2' hb3 hb3' d1 d2 d3 d4 hC1 hL ho h c0 hi hk
  go_wp2
  go_ret2
  exact ⟨_, _, _, rfl, h5, o5, hX5, hs3, hF⟩

end Go.Proofs.YtcgpgnajmfemhaaGreatDoor.Vf

namespace Go.Proofs.YtcgpgnajmfemhaaGreatDoor.Vf
open Go.RowKit

theorem Fr.only {g : Nat} {w w' : World} (f : Fr g (Value.slice none 0 0).ownBlock w w') (hg : g < w.heap.size) : Only g w w' :=
  ⟨f.1 g (Nat.le_refl _) (fun k hk => by cases hk) (by omega), fun k h1 h2 => f.2 k h2 (by omega) (fun e => by cases e)⟩

set_option maxRecDepth 100000 in
set_option maxHeartbeats 400000 in
theorem wparts_none (p : Option Addr) (n c : Nat) (w : World) : Calls Tryz.prog 206 #[.agg #[.slice p n c, .slice none 0 0, .int .i64 (-1), .int .i64 0, .bool false]] w fun e w' => e = .returned (.bool false) ∧ Below w.heap.size w w' := by
  have bA := (Below.refl _ w).alloc (Nat.le_refl _) (.cells #[.slice p n c, .slice none 0 0, .int .i64 (-1), .int .i64 0, .bool false] 259)
  go_enter Tryz.func206, Tryz.ntmps206
  go_wp2
  go_ret
  exact ⟨rfl, bA⟩

set_option maxRecDepth 100000 in
set_option maxHeartbeats 400000 in
theorem wneeds_none (p : Option Addr) (n c : Nat) (w : World) : Calls Tryz.prog 204 #[.agg #[.slice p n c, .slice none 0 0, .int .i64 (-1), .int .i64 0, .bool false]] w fun e w' => e = .returned (.int .i64 1) ∧ Below w.heap.size w w' := by
  have bA := (Below.refl _ w).alloc (Nat.le_refl _) (.cells #[.slice p n c, .slice none 0 0, .int .i64 (-1), .int .i64 0, .bool false] 259)
  go_enter Tryz.func204, Tryz.ntmps204
  have gA := heap_alloc_new w (.cells #[.slice p n c, .slice none 0 0, .int .i64 (-1), .int .i64 0, .bool false] 259)
  go_wp2_with (first | (go_at_call 206; refine (wparts_none _ _ _ _).mono ?_; rintro e w1 ⟨rfl, hb1⟩; have g1 := (hb1.block _ (Array.getElem?_eq_some_iff.1 gA).1).trans gA; have c1 : w1.cell? ⟨w.heap.size, 1, none⟩ = some (.slice none 0 0) := (by rw [cell_of_row _ _ 1 _ _ _ g1]; rfl)))
  go_ret
  exact ⟨rfl, bA.trans (hb1.mono bA.size)⟩

set_option maxRecDepth 100000 in
set_option maxHeartbeats 1000000 in
theorem insert_arg (g : Nat) (s r i since : Int) (p : Option Addr) (n c : Nat) (vi vk : Value) (id key : List UInt8) (w : World) (h : AG w g s r p n c) (hs : s ≠ 0) (hi : i < 0 ∨ (n : Int) ≤ i) (hid : HB w vi id) (hkey : HB w vk key) (hbad : i ≠ -1 ∨ 255 < id.length ∨ 65535 < key.length ∨ since < 0) :
    Calls Tryz.prog 168 #[.pointer (some ⟨g, 0, none⟩), .int .i64 i, vi, vk, .int .i64 since] w fun e w' => e = .returned (.tuple #[.int .i64 0, .int .i64 1]) ∧ Below w.heap.size w w' := by
  obtain ⟨pi, ci, rfl⟩ := hid.shape
  obtain ⟨pk, ck, rfl⟩ := hkey.shape
  have hM := pmissing_no g s r p n c w h hs
  have hR := isRoot_out g s r i p n c w h hs hi
  clear h hi
  have hc : i ≠ -1 ∨ (i = -1 ∧ 255 < id.length) ∨ (i = -1 ∧ id.length ≤ 255 ∧ 65535 < key.length) ∨ (i = -1 ∧ id.length ≤ 255 ∧ key.length ≤ 65535 ∧ since < 0) := by omega
  clear hbad
  go_enter Tryz.func168, Tryz.ntmps168
  rcases hc with h1 | ⟨h1, h2⟩ | ⟨h1, h2, h3⟩ | ⟨h1, h2, h3, h4⟩
  · have e1 : (i == -1) = false := by simpa using h1
    rw [e1] at hR
    go_wp2_with (first | (go_at_call 200; refine hM.mono ?_; rintro e w1 ⟨rfl, hw⟩; have hw2 := hw.symm; clear hw; subst hw2) | (go_at_call 201; refine hR.mono ?_; rintro e w1 ⟨rfl, hb1⟩))
    go_ret2
    exact ⟨rfl, hb1⟩
  · subst h1
    have e1 : ((-1 : Int) == -1) = true := rfl
    rw [e1] at hR
    have e2 : (255 : Int) < (id.length : Int) := by omega
    go_wp2_with (first | (go_at_call 200; refine hM.mono ?_; rintro e w1 ⟨rfl, hw⟩; have hw2 := hw.symm; clear hw; subst hw2) | (go_at_call 201; refine hR.mono ?_; rintro e w1 ⟨rfl, hb1⟩))
    go_ret2
    exact ⟨rfl, hb1⟩
  · subst h1
    have e1 : ((-1 : Int) == -1) = true := rfl
    rw [e1] at hR
    have e2 : ¬ (255 : Int) < (id.length : Int) := by omega
    have e3 : (65535 : Int) < (key.length : Int) := by omega
    go_wp2_with (first | (go_at_call 200; refine hM.mono ?_; rintro e w1 ⟨rfl, hw⟩; have hw2 := hw.symm; clear hw; subst hw2) | (go_at_call 201; refine hR.mono ?_; rintro e w1 ⟨rfl, hb1⟩))
    go_ret2
    exact ⟨rfl, hb1⟩
  · subst h1
    have e1 : ((-1 : Int) == -1) = true := rfl
    rw [e1] at hR
    have e2 : ¬ (255 : Int) < (id.length : Int) := by omega
    have e3 : ¬ (65535 : Int) < (key.length : Int) := by omega
    go_wp2_with (first | (go_at_call 200; refine hM.mono ?_; rintro e w1 ⟨rfl, hw⟩; have hw2 := hw.symm; clear hw; subst hw2) | (go_at_call 201; refine hR.mono ?_; rintro e w1 ⟨rfl, hb1⟩))
    go_ret2
    exact ⟨rfl, hb1⟩

set_option maxRecDepth 100000 in
set_option maxHeartbeats 1000000 in
theorem insert_first (g base : Nat) (s r since : Int) (vi vk : Value) (id key : List UInt8) (w : World) (h : AG w g s r none 0 0) (hbase : base ≤ w.heap.size) (hs : s ≠ 0) (hr : 1 ≤ r) (hr2 : r ≤ 4194304) (hid : HB w vi id) (hkey : HB w vk key) (hT : Tabs w) (h255 : id.length ≤ 255) (hk : key.length ≤ 65535) (hs0 : 0 ≤ since) :
    Calls Tryz.prog 168 #[.pointer (some ⟨g, 0, none⟩), .int .i64 (-1), vi, vk, .int .i64 since] w fun e w' => ∃ p' c' nb, e = .returned (.tuple #[.int .i64 0, .int .i64 0]) ∧ AG w' g s r p' 1 c' ∧ w'.ownsRow base 229 1 (.slice p' 1 c') 1 [.pointer (some ⟨nb, 0, none⟩)] ∧ NB w' nb (leafS s id key since) ∧ w.heap.size ≤ nb ∧ Only g w w' := by
  obtain ⟨pi, ci, rfl⟩ := hid.shape
  obtain ⟨pk, ck, rfl⟩ := hkey.shape
  have hM := pmissing_no g s r none 0 0 w h hs
  have hR := isRoot_out g s r (-1) none 0 0 w h hs (Or.inl (by decide))
  have e1 : ((-1 : Int) == -1) = true := rfl
  rw [e1] at hR
  have e2 : ¬ (255 : Int) < (id.length : Int) := by omega
  have e3 : ¬ (65535 : Int) < (key.length : Int) := by omega
  have e4 : ¬ since < 0 := by omega
  go_enter Tryz.func168, Tryz.ntmps168
  go_wp2_with (first | (go_at_call 200; refine hM.mono ?_; rintro e w1 ⟨rfl, hw⟩; have hw2 := hw.symm; clear hw; subst hw2) | (go_at_call 201; refine hR.mono ?_; rintro e w1 ⟨rfl, hb1⟩))
  have hb1' := hb1
  refine (down_out g s r (-1) none 0 0 _ id _ (h.later hb1) hs (Or.inl (by decide)) (hid.later hb1)).mono ?_
  rintro e w2 ⟨p2, c2, rfl, k2, hb2⟩
  have b2 := hb1.trans (hb2.mono hb1.size)
  generalize (keyF id).length = KL at *
  have hrn : r - ((0 : Nat) : Int) = r := by omega
  have hRm := fun w' h' => room_any g s r none 0 0 w' h' hs (by decide) (by simp; omega) hr2
  simp only [hrn] at hRm
  clear hM hR hb1 hb2 hb1'
  go_wp2_with fail
  obtain ⟨V, hV⟩ : ∃ V, V = w2.alloc (.cells #[.slice p2 KL c2, .slice none 0 0, .int .i64 (-1), .int .i64 0, .bool false] 259) := ⟨_, rfl⟩
  have bV : Below w2.heap.size w2 V := by rw [hV]; exact (Below.refl _ w2).alloc (Nat.le_refl _) _
  have gV : V.heap[w2.heap.size]? = some (.cells #[.slice p2 KL c2, .slice none 0 0, .int .i64 (-1), .int .i64 0, .bool false] 259 (0, 0)) := by rw [hV]; exact heap_alloc_new w2 _
  rw [← hV]
  clear hV
  have b0V := b2.trans (bV.mono b2.size)
  have hcell : ∀ W', Below V.heap.size V W' → W'.cell? ⟨w2.heap.size, 0, none⟩ = some (.slice p2 KL c2) ∧ W'.cell? ⟨w2.heap.size, 1, none⟩ = some (.slice none 0 0) ∧ W'.cell? ⟨w2.heap.size, 2, none⟩ = some (.int .i64 (-1)) ∧ W'.cell? ⟨w2.heap.size, 3, none⟩ = some (.int .i64 0) ∧ W'.cell? ⟨w2.heap.size, 4, none⟩ = some (.bool false) := by
    intro W' hb
    refine ⟨cell_later hb ?_, cell_later hb ?_, cell_later hb ?_, cell_later hb ?_, cell_later hb ?_⟩
    · rw [cell_of_row _ _ 0 _ _ _ gV]; rfl
    · rw [cell_of_row _ _ 1 _ _ _ gV]; rfl
    · rw [cell_of_row _ _ 2 _ _ _ gV]; rfl
    · rw [cell_of_row _ _ 3 _ _ _ gV]; rfl
    · rw [cell_of_row _ _ 4 _ _ _ gV]; rfl
  have hd : Below V.heap.size V V.drew := (Below.refl _ V).drew
  have hRV := hRm _ ((h.later b0V).later hd)
  have k0 := hcell V (Below.refl _ _)
  have hr3 : ¬ r < 1 := by omega
  go_region_held3 (fun W' => W'.cell? ⟨w2.heap.size, 0, none⟩ = some (.slice p2 KL c2) ∧ W'.cell? ⟨w2.heap.size, 1, none⟩ = some (.slice none 0 0) ∧ W'.cell? ⟨w2.heap.size, 2, none⟩ = some (.int .i64 (-1)) ∧ W'.cell? ⟨w2.heap.size, 3, none⟩ = some (.int .i64 0) ∧ W'.cell? ⟨w2.heap.size, 4, none⟩ = some (.bool false)) (first | exact k0 | exact hcell _ hd | exact hcell _ h3 | exact hcell _ h4) (first
    | (go_at_call 203; refine hRV.mono ?_; rintro e w3 ⟨rfl, hb3⟩; have h3 : Below V.heap.size V w3 := hd.trans (hb3.mono (by simp)))
    | (go_at_call 204; refine (wneeds_none _ _ _ _).mono ?_; rintro e w4 ⟨rfl, hb4⟩; have h4 : Below V.heap.size V w4 := h3.trans (hb4.mono h3.size)))
  have b4 := b0V.trans (h4.mono b0V.size)
  have hLf := leaf_ok g 0 0 base s r since none [] _ _ id key w4 (h.later b4) (World.ownsRow_nil _ _ _ _) (Nat.le_trans hbase b4.size) hs (by simp; omega) hr2 (hid.later b4) (hkey.later b4) (hT.later b4) hs0 (by omega) hk
  have g4 := (h4.block _ (Array.getElem?_eq_some_iff.1 gV).1).trans gV
  clear hRm hRV k0 hcell gV h3 hb3 hb4 hd
  have hgl := h.lt
  have sz2 := b2.size
  go_wp2_with fail
  refine hLf.mono ?_
  rintro e w5 ⟨p5, c5, nb, rfl, h5, o5, n5, hnb, f5⟩
  have on5 := f5.only (h.later b4).lt
  have g5 := (on5.block w2.heap.size (by omega) (Array.getElem?_eq_some_iff.1 g4).1).trans g4
  have d0 : w5.cell? ⟨w2.heap.size, 0, none⟩ = some (.slice p2 KL c2) := by rw [cell_of_row _ _ 0 _ _ _ g5]; rfl
  have d1 : w5.cell? ⟨w2.heap.size, 1, none⟩ = some (.slice none 0 0) := by rw [cell_of_row _ _ 1 _ _ _ g5]; rfl
  have d2 : w5.cell? ⟨w2.heap.size, 2, none⟩ = some (.int .i64 (-1)) := by rw [cell_of_row _ _ 2 _ _ _ g5]; rfl
  have d3 : w5.cell? ⟨w2.heap.size, 3, none⟩ = some (.int .i64 0) := by rw [cell_of_row _ _ 3 _ _ _ g5]; rfl
  have d4 : w5.cell? ⟨w2.heap.size, 4, none⟩ = some (.bool false) := by rw [cell_of_row _ _ 4 _ _ _ g5]; rfl
  have on05 : Only g w w5 := (Only.of_below b4 (by omega)).trans on5
  clear hLf f5 on5 g4 h4 hid hkey hT h
  go_wp2_with (first | (go_at_call 206; refine (wparts_none _ _ _ _).mono ?_; rintro e w6 ⟨rfl, hb6⟩; have x1 := cell_later hb6 d1))
  have h6 := h5.later hb6
  have o6 := owns_later o5 hb6
  have n6 := n5.later hb6
  have on6 : Only g w w6 := on05.trans (Only.of_below hb6 (by have := on05.size; omega))
  have hnb6 : w.heap.size ≤ nb := Nat.le_trans b4.size hnb
  clear d0 d1 d2 d3 d4 g5 x1 on05 h5 o5 n5 hnb
  go_loopw [13, 15] (fun t i wr => t = .int .i64 0 ∧ i = .int .i64 (-1) ∧ wr = w6) (fun _ _ _ => 0)
  case atStart => exact ⟨rfl, rfl, rfl⟩
  case round =>
    obtain ⟨rfl, rfl, rfl⟩ := hrel
    go_wp2
    go_ret2
    exact ⟨_, _, _, rfl, h6, by simpa using o6, n6, hnb6, on6⟩

end Go.Proofs.YtcgpgnajmfemhaaGreatDoor.Vf

namespace Go.Proofs.YtcgpgnajmfemhaaGreatDoor.Vf
open Go.RowKit

theorem cell_only {g b i : Nat} {w w' : World} {v : Value} (ho : Only g w w') (h : w.cell? ⟨b, i, none⟩ = some v) (hne : b ≠ g) : w'.cell? ⟨b, i, none⟩ = some v := by
  rw [World.cell?_of_block (w := w) (ho.block b hne (cell_lt h))]
  exact h

set_option maxRecDepth 100000 in
set_option maxHeartbeats 2000000 in
theorem sput_oneK {id key : List UInt8} {pk : Option Addr} {ck : Nat} {w : World} {g bl : Nat} {s h mi mk ch ar ca pg : Int} {ga : Nat} {vb vr vt : Value} {pi : Option Addr} {ci : Nat} (H : SN w g s h mi mk ch ar ca pg ga vb vr vt) (hA : AG w ga s ar none 0 0) (hs : s ≠ 0) (hr : 1 ≤ ar) (hr2 : ar ≤ 4194304) (hne : g ≠ ga)
    (hB : w.heap[bl]? = some (.cells #[.slice pi id.length ci, .slice pk key.length ck] 90 (0, 0))) (hI : HB w (.slice pi id.length ci) id) (hK : HB w (.slice pk key.length ck) key) (h255 : id.length ≤ 255) (hkl : key.length ≤ 65535) (hT : Tabs w) :
    Calls Tryz.prog 135 #[.pointer (some ⟨g, 0, none⟩), .int .i64 (-1), .slice (some ⟨bl, 0, none⟩) 1 1, .int .i64 1] w fun e w' => ∃ p' c' nb, e = .returned (.tuple #[.int .i64 0, .int .i64 0]) ∧ AG w' ga s ar p' 1 c' ∧ w'.ownsRow 0 229 1 (.slice p' 1 c') 1 [.pointer (some ⟨nb, 0, none⟩)] ∧ NB w' nb (leafS s id key 1) ∧ Only ga w w' := by
  obtain ⟨_, c8, _, _, _⟩ := H.cells
  have lg := H.lt
  have la := hA.lt
  have d0 : w.cell? ⟨bl, 0, none⟩ = some (.slice pi id.length ci) := by rw [cell_of_row _ _ _ _ _ _ hB]; rfl
  have d1 : w.cell? ⟨bl, 1, none⟩ = some (.slice pk key.length ck) := by rw [cell_of_row _ _ _ _ _ _ hB]; rfl
  go_enter Tryz.func135, Tryz.ntmps135
  go_wp2
  go_loopw [1, 15] (fun u v wr => ∃ k : Nat, k ≤ 1 ∧ v = .int .i64 (k : Int) ∧ (k = 0 → u = .int .i64 (-1) ∧ wr = w) ∧ (k = 1 → u = .int .i64 0 ∧ ∃ p' c' nb, AG wr ga s ar p' 1 c' ∧ wr.ownsRow 0 229 1 (.slice p' 1 c') 1 [.pointer (some ⟨nb, 0, none⟩)] ∧ NB wr nb (leafS s id key 1) ∧ Only ga w wr)) (fun _ v _ => 1 - (intOf v).toNat)
  case atStart => exact ⟨0, by omega, rfl, fun _ => ⟨rfl, rfl⟩, fun h => absurd h (by decide)⟩
  case round =>
    obtain ⟨k, hk, rfl, q0, q1⟩ := hrel
    rcases (by omega : k = 0 ∨ k = 1) with rfl | rfl
    · obtain ⟨rfl, hw⟩ := q0 rfl
      clear q0 q1
      have bX := (Below.refl w.heap.size w).alloc (Nat.le_refl _) (.cells #[.slice pi id.length ci, .slice pk key.length ck] 90)
      have gX := heap_alloc_new w (.cells #[.slice pi id.length ci, .slice pk key.length ck] 90)
      obtain ⟨X, hX⟩ : ∃ X, X = w.alloc (.cells #[.slice pi id.length ci, .slice pk key.length ck] 90) := ⟨_, rfl⟩
      rw [← hX] at bX gX
      subst hw
      go_wp2_with fail
      rw [← hX]
      obtain ⟨Y, hY⟩ : ∃ Y, Y = X.drew := ⟨_, rfl⟩
      have bY : Below wr.heap.size wr Y := by rw [hY]; exact bX.drew
      have gY : Y.heap[wr.heap.size]? = some (.cells #[.slice pi id.length ci, .slice pk key.length ck] 90 (0, 0)) := by rw [hY]; exact gX
      have onY : Only ga wr Y := ⟨bY.mono (by omega), fun k h1 h2 => bY.block k h2⟩
      have hI := insert_first ga 0 s ar 1 (.slice pi id.length ci) (.slice pk key.length ck) id key Y (hA.later bY) (Nat.zero_le _) hs hr hr2 (hI.later bY) (hK.later bY) (hT.later bY) h255 hkl (by decide)
      have y0 : Y.cell? ⟨wr.heap.size, 0, none⟩ = some (.slice pi id.length ci) := by rw [cell_of_row _ _ _ _ _ _ gY]; rfl
      have y1 : Y.cell? ⟨wr.heap.size, 1, none⟩ = some (.slice pk key.length ck) := by rw [cell_of_row _ _ _ _ _ _ gY]; rfl
      have hHeld : Y.cell? ⟨g, 8, none⟩ = some (.pointer (some ⟨ga, 0, none⟩)) ∧ Y.cell? ⟨wr.heap.size, 0, none⟩ = some (.slice pi id.length ci) ∧ Y.cell? ⟨wr.heap.size, 1, none⟩ = some (.slice pk key.length ck) := ⟨cell_later bY c8, y0, y1⟩
      refine wp_region_heldN (by kernel_rfl) (fun W => W.cell? ⟨g, 8, none⟩ = some (.pointer (some ⟨ga, 0, none⟩)) ∧ W.cell? ⟨wr.heap.size, 0, none⟩ = some (.slice pi id.length ci) ∧ W.cell? ⟨wr.heap.size, 1, none⟩ = some (.slice pk key.length ck)) 16 rfl ?_
      rw [← hY]
      clear hY
      refine tkY 0 ⟨some 20, .move (.tmp 0), 28, "snaps.go:100", #[], none⟩ ?v0z1 hHeld ?y0z1 ?r0z1
      case y0z1 => (intro w hSw; (try dsimp only at hSw); go_simp) <;> with_reducible rfl
      try simp only [Act.put, List.setIfInBounds_toArray, List.set_cons_zero, List.set_cons_succ]
      refine tkY 1 ⟨some 21, .nilCheck (.tmp 20), 0, "snaps.go:100", #[⟨0, .data⟩], none⟩ ?v1z2 hHeld ?y1z2 ?r1z2
      case y1z2 => (intro w hSw; (try dsimp only at hSw); go_simp) <;> with_reducible rfl
      try simp only [Act.put, List.setIfInBounds_toArray, List.set_cons_zero, List.set_cons_succ]
      refine tkY 2 ⟨some 22, .fieldAddr 128 (.tmp 21) 1, 0, "snaps.go:100", #[⟨1, .data⟩], none⟩ ?v2z3 hHeld ?y2z3 ?r2z3
      case y2z3 => (intro w hSw; (try dsimp only at hSw); go_simp) <;> with_reducible rfl
      try simp only [Act.put, List.setIfInBounds_toArray, List.set_cons_zero, List.set_cons_succ]
      refine tkY 3 ⟨some 23, .load 75 (.tmp 22), 75, "snaps.go:100", #[⟨2, .data⟩], none⟩ ?v3z4 hHeld ?y3z4 ?r3z4
      case y3z4 => (intro w hSw; (try dsimp only at hSw); go_simp) <;> with_reducible rfl
      try simp only [Act.put, List.setIfInBounds_toArray, List.set_cons_zero, List.set_cons_succ]
      refine tkY 4 ⟨some 24, .move (.tmp 1), 3, "snaps.go:100", #[], none⟩ ?v4z5 hHeld ?y4z5 ?r4z5
      case y4z5 => (intro w hSw; (try dsimp only at hSw); go_simp) <;> with_reducible rfl
      try simp only [Act.put, List.setIfInBounds_toArray, List.set_cons_zero, List.set_cons_succ]
      refine tkY 5 ⟨some 25, .fieldAddr 90 (.tmp 11) 0, 0, "snaps.go:100", #[], none⟩ ?v5z6 hHeld ?y5z6 ?r5z6
      case y5z6 => (intro w hSw; (try dsimp only at hSw); go_simp) <;> with_reducible rfl
      try simp only [Act.put, List.setIfInBounds_toArray, List.set_cons_zero, List.set_cons_succ]
      refine tkY 6 ⟨some 26, .load 37 (.tmp 25), 37, "snaps.go:100", #[⟨5, .data⟩], none⟩ ?v6z7 hHeld ?y6z7 ?r6z7
      case y6z7 => (intro w hSw; (try dsimp only at hSw); go_simp) <;> with_reducible rfl
      try simp only [Act.put, List.setIfInBounds_toArray, List.set_cons_zero, List.set_cons_succ]
      refine tkY 7 ⟨some 27, .fieldAddr 90 (.tmp 11) 1, 0, "snaps.go:100", #[], none⟩ ?v7z8 hHeld ?y7z8 ?r7z8
      case y7z8 => (intro w hSw; (try dsimp only at hSw); go_simp) <;> with_reducible rfl
      try simp only [Act.put, List.setIfInBounds_toArray, List.set_cons_zero, List.set_cons_succ]
      refine tkY 8 ⟨some 28, .load 37 (.tmp 27), 37, "snaps.go:100", #[⟨7, .data⟩], none⟩ ?v8z9 hHeld ?y8z9 ?r8z9
      case y8z9 => (intro w hSw; (try dsimp only at hSw); go_simp) <;> with_reducible rfl
      try simp only [Act.put, List.setIfInBounds_toArray, List.set_cons_zero, List.set_cons_succ]
      refine tkY 9 ⟨some 29, .move (.tmp 3), 3, "snaps.go:100", #[], none⟩ ?v9z10 hHeld ?y9z10 ?r9z10
      case y9z10 => (intro w hSw; (try dsimp only at hSw); go_simp) <;> with_reducible rfl
      try simp only [Act.put, List.setIfInBounds_toArray, List.set_cons_zero, List.set_cons_succ]
      refine wpAnyH_ready (rs := [10]) (by kernel_rfl) (by simp) ?_
      refine AllReadyH.cons (o := ⟨some 30, .call { callee := .value (.func 168), args := #[.tmp 23, .tmp 24, .tmp 26, .tmp 28, .tmp 29], argTypes := #[75, 3, 37, 37, 3] }, 35, "snaps.go:100", #[⟨3, .data⟩, ⟨4, .data⟩, ⟨6, .data⟩, ⟨8, .data⟩, ⟨9, .data⟩], none⟩) rfl (fun K hK => ?_) AllReadyH.nil
      go_simp
      refine hI.mono ?_
      rintro e1 w4 ⟨p', c', nb, rfl, hA4, ow4, nb4, _, on4⟩
      replace hHeld := (show _ ∧ _ ∧ _ from ⟨cell_only on4 hHeld.1 (by omega), cell_only on4 hHeld.2.1 (by omega), cell_only on4 hHeld.2.2 (by omega)⟩)
      refine hK.out _ _ ?_ (fun _ => ?_)
      · exact hHeld
      clear hK K
      try simp only [Act.put, List.setIfInBounds_toArray, List.set_cons_zero, List.set_cons_succ]
      refine tkY 11 ⟨some 19, .move (.tmp 30), 35, "snaps.go:100", #[⟨10, .data⟩], none⟩ ?v11z11 hHeld ?y11z11 ?r11z11
      case y11z11 => (intro w hSw; (try dsimp only at hSw); go_simp) <;> with_reducible rfl
      try simp only [Act.put, List.setIfInBounds_toArray, List.set_cons_zero, List.set_cons_succ]
      refine tkY 12 ⟨some 31, .extract (.tmp 19) 0, 3, "snaps.go:100", #[⟨11, .data⟩], none⟩ ?v12z12 hHeld ?y12z12 ?r12z12
      case y12z12 => (intro w hSw; (try dsimp only at hSw); go_simp) <;> with_reducible rfl
      try simp only [Act.put, List.setIfInBounds_toArray, List.set_cons_zero, List.set_cons_succ]
      refine tkY 13 ⟨some 32, .extract (.tmp 19) 1, 34, "snaps.go:100", #[⟨11, .data⟩, { on := 14, ground := .gcOnly .lateStores }], none⟩ ?v13z13 hHeld ?y13z13 ?r13z13
      case y13z13 => (intro w hSw; (try dsimp only at hSw); go_simp) <;> with_reducible rfl
      try simp only [Act.put, List.setIfInBounds_toArray, List.set_cons_zero, List.set_cons_succ]
      refine tkY 14 ⟨some 1, .assign (.tmp 31), 3, "snaps.go:100", #[⟨12, .data⟩, ⟨10, .chain⟩, ⟨0, .phase⟩, ⟨1, .phase⟩, ⟨2, .phase⟩, ⟨3, .phase⟩, ⟨4, .phase⟩, ⟨5, .phase⟩, ⟨6, .phase⟩, ⟨7, .phase⟩, ⟨8, .phase⟩, ⟨9, .phase⟩, ⟨10, .phase⟩, ⟨11, .phase⟩, ⟨12, .phase⟩, { on := 13, ground := .textOnly .lateStores }], none⟩ ?v14z14 hHeld ?y14z14 ?r14z14
      case y14z14 => (intro w hSw; (try dsimp only at hSw); go_simp) <;> with_reducible rfl
      try simp only [Act.put, List.setIfInBounds_toArray, List.set_cons_zero, List.set_cons_succ]
      refine tkY 15 ⟨some 12, .assign (.tmp 32), 34, "snaps.go:100", #[⟨13, .data⟩, ⟨14, .chain⟩, ⟨0, .phase⟩, ⟨1, .phase⟩, ⟨2, .phase⟩, ⟨3, .phase⟩, ⟨4, .phase⟩, ⟨5, .phase⟩, ⟨6, .phase⟩, ⟨7, .phase⟩, ⟨8, .phase⟩, ⟨9, .phase⟩, ⟨10, .phase⟩, ⟨11, .phase⟩, ⟨12, .phase⟩, ⟨13, .phase⟩, ⟨14, .phase⟩], none⟩ ?v15z15 hHeld ?y15z15 ?r15z15
      case y15z15 => (intro w hSw; (try dsimp only at hSw); go_simp) <;> with_reducible rfl
      try simp only [Act.put, List.setIfInBounds_toArray, List.set_cons_zero, List.set_cons_succ]
      refine wpAnyH_done (by kernel_rfl) ?_ _
      clear hHeld hI
      go_wp2
      go_roundw
      case rel => first | exact ⟨0 + 1, by omega, by go_num, fun h => absurd h (by decide), fun _ => ⟨rfl, p', c', nb, hA4, ow4, nb4, onY.trans on4⟩⟩ | ((repeat apply Exists.intro); exact ⟨⟨0 + 1, by omega, by go_num, fun h => absurd h (by decide), fun _ => ⟨rfl, p', c', nb, hA4, ow4, nb4, onY.trans on4⟩⟩, rfl⟩)
      case measure => simp [intOf]
    · obtain ⟨rfl, p', c', nb, a1, a2, a3, a4⟩ := q1 rfl
      clear q0 q1
      go_wp2
      go_ret2
      exact ⟨p', c', nb, rfl, a1, a2, a3, a4⟩

end Go.Proofs.YtcgpgnajmfemhaaGreatDoor.Vf
