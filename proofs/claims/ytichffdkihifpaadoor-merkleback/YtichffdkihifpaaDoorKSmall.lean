/- What this text proves: the walks of the statements' few and sized (annalslaw11), and merkle.Fold in one word, over this program. -/
import Derived.Test.YtichffdkihifpaaDoorKFoldAll
import Derived.Test.YtichffdkihifpaaDoorKFoldPart
import Derived.Test.YtichffdkihifpaaDoorCopyPart
namespace Go.Proofs.YtichffdkihifpaaDoor
open Go.RowKit

theorem PA.kfront {w : World} {p : Option Addr} {n c : Nat} {ls : List (List UInt8)} (h : PA w (.slice p n c) ls) (k : Nat) (hk : k ≤ n) : PA w (.slice p k c) (ls.take k) := by
  have hs := h.seg 0 k (Nat.zero_le _) hk
  have e1 : cutP p c 0 = p := by unfold cutP; cases p <;> simp [Addr.add]
  have e2 : Go.Proofs.YtichffdkihifpaaDoor.seg ls 0 k = ls.take k := by simp [Go.Proofs.YtichffdkihifpaaDoor.seg]
  rw [e1, e2, Nat.sub_zero, Nat.sub_zero] at hs
  exact hs

theorem run_kupto {P : Program} {t e : TypeId} (ht : P.underlying t = some (.slice e)) (hsz : (P.info? e).map (·.size) = some 1) (p : Option Addr) (n c h : Nat) (y : Int) (hy : y = (h : Int)) (hh : h ≤ c) (w : World) :
    (Instr.slice t (.slice p n c) none (some (.int .i64 y)) none).run P w = .ok (.slice p h c) w := by
  subst hy
  obtain ⟨i, hi, hs⟩ := Option.map_eq_some_iff.1 hsz
  have he : P.elem t = e := by simp [Program.elem, ht]
  rw [run_slice_h w t p n c (by rw [he]; exact ht) .i64 (h : Int) (by omega) (by omega), he]
  cases p <;> simp [Go.sizeOf, typeInfo, hi, hs, sliced, Result.andThen, Addr.add]

set_option maxRecDepth 100000 in
set_option maxHeartbeats 400000 in
theorem kfew_any (v : Value) (ls : List (List UInt8)) (w : World) (h : PA w v ls) :
    Calls Tryd.prog 8 #[v] w fun e w' => ∃ p c, e = .returned (.slice p (ls.take 40).length c) ∧ PA w (.slice p (ls.take 40).length c) (ls.take 40) ∧ w' = w := by
  obtain ⟨p, c, rfl⟩ := h.shape
  have hl := h.len.2
  unfold maxLen at hl
  by_cases h10 : ls.length ≤ 40
  · have k1 := fun w => run_kupto (P := Tryd.prog) Tryd.underlying22 s_bytes p ls.length c ls.length (ls.length : Int) rfl hl.1 w
    have e : ls.take 40 = ls := List.take_of_length_le h10
    rw [e]
    have H : Hid (PA w (.slice p ls.length c) ls) := h
    clear h e
    have hm : min (ls.length : Int) 40 = (ls.length : Int) := by omega
    go_enter Tryd.func8, Tryd.ntmps8
    go_wp2
    go_ret
    exact ⟨_, _, rfl, H.out, rfl⟩
  · have k1 := fun w => run_kupto (P := Tryd.prog) Tryd.underlying22 s_bytes p ls.length c 40 40 rfl (by omega) w
    have hp : PA w (.slice p 40 c) (ls.take 40) := h.kfront 40 (by omega)
    rw [show (ls.take 40).length = 40 by simp; omega]
    have H : Hid (PA w (.slice p 40 c) (ls.take 40)) := hp
    clear h hp
    have hm : min (ls.length : Int) 40 = 40 := by omega
    go_enter Tryd.func8, Tryd.ntmps8
    go_wp2
    go_ret
    exact ⟨_, _, rfl, H.out, rfl⟩

/-- What Fold answers. -/
def foldR (size n lo : Int) (ins outs : List (List UInt8)) : List UInt8 × Int :=
  if 0 ≤ lo ∧ lo + (ins.length : Int) ≤ n ∧ n ≤ 1048576 ∧ 1 ≤ size ∧ size ≤ 32 then
    if outs.length = cntF n lo (lo + (ins.length : Int)) ∧ allLen size ins = true ∧ allLen size outs = true then
      if (ins.length : Int) = n then (rootF size ins, 0) else (fldF size n.toNat lo.toNat (lo.toNat + ins.length) ins outs, 0)
    else ([], 5)
  else ([], 1)

theorem fold_any (size n lo : Int) (iv ov : Value) (ins outs : List (List UInt8)) (w : World) (hT : Tabs w) (hi : PA w iv ins) (ho : PA w ov outs) (hn0 : -9223372036854775808 ≤ n) (hn1 : n ≤ 9223372036854775807) (hb : outs.length ≤ 140737488355328) :
    Calls Tryd.prog 18 #[.int .i64 size, .int .i64 n, .int .i64 lo, iv, ov] w fun x w' => ∃ p c, x = .returned (.tuple #[.slice p (foldR size n lo ins outs).1.length c, .int .i64 (foldR size n lo ins outs).2]) ∧ HB w' (.slice p (foldR size n lo ins outs).1.length c) (foldR size n lo ins outs).1 ∧ Below w.heap.size w w' := by
  unfold foldR
  by_cases h : 0 ≤ lo ∧ lo + (ins.length : Int) ≤ n ∧ n ≤ 1048576 ∧ 1 ≤ size ∧ size ≤ 32
  · rw [if_pos h]
    obtain ⟨h1, h2, h3, h4, h5⟩ := h
    obtain ⟨N, rfl⟩ : ∃ N : Nat, n = (N : Int) := ⟨n.toNat, by omega⟩
    obtain ⟨A, rfl⟩ : ∃ A : Nat, lo = (A : Int) := ⟨lo.toNat, by omega⟩
    simp only [Int.toNat_natCast]
    have eB : (A : Int) + (ins.length : Int) = ((A + ins.length : Nat) : Int) := by omega
    rw [eB]
    obtain ⟨C, hC⟩ : ∃ C, cntF (N : Int) (A : Int) ((A + ins.length : Nat) : Int) = C := ⟨_, rfl⟩
    rw [hC]
    by_cases q1 : outs.length = C
    · by_cases q2 : allLen size ins = true
      · by_cases q3 : allLen size outs = true
        · rw [if_pos ⟨q1, q2, q3⟩]
          by_cases q4 : (ins.length : Int) = (N : Int)
          · rw [if_pos q4]
            exact fold_all size N A (A + ins.length) C iv ov ins outs w hi ho rfl hb (by omega) (by omega) h4 h5 hC q1 q2 q3 hT (by omega)
          · rw [if_neg q4]
            exact fold_part size N A (A + ins.length) C iv ov ins outs w hi ho rfl hb (by omega) (by omega) h4 h5 hC q1 q2 q3 hT (by omega)
        · rw [if_neg (fun h => q3 h.2.2)]
          exact (fold_outs size N A (A + ins.length) C iv ov ins outs w hi ho rfl hb (by omega) (by omega) h4 h5 hC q1 q2 (by simpa using q3)).mono fun x w' ⟨a, b⟩ => ⟨none, 0, a, HB.nil _, b⟩
      · rw [if_neg (fun h => q2 h.2.1)]
        exact (fold_ins size N A (A + ins.length) C iv ov ins outs w hi ho rfl hb (by omega) (by omega) h4 h5 hC q1 (by simpa using q2)).mono fun x w' ⟨a, b⟩ => ⟨none, 0, a, HB.nil _, b⟩
    · rw [if_neg (fun h => q1 h.1)]
      exact (fold_cnt size N A (A + ins.length) C iv ov ins outs w hi ho rfl hb (by omega) (by omega) h4 h5 hC q1).mono fun x w' ⟨a, b⟩ => ⟨none, 0, a, HB.nil _, b⟩
  · rw [if_neg h]
    exact (fold_arg size n lo iv ov ins outs w hi ho hn0 hn1 h).mono fun x w' ⟨a, b⟩ => ⟨none, 0, a, HB.nil _, b⟩

def zero4 : List UInt8 := [0, 0, 0, 0]
/-- Four bytes of a digest. -/
def fix4 (l : List UInt8) : List UInt8 := l.take 4 ++ zero4.drop l.length

set_option maxRecDepth 100000 in
set_option maxHeartbeats 2000000 in
theorem sized4_any (v : Value) (ls : List (List UInt8)) (w : World) (h : PA w v ls) :
    Calls Tryd.prog 20 #[v] w fun e w' => ∃ p c, e = .returned (.slice p ((ls.take 40).map fix4).length c) ∧ PA w' (.slice p ((ls.take 40).map fix4).length c) ((ls.take 40).map fix4) ∧ Below w.heap.size w w' := by
  have hF := kfew_any v ls w h
  have hlen : (ls.take 40).length ≤ 40 := by simp; omega
  generalize ls.take 40 = ms at *
  clear h
  obtain ⟨i0, hi0, hz0, hz1, hz2⟩ := info_parts i_bytes
  have hmk : ∀ w : World, (Instr.makeSlice 25 (.int .i64 4) (.int .i64 4)).run Tryd.prog w = .ok (.slice (some ⟨w.heap.size, 0, none⟩) 4 4) (w.alloc (.cells (bcs zero4).toArray 5)) := fun _ => by kernel_rfl
  go_enter Tryd.func20, Tryd.ntmps20
  go_wp2_with fail
  refine hF.mono ?_
  rintro e w1 ⟨p, c, rfl, hp, hw⟩
  have hw2 := hw.symm
  clear hw hF
  subst hw2
  go_wp2
  go_loopw [3, 10] (fun v i wr => ∃ (k : Nat), k ≤ ms.length ∧ i = .int .i64 (k : Int) ∧ RL wr w.heap.size v ((ms.take k).map fix4) ∧ Below w.heap.size w wr) (fun _ i _ => ms.length - (intOf i).toNat)
  case atStart => exact ⟨0, Nat.zero_le _, rfl, RL.nil _ _, Below.refl _ _⟩
  case round =>
    obtain ⟨k, hk, rfl, hr, hb⟩ := hrel
    have hsz := hb.size
    by_cases hlt : k < ms.length
    · obtain ⟨bl, o, rfl⟩ := hp.addr (by omega)
      obtain ⟨q, d, l, hl, hc1, hh⟩ := hp.get k hlt
      have hlt2 : (k : Int) < (ms.length : Int) := by omega
      have HT : Hid ((ms.take k).map fix4 ++ [fix4 l] = (ms.take (k + 1)).map fix4) := by
        show _ = _
        rw [List.take_add_one, hl]
        simp
      have hAl : ((ms.take k).map fix4).length ≤ 40 := by simp; omega
      generalize (ms.take k).map fix4 = A at *
      have d1 := cell_later hb hc1
      have bM := (Below.refl wr.heap.size wr).alloc (Nat.le_refl _) (.cells (bcs zero4).toArray 5)
      have oM : (wr.alloc (.cells (bcs zero4).toArray 5)).ownsRow w.heap.size 5 1 (.slice (some ⟨wr.heap.size, 0, none⟩) 4 4) 4 (bcs zero4) := ⟨rfl, .inr ⟨wr.heap.size, 4, _, rfl, hsz, heap_alloc_new wr _, Nat.le_refl _, by unfold maxLen; omega, rfl, rfl⟩⟩
      have hM := (hh.later hb).later bM
      go_wp2_with (refine wpList_copy_into rfl (.tmp 15) (.tmp 16) 25 25 rfl 5 Tryd.underlying25 s_u8 wr.heap.size 4 _ _ _ rfl rfl w.heap.size zero4 oM l hM ?_)
      intro w2 k2 o2 g2
      have b2 : Below wr.heap.size wr w2 := bM.grown g2 (by simp) (fun k hk => by cases hk; exact Nat.le_refl _)
      have r2 := hr.later b2
      have x2 := HB.of_owns o2
      have t2 := TB.of_owns o2
      have x2' : HB w2 (.slice (some ⟨wr.heap.size, 0, none⟩) 4 4) (fix4 l) := x2
      have hb2 := hb.trans (b2.mono hsz)
      have s2 := hb2.size
      obtain ⟨vs, o3, q3⟩ := r2
      have bB := (Below.refl w2.heap.size w2).alloc (Nat.le_refl _) (.cells #[.slice (some ⟨wr.heap.size, 0, none⟩) 4 4] 25)
      have oB := owns_later o3 bB
      clear x2 o2 g2 bM oM hM hr b2 hmk
      go_wp2_with (first | (at_builtin; refine wpList_append_own _ rfl (.tmp 18) (.tmp 20) 22 rfl w.heap.size 25 i0 (.slice none 0 0) 1 24 Tryd.underlying22 hi0 hz0 hz1 hz2 rfl (by decide) _ _ _ rfl oB ⟨w2.heap.size, 0, none⟩ 1 1 [.slice (some ⟨wr.heap.size, 0, none⟩) 4 4] rfl rfl (cell_one_new _ _ _) ?ub ?uc ?ud ?ue ?_))
      case ub => first | rfl | (intro u hu; simp at hu; subst hu; rfl)
      case uc => unfold maxLen; omega
      case ud => omega
      case ue => first | omega | (simp; omega)
      intro v6 w6 hown6 hgrow6 _
      have r6 : RL w6 w.heap.size v6 (A ++ [fix4 l]) := RL.snoc oB (fun j u hu => ⟨(q3 j u hu).1.later bB, (q3 j u hu).2.later bB⟩) (x2'.later bB) (t2.later bB) hgrow6 hown6
      have hb6 : Below w.heap.size w w6 := (hb2.alloc s2 _).grown hgrow6 (by simp; omega) (fun k hk => (oB.lt k hk).1)
      rw [HT.out] at r6
      clear hown6 hgrow6 oB o3 q3 bB x2' t2 HT
      go_wp2
      go_roundw
      case rel => exact ⟨k + 1, by omega, by go_num, r6, hb6⟩
      case measure => simp [intOf]; omega
    · obtain rfl : k = ms.length := by omega
      rw [List.take_length] at hr
      have hpa := hr.pa
      obtain ⟨p3, c3, hv⟩ := hpa.shape
      subst hv
      clear hr hp
      go_wp2
      go_ret
      exact ⟨_, _, rfl, hpa, hb⟩

end Go.Proofs.YtichffdkihifpaaDoor
