/- What this text proves: the walk of annalslaw19.few over this program: batches cut to ten with ten bindings. What this text proves: the walks of slices.EqualFunc and SameTexts over this program: they answer whether two slices of slices of bytes hold the same, and leave the world as it was. What this text proves: the walk of slices.EqualFunc with SameTexts over this program: two slices of the same lists of texts are the same. -/
import Derived.Test.YtggficgmjbgmpaaDoorJFr
import Derived.Test.YtggficgmjbgmpaaDoorEqual
namespace Go.Proofs.YtggficgmjbgmpaaDoor
open Go.RowKit

theorem i_binds : (Tryd.prog.info? 47).map (fun i => (i.zero, i.size, i.bytes)) = some (some (.slice none 0 0), 1, 24) := by kernel_rfl

theorem run_upto2 {P : Program} {t e : TypeId} (ht : P.underlying t = some (.slice e)) (hsz : (P.info? e).map (·.size) = some 2) (p : Option Addr) (n c h : Nat) (hh : h ≤ c) (w : World) :
    (Instr.slice t (.slice p n c) none (some (.int .i64 (h : Int))) none).run P w = .ok (.slice p h c) w := by
  obtain ⟨i, hi, hs⟩ := Option.map_eq_some_iff.1 hsz
  have he : P.elem t = e := by simp [Program.elem, ht]
  rw [run_slice_h w t p n c (by rw [he]; exact ht) .i64 h (by omega) (by omega), he]
  have ha : Option.map (fun x : Addr => x.add 0) p = p := by cases p <;> simp [Addr.add]
  simp [Go.sizeOf, typeInfo, hi, hs, sliced, Result.andThen, ha]

/-- Batches, cut. -/
def fewF (bss : List (List (List UInt8 × List UInt8))) : List (List (List UInt8 × List UInt8)) := (bss.take 10).map (·.take 10)

theorem fewF_len (bss : List (List (List UInt8 × List UInt8))) : (fewF bss).length ≤ 10 := by unfold fewF; simp; omega
theorem fewF_each (bss : List (List (List UInt8 × List UInt8))) : ∀ b ∈ fewF bss, b.length ≤ 10 := by
  intro b hb
  unfold fewF at hb
  obtain ⟨x, _, rfl⟩ := List.mem_map.1 hb
  simp
  omega

theorem fewF_step (bss : List (List (List UInt8 × List UInt8))) (k : Nat) (x : List (List UInt8 × List UInt8)) (h : bss[k]? = some x) (hk : k < 10) : fewF (bss.take k) ++ [x.take 10] = fewF (bss.take (k + 1)) := by
  unfold fewF
  rw [List.take_take, List.take_take, Nat.min_eq_right (by omega), Nat.min_eq_right (by omega), show bss.take (k + 1) = bss.take k ++ [x] by rw [List.take_add_one, h]; rfl]
  simp

theorem fewF_stop (bss : List (List (List UInt8 × List UInt8))) (k : Nat) (hk : 10 ≤ k) : fewF (bss.take k) = fewF (bss.take (k + 1)) := by
  unfold fewF
  rw [List.take_take, List.take_take, Nat.min_eq_left (by omega), Nat.min_eq_left (by omega)]

set_option maxRecDepth 100000 in
set_option maxHeartbeats 4000000 in
theorem few_any19 (v : Value) (bss : List (List (List UInt8 × List UInt8))) (w : World) (h : GA BA w v bss) :
    Calls Tryd.prog 6 #[v] w fun e w' => ∃ p c, e = .returned (.slice p (fewF bss).length c) ∧ GA BA w' (.slice p (fewF bss).length c) (fewF bss) ∧ Below w.heap.size w w' := by
  obtain ⟨p, c, rfl⟩ := h.shape
  have hmx := h.len.2
  unfold maxLen at hmx
  obtain ⟨i0, hi0, hz0, hz1, hz2⟩ := info_parts i_binds
  go_enter Tryd.func6, Tryd.ntmps6
  go_wp2
  go_loopw [3, 8] (fun v i wr => ∃ k : Nat, k ≤ bss.length ∧ i = .int .i64 (k : Int) ∧ GL (fun _ u x => BA w u x) wr w.heap.size 47 v (fewF (bss.take k)) ∧ Below w.heap.size w wr) (fun _ i _ => bss.length - (intOf i).toNat)
  case atStart => exact ⟨0, Nat.zero_le _, rfl, GL.nil _ _ _ _, Below.refl _ _⟩
  case round =>
    obtain ⟨k, hk, rfl, hr, hbe⟩ := hrel
    have hsz := hbe.size
    by_cases hlt : k < bss.length
    · obtain ⟨bl, o, rfl⟩ := h.addr (by omega)
      obtain ⟨x, u, hx, c1, h1⟩ := h.get k hlt
      obtain ⟨q, kc, rfl⟩ := h1.shape
      have hcap := h1.len.2
      have hlt2 : (k : Int) < (bss.length : Int) := by omega
      have e1 := cell_later hbe c1
      by_cases hten : k < 10
      · have HT : Hid (fewF (bss.take k) ++ [x.take 10] = fewF (bss.take (k + 1))) := fewF_step bss k x hx.out hten
        have hAl := fewF_len (bss.take k)
        obtain ⟨m, hm⟩ : ∃ m, m = min x.length 10 := ⟨_, rfl⟩
        have hm1 : m ≤ x.length := by omega
        have emin : (if (10 : Int) < (x.length : Int) then (10 : Int) else (x.length : Int)) = (m : Int) := by split <;> omega
        have emin2 : min (x.length : Int) 10 = (m : Int) := by omega
        have hb2 : BA w (.slice q m kc) (x.take 10) := by
          have := h1.take m hm1
          rw [show x.take m = x.take 10 by rw [hm, List.take_eq_take_iff]; omega] at this
          exact this
        have hten2 : (k : Int) < 10 := by omega
        unfold maxLen at hcap
        have k1 : ∀ w, (Instr.slice 47 (.slice q x.length kc) none (some (.int .i64 (m : Int))) none).run Tryd.prog w = .ok (.slice q m kc) w := fun w => run_upto2 (P := Tryd.prog) Tryd.underlying47 s_bind q x.length kc m (by omega) w
        generalize fewF (bss.take k) = A at *
        obtain ⟨vs, o3, q3⟩ := hr
        have bB := (Below.refl wr.heap.size wr).alloc (Nat.le_refl _) (.cells #[.slice q m kc] 47)
        have oB := owns_later o3 bB
        clear hx c1 hm
        go_wp2_with (first | (at_builtin; refine wpList_append_own _ rfl (.tmp 15) (.tmp 21) 23 rfl w.heap.size 47 i0 (.slice none 0 0) 1 24 Tryd.underlying23 hi0 hz0 hz1 hz2 rfl (by decide) _ _ _ rfl oB ⟨wr.heap.size, 0, none⟩ 1 1 [.slice q m kc] rfl rfl (cell_one_new _ _ _) ?ub ?uc ?ud ?ue ?_))
        case ub => first | rfl | (intro u hu; simp at hu; subst hu; rfl)
        case uc => unfold maxLen; omega
        case ud => omega
        case ue => first | omega | (simp; omega)
        intro v6 w6 hown6 hgrow6 _
        have r6 : GL (fun _ u x => BA w u x) w6 w.heap.size 47 v6 (A ++ [x.take 10]) := GL.snoc oB (fun j u y hu hy => q3 j u y hu hy) hb2 hown6 (fun _ _ h => h)
        have hb6 : Below w.heap.size w w6 := (hbe.alloc hsz _).grown hgrow6 (by simp; omega) (fun k hk => (oB.lt k hk).1)
        rw [HT.out] at r6
        clear hown6 hgrow6 oB o3 q3 bB HT
        go_wp2
        go_roundw
        case rel => exact ⟨k + 1, by omega, by go_num, r6, hb6⟩
        case measure => simp [intOf]; omega
      · have HT : Hid (fewF (bss.take k) = fewF (bss.take (k + 1))) := fewF_stop bss k (by omega)
        have hten2 : ¬ ((k : Int) < 10) := by omega
        have hr' := hr
        rw [HT.out] at hr'
        clear hx c1 hr HT
        go_wp2
        go_roundw
        case rel => exact ⟨k + 1, by omega, by go_num, hr', hbe⟩
        case measure => simp [intOf]; omega
    · obtain rfl : k = bss.length := by omega
      rw [List.take_length] at hr
      have hga := hr.ga
      obtain ⟨p3, c3, hv⟩ := hga.shape
      subst hv
      have hg2 : GA BA wr (.slice p3 (fewF bss).length c3) (fewF bss) := hga.imp (Below.refl _ _) (fun u x hx => hx.later hbe)
      clear hr h hga
      go_wp2
      go_ret
      exact ⟨_, _, rfl, hg2, hbe⟩

end Go.Proofs.YtggficgmjbgmpaaDoor

namespace Go.Proofs.YtggficgmjbgmpaaDoor
open Go.RowKit

/-- The first k of both are the same. -/
def same (ls ms : List (List UInt8)) (k : Nat) : Prop := ∀ j, j < k → ls[j]? = ms[j]?

theorem same_all {ls ms : List (List UInt8)} (h : ls.length = ms.length) (hs : same ls ms ls.length) : ls = ms := by
  apply List.ext_getElem? 
  intro i
  by_cases hi : i < ls.length
  · exact hs i hi
  · rw [List.getElem?_eq_none (by omega), List.getElem?_eq_none (by omega)]

theorem same_step {ls ms : List (List UInt8)} {k : Nat} {l m : List UInt8} (hs : same ls ms k) (h1 : ls[k]? = some l) (h2 : ms[k]? = some m) (h : (l == m) = true) : same ls ms (k + 1) := by
  intro j hj
  rcases Nat.lt_succ_iff_lt_or_eq.1 hj with h' | rfl
  · exact hs j h'
  · rw [h1, h2, beq_iff_eq.1 h]

theorem same_not {ls ms : List (List UInt8)} {k : Nat} {l m : List UInt8} (h1 : ls[k]? = some l) (h2 : ms[k]? = some m) (h : (l == m) = false) : (ls == ms) = false := by
  rw [beq_eq_false_iff_ne] at h ⊢
  intro e
  subst e
  rw [h1] at h2
  exact h (by simpa using h2)

set_option maxRecDepth 100000 in
set_option maxHeartbeats 1000000 in
theorem eqfunc_any (a b : Value) (ls ms : List (List UInt8)) (w : World) (ha : PA w a ls) (hb : PA w b ms) :
    Calls Tryd.prog 26 #[a, b, .func (.func 27) #[] #[]] w fun e w' => e = .returned (.bool (ls == ms)) ∧ w' = w := by
  obtain ⟨p, c, rfl⟩ := ha.shape
  obtain ⟨q, d, rfl⟩ := hb.shape
  have hla := ha.len.2
  have hlb := hb.len.2
  unfold maxLen at hla hlb
  by_cases hlen : ls.length = ms.length
  · have hne : ((ls.length : Int) != (ms.length : Int)) = false := by simp [hlen]
    by_cases h0 : ls.length = 0
    · have e1 : ls = [] := List.eq_nil_of_length_eq_zero h0
      have e2 : ms = [] := List.eq_nil_of_length_eq_zero (by omega)
      subst e1; subst e2
      clear hlen h0 hne ha hb hla hlb
      go_enter Tryd.func26, Tryd.ntmps26
      go_wp2
      refine wp_loop_rounds 1 ?_
      rw [rounds_succ]
      go_wp2
      go_ret
      exact ⟨rfl, rfl⟩
    · obtain ⟨b1, o1, rfl⟩ := ha.addr (by omega)
      obtain ⟨b2, o2, rfl⟩ := hb.addr (by omega)
      have HL : Hid (ls.length = ms.length) := hlen
      have hge : ls.length ≤ ms.length := by omega
      clear hlen
      go_enter Tryd.func26, Tryd.ntmps26
      go_wp2
      go_loop [17] (fun i => ∃ k : Nat, k ≤ ls.length ∧ i = .int .i64 k ∧ same ls ms k) (fun i => ls.length - (intOf i).toNat)
      case atStart => exact ⟨0, Nat.zero_le _, rfl, fun j hj => absurd hj (Nat.not_lt_zero _)⟩
      case round =>
        obtain ⟨k, hk, rfl, hs⟩ := hrel
        by_cases hlt : k < ls.length
        · obtain ⟨q1, k1, l1, g1, hc1, hb1⟩ := ha.get k hlt
          obtain ⟨q2, k2, l2, g2, hc2, hb2⟩ := hb.get k (by omega)
          by_cases heq : (l1 == l2) = true
          · go_wp2_with (go_at_call 27; refine (equal_any _ _ _ _ _ hb1 hb2).mono ?_; rintro e w' ⟨rfl, rfl⟩)
            go_round
            case rel => exact ⟨k + 1, by omega, by go_num, same_step hs g1.out g2.out heq⟩
            case measure => simp [intOf]; omega
          · have hf : (l1 == l2) = false := by simpa using heq
            clear heq
            have HN : Hid ((ls == ms) = false) := same_not g1.out g2.out hf
            go_wp2_with (go_at_call 27; refine (equal_any _ _ _ _ _ hb1 hb2).mono ?_; rintro e w' ⟨rfl, rfl⟩)
            go_ret
            exact ⟨by simp [HN.out], rfl⟩
        · have hkl : k = ls.length := by omega
          have HS : Hid (ls = ms) := same_all HL.out (by rw [← hkl]; exact hs)
          clear hs hkl
          go_wp2
          go_ret
          exact ⟨by simp [HS.out], rfl⟩
  · have hne : ((ls.length : Int) != (ms.length : Int)) = true := by simp; omega
    have hf : (ls == ms) = false := by
      rw [beq_eq_false_iff_ne]
      intro e
      exact hlen (by rw [e])
    have HF : Hid ((ls == ms) = false) := hf
    clear hf hlen
    go_enter Tryd.func26, Tryd.ntmps26
    go_wp2
    go_ret
    exact ⟨by simp [HF.out], rfl⟩

set_option maxRecDepth 100000 in
set_option maxHeartbeats 400000 in
theorem same_any (a b : Value) (ls ms : List (List UInt8)) (w : World) (ha : PA w a ls) (hb : PA w b ms) :
    Calls Tryd.prog 13 #[a, b] w fun e w' => e = .returned (.bool (ls == ms)) ∧ w' = w := by
  obtain ⟨p, c, rfl⟩ := ha.shape
  obtain ⟨q, d, rfl⟩ := hb.shape
  go_enter Tryd.func13, Tryd.ntmps13
  go_wp2_with (go_at_call 26; refine (eqfunc_any _ _ _ _ _ ha hb).mono ?_; rintro e w' ⟨rfl, rfl⟩)
  go_ret
  exact ⟨rfl, rfl⟩

theorem same_t (a b : Value) (ls ms : List (List UInt8)) (w : World) (ha : PA w a ls) (hb : PA w b ms) (h : ls = ms) :
    Calls Tryd.prog 13 #[a, b] w fun e w' => e = .returned (.bool true) ∧ w' = w := (same_any a b ls ms w ha hb).mono fun e w' ⟨he, hw⟩ => ⟨by rw [he, h]; simp, hw⟩
theorem same_f (a b : Value) (ls ms : List (List UInt8)) (w : World) (ha : PA w a ls) (hb : PA w b ms) (h : ls ≠ ms) :
    Calls Tryd.prog 13 #[a, b] w fun e w' => e = .returned (.bool false) ∧ w' = w := (same_any a b ls ms w ha hb).mono fun e w' ⟨he, hw⟩ => ⟨by rw [he, beq_eq_false_iff_ne.2 h], hw⟩

end Go.Proofs.YtggficgmjbgmpaaDoor

namespace Go.Proofs.YtggficgmjbgmpaaDoor
open Go.RowKit

theorem LR.pa {w : World} {u : Value} {ls : List (List UInt8)} (h : LR w u ls) : PA w u ls := by
  obtain ⟨b, h⟩ := h
  exact h.pa

set_option maxRecDepth 100000 in
set_option maxHeartbeats 1000000 in
theorem eqfuncL_same (a b : Value) (lss : List (List (List UInt8))) (w : World) (ha : GA PA w a lss) (hb : GA PA w b lss) :
    Calls Tryd.prog 12 #[a, b, .func (.func 13) #[] #[]] w fun e w' => e = .returned (.bool true) ∧ w' = w := by
  obtain ⟨p, c, rfl⟩ := ha.shape
  obtain ⟨q, d, rfl⟩ := hb.shape
  have hla := ha.len.2
  unfold maxLen at hla
  by_cases h0 : lss.length = 0
  · obtain rfl : lss = [] := List.eq_nil_of_length_eq_zero h0
    clear ha hb hla h0
    go_enter Tryd.func12, Tryd.ntmps12
    go_wp2
    refine wp_loop_rounds 1 ?_
    rw [rounds_succ]
    go_wp2
    go_ret
    exact ⟨rfl, rfl⟩
  · obtain ⟨b1, o1, rfl⟩ := ha.addr (by omega)
    obtain ⟨b2, o2, rfl⟩ := hb.addr (by omega)
    go_enter Tryd.func12, Tryd.ntmps12
    go_wp2
    go_loop [17] (fun i => ∃ k : Nat, k ≤ lss.length ∧ i = .int .i64 k) (fun i => lss.length - (intOf i).toNat)
    case atStart => exact ⟨0, Nat.zero_le _, rfl⟩
    case round =>
      obtain ⟨k, hk, rfl⟩ := hrel
      by_cases hlt : k < lss.length
      · obtain ⟨x1, u1, g1, hc1, hb1⟩ := ha.get k hlt
        obtain ⟨x2, u2, g2, hc2, hb2⟩ := hb.get k hlt
        have e12 : x1 = x2 := by
          have := g1.out.symm.trans g2.out
          simpa using this
        subst e12
        have hS := same_t u1 u2 x1 x1 w hb1 hb2 rfl
        obtain ⟨p1, c1, rfl⟩ := hb1.shape
        obtain ⟨p2, c2, rfl⟩ := hb2.shape
        clear g1 g2 hb1 hb2
        go_wp2_with (go_at_call 13; refine hS.mono ?_; rintro e w' ⟨rfl, rfl⟩)
        go_round
        case rel => exact ⟨k + 1, by omega, by go_num⟩
        case measure => simp [intOf]; omega
      · go_wp2
        go_ret
        exact ⟨rfl, rfl⟩

end Go.Proofs.YtggficgmjbgmpaaDoor
