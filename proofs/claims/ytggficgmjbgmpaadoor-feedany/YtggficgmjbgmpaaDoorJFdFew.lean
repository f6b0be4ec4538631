/- What this text proves: the walk of annalslaw19.few over this program: batches cut to ten with ten bindings. -/
import Derived.Test.YtggficgmjbgmpaaDoorJFdRows
namespace Go.Proofs.YtggficgmjbgmpaaDoor
open Go.RowKit

theorem i_binds : (Tryd.prog.info? 47).map (fun i => (i.zero, i.size, i.bytes)) = some (some (.slice none 0 0), 1, 24) := by kernel_rfl

theorem run_upto2 {P : Program} {t e : TypeId} (ht : P.underlying t = some (.slice e)) (hsz : (P.info? e).map (·.size) = some 2) (p : Option Addr) (n c h : Nat) (hh : h ≤ c) (w : World) :
    (Instr.slice t (.slice p n c) none (some (.int .i64 (h : Int))) none).run P w = .ok (.slice p h c) w := by
  obtain ⟨i, hi, hs⟩ := Option.map_eq_some_iff.1 hsz
  have he : P.elem t = e := by simp [Program.elem, ht]
  rw [run_slice_h w t p n c (by rw [he]; exact ht) .i64 h (by omega) (by omega), he]
  have ha : Option.map (fun x : Addr => x.add 0) p = p := by cases p <;> simp [Addr.add]
  simp [Go.sizeOf, typeInfo, hi, hs, sliced, Result.andThen, ha]

/-- Batches, cut. -/
def fewF (bss : List (List (List UInt8 × List UInt8))) : List (List (List UInt8 × List UInt8)) := (bss.take 10).map (·.take 10)

theorem fewF_len (bss : List (List (List UInt8 × List UInt8))) : (fewF bss).length ≤ 10 := by unfold fewF; simp; omega
theorem fewF_each (bss : List (List (List UInt8 × List UInt8))) : ∀ b ∈ fewF bss, b.length ≤ 10 := by
  intro b hb
  unfold fewF at hb
  obtain ⟨x, _, rfl⟩ := List.mem_map.1 hb
  simp
  omega

theorem fewF_step (bss : List (List (List UInt8 × List UInt8))) (k : Nat) (x : List (List UInt8 × List UInt8)) (h : bss[k]? = some x) (hk : k < 10) : fewF (bss.take k) ++ [x.take 10] = fewF (bss.take (k + 1)) := by
  unfold fewF
  rw [List.take_take, List.take_take, Nat.min_eq_right (by omega), Nat.min_eq_right (by omega), show bss.take (k + 1) = bss.take k ++ [x] by rw [List.take_add_one, h]; rfl]
  simp

theorem fewF_stop (bss : List (List (List UInt8 × List UInt8))) (k : Nat) (hk : 10 ≤ k) : fewF (bss.take k) = fewF (bss.take (k + 1)) := by
  unfold fewF
  rw [List.take_take, List.take_take, Nat.min_eq_left (by omega), Nat.min_eq_left (by omega)]

set_option maxRecDepth 100000 in
set_option maxHeartbeats 4000000 in
theorem few_any19 (v : Value) (bss : List (List (List UInt8 × List UInt8))) (w : World) (h : GA BA w v bss) :
    Calls Tryd.prog 6 #[v] w fun e w' => ∃ p c, e = .returned (.slice p (fewF bss).length c) ∧ GA BA w' (.slice p (fewF bss).length c) (fewF bss) ∧ Below w.heap.size w w' := by
  obtain ⟨p, c, rfl⟩ := h.shape
  have hmx := h.len.2
  unfold maxLen at hmx
  obtain ⟨i0, hi0, hz0, hz1, hz2⟩ := info_parts i_binds
  go_enter Tryd.func6, Tryd.ntmps6
  go_wp2
  go_loopw [3, 8] (fun v i wr => ∃ k : Nat, k ≤ bss.length ∧ i = .int .i64 (k : Int) ∧ GL (fun _ u x => BA w u x) wr w.heap.size 47 v (fewF (bss.take k)) ∧ Below w.heap.size w wr) (fun _ i _ => bss.length - (intOf i).toNat)
  case atStart => exact ⟨0, Nat.zero_le _, rfl, GL.nil _ _ _ _, Below.refl _ _⟩
  case round =>
    obtain ⟨k, hk, rfl, hr, hbe⟩ := hrel
    have hsz := hbe.size
    by_cases hlt : k < bss.length
    · obtain ⟨bl, o, rfl⟩ := h.addr (by omega)
      obtain ⟨x, u, hx, c1, h1⟩ := h.get k hlt
      obtain ⟨q, kc, rfl⟩ := h1.shape
      have hcap := h1.len.2
      have hlt2 : (k : Int) < (bss.length : Int) := by omega
      have e1 := cell_later hbe c1
      by_cases hten : k < 10
      · have HT : Hid (fewF (bss.take k) ++ [x.take 10] = fewF (bss.take (k + 1))) := fewF_step bss k x hx.out hten
        have hAl := fewF_len (bss.take k)
        obtain ⟨m, hm⟩ : ∃ m, m = min x.length 10 := ⟨_, rfl⟩
        have hm1 : m ≤ x.length := by omega
        have emin : (if (10 : Int) < (x.length : Int) then (10 : Int) else (x.length : Int)) = (m : Int) := by split <;> omega
        have emin2 : min (x.length : Int) 10 = (m : Int) := by omega
        have hb2 : BA w (.slice q m kc) (x.take 10) := by
          have := h1.take m hm1
          rw [show x.take m = x.take 10 by rw [hm, List.take_eq_take_iff]; omega] at this
          exact this
        have hten2 : (k : Int) < 10 := by omega
        unfold maxLen at hcap
        have k1 : ∀ w, (Instr.slice 47 (.slice q x.length kc) none (some (.int .i64 (m : Int))) none).run Tryd.prog w = .ok (.slice q m kc) w := fun w => run_upto2 (P := Tryd.prog) Tryd.underlying47 s_bind q x.length kc m (by omega) w
        generalize fewF (bss.take k) = A at *
        obtain ⟨vs, o3, q3⟩ := hr
        have bB := (Below.refl wr.heap.size wr).alloc (Nat.le_refl _) (.cells #[.slice q m kc] 47)
        have oB := owns_later o3 bB
        clear hx c1 hm
        go_wp2_with (first | (at_builtin; refine wpList_append_own _ rfl (.tmp 15) (.tmp 21) 23 rfl w.heap.size 47 i0 (.slice none 0 0) 1 24 Tryd.underlying23 hi0 hz0 hz1 hz2 rfl (by decide) _ _ _ rfl oB ⟨wr.heap.size, 0, none⟩ 1 1 [.slice q m kc] rfl rfl (cell_one_new _ _ _) ?ub ?uc ?ud ?ue ?_))
        case ub => first | rfl | (intro u hu; simp at hu; subst hu; rfl)
        case uc => unfold maxLen; omega
        case ud => omega
        case ue => first | omega | (simp; omega)
        intro v6 w6 hown6 hgrow6 _
        have r6 : GL (fun _ u x => BA w u x) w6 w.heap.size 47 v6 (A ++ [x.take 10]) := GL.snoc oB (fun j u y hu hy => q3 j u y hu hy) hb2 hown6 (fun _ _ h => h)
        have hb6 : Below w.heap.size w w6 := (hbe.alloc hsz _).grown hgrow6 (by simp; omega) (fun k hk => (oB.lt k hk).1)
        rw [HT.out] at r6
        clear hown6 hgrow6 oB o3 q3 bB HT
        go_wp2
        go_roundw
        case rel => exact ⟨k + 1, by omega, by go_num, r6, hb6⟩
        case measure => simp [intOf]; omega
      · have HT : Hid (fewF (bss.take k) = fewF (bss.take (k + 1))) := fewF_stop bss k (by omega)
        have hten2 : ¬ ((k : Int) < 10) := by omega
        have hr' := hr
        rw [HT.out] at hr'
        clear hx c1 hr HT
        go_wp2
        go_roundw
        case rel => exact ⟨k + 1, by omega, by go_num, hr', hbe⟩
        case measure => simp [intOf]; omega
    · obtain rfl : k = bss.length := by omega
      rw [List.take_length] at hr
      have hga := hr.ga
      obtain ⟨p3, c3, hv⟩ := hga.shape
      subst hv
      have hg2 : GA BA wr (.slice p3 (fewF bss).length c3) (fewF bss) := hga.imp (Below.refl _ _) (fun u x hx => hx.later hbe)
      clear hr h hga
      go_wp2
      go_ret
      exact ⟨_, _, rfl, hg2, hbe⟩

end Go.Proofs.YtggficgmjbgmpaaDoor
