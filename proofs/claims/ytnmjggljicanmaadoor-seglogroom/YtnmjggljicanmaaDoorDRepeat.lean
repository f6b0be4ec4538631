/- What this text proves: the walk of bytes.Repeat of one byte, some times, over this program. -/
import Derived.Test.YtnmjggljicanmaaDoorOwn
import Derived.Lib.SlBuf
import Derived.Lib.MakeNoZero
import Derived.Deep.RegionHeld3
namespace Go.Proofs.YtnmjggljicanmaaDoor
open Go.RowKit

theorem copy_self {w0 wr : World} {g N k : Nat} {x : UInt8} (ty : TypeId) (hb : Lib.Buf w0 wr g N (List.replicate k x)) (hk : k < N) :
    ∃ wr', (Builtin.copy_ #[31, 31] ty #[Lib.tailV g N k, .slice (some ⟨g, 0, none⟩) k N]).run Tryd.prog wr = .ok (.int .i64 ((min k (N - k) : Nat) : Int)) wr' ∧ Lib.Buf w0 wr' g N (List.replicate (k + min k (N - k)) x) := by
  have hne : ¬ N = k := by omega
  generalize hm : min k (N - k) = m
  have hcs : (List.replicate m (bc x)).length = m := by simp
  have hr := run_copy_cells (P := Tryd.prog) wr 31 31 ty 5 g k (N - k) (N - k) ⟨g, 0, none⟩ k N (List.replicate m (bc x)) Tryd.underlying31 (by kernel_rfl) (by rw [hcs, ← hm])
    (fun j u hj => by
      have hjm : j < m := by have := (List.getElem?_eq_some_iff.1 hj).1; simpa using this
      rw [List.getElem?_replicate, if_pos hjm] at hj
      cases hj
      rw [Addr.add_mid, Nat.zero_add]
      exact hb.holds j x (by rw [List.getElem?_replicate, if_pos (by omega)]))
    (fun j hj => hb.there _ (by rw [hcs] at hj; omega)) (fun j hj => hb.free _ (by rw [hcs] at hj; omega))
    (fun u hu' => by rw [(List.mem_replicate.1 hu').2]; rfl)
  rw [hcs] at hr
  refine ⟨_, by unfold Lib.tailV; rw [if_neg hne]; exact hr, ?_⟩
  have hin := World.cell?_setCells_in g (List.replicate m (bc x)) k wr (fun j hj => hb.there _ (by rw [hcs] at hj; omega))
  have hout := World.cell?_setCells_out g (List.replicate m (bc x)) k wr
  refine ⟨Lib.below_setCells g (Nat.le_refl _) _ _ hb.below, ?_, ?_, ?_, by rw [List.length_replicate]; omega⟩
  · intro j hj
    exact World.isSome_setCells g _ k wr _ (hb.there j hj)
  · intro j hj
    rw [World.frozen?_setCells]
    exact hb.free j hj
  · intro j y hy
    have hj : j < k + m := by have := (List.getElem?_eq_some_iff.1 hy).1; simpa using this
    rw [List.getElem?_replicate, if_pos hj] at hy
    cases hy
    by_cases h1 : j < k
    · rw [hout ⟨g, j, none⟩ (fun _ _ => Or.inl h1)]
      exact hb.holds j x (by rw [List.getElem?_replicate, if_pos h1])
    · obtain ⟨d, rfl⟩ : ∃ d, j = k + d := ⟨j - k, by omega⟩
      rw [hin d (by rw [hcs]; omega)]
      simp [bc]

theorem buf_drew {w0 wr : World} {g N : Nat} {l : List UInt8} (h : Lib.Buf w0 wr g N l) : Lib.Buf w0 wr.drew g N l := ⟨h.below.drew, fun j hj => by simpa using h.there j hj, fun j hj => by simpa using h.free j hj, fun j x hx => by simpa using h.holds j x hx, h.fits⟩

theorem buf_hb {w0 wr : World} {g N : Nat} {l : List UInt8} (h : Lib.Buf w0 wr g N l) (hl : l.length = N) (hm : N ≤ maxLen) : HB wr (.slice (some ⟨g, 0, none⟩) N N) l :=
  ⟨_, N, by rw [hl], by omega, hm, (fun h => by cases h), fun _ => ⟨g, 0, rfl, fun i x hx => by rw [Nat.zero_add]; exact h.holds i x hx⟩⟩

set_option maxRecDepth 100000 in
set_option maxHeartbeats 1600000 in
theorem repeat_any (n : Nat) (h1 : 1 ≤ n) (hn : n ≤ 8192) (x : UInt8) (b o c : Nat) (w : World) (hx : w.cell? ⟨b, o, none⟩ = some (bc x))
    (hM : ∀ W, Calls Tryd.prog 24 #[.int .u64 1, .int .u64 (n : Int)] W fun e w' => e = .returned (.tuple #[.int .u64 0, .int .u64 (n : Int)]) ∧ w' = W) :
    Calls Tryd.prog 7 #[.slice (some ⟨b, o, none⟩) 1 c, .int .i64 (n : Int)] w fun e w' => e = .returned (.slice (some ⟨w.heap.size, 0, none⟩) n n) ∧ HB w' (.slice (some ⟨w.heap.size, 0, none⟩) n n) (List.replicate n x) ∧ Below w.heap.size w w' := by
  obtain ⟨cs, hrunM, hle, _⟩ := Lib.run_makeNoZero (P := Tryd.prog) w #[3] 31 5 Tryd.underlying31 n (by omega)
  have hcall : (callFunc 25 #[.int .i64 (n : Int)]).run Tryd.prog w = .ok (.value (.slice (some ⟨w.heap.size, 0, none⟩) n cs.size)) ((w.alloc (.cells cs 5)).drewN 2) := by
    rw [run_callFunc_extern Tryd.func25 (by kernel_rfl) (by kernel_rfl) (by kernel_rfl) (e := Extern.BytealgMakeNoZero.makeNoZero #[3] #[31]) (by kernel_rfl), hrunM]
    rfl
  have B0 := Lib.Buf.start w cs 5 n 2 hle
  have hx0 : ((w.alloc (.cells cs 5)).drewN 2).cell? ⟨b, o, none⟩ = some (bc x) := Lib.Below.cellOf B0.below hx (Nat.le_refl _)
  obtain ⟨w1, hr1, B1⟩ := Lib.copy_part (P := Tryd.prog) w _ w.heap.size n [] [x] (.slice (some ⟨b, o, none⟩) 1 c) 31 3 5 Tryd.underlying31 (by kernel_rfl) (Nat.le_refl _) B0 ⟨some ⟨b, o, none⟩, c, rfl, (fun h => by cases h), (fun a ha j y hy => by
    cases ha
    cases j with
    | zero => simp at hy; subst hy; rw [Addr.add_mid]; exact hx
    | succ j => simp at hy)⟩ (by simp; omega)
  rw [List.length_nil, Lib.tailV_zero] at hr1
  rw [List.nil_append] at B1
  have hm1 : n ≤ maxLen := by unfold maxLen; omega
  have hw1 : IntKind.u64.wrap (n : Int) = (n : Int) := by rw [IntKind.wrap_u64]; omega
  have hn0 : ¬ (n : Int) = 0 := by omega
  have hn1 : ¬ (n : Int) < 0 := by omega
  have hn2 : ¬ (8192 : Int) < (n : Int) := by omega
  have i0 : (0 : Int) ≤ (n : Int) := by omega
  have i1 : (n : Int) ≤ (cs.size : Int) := by omega
  clear hrunM B0
  go_enter Tryd.func7, Tryd.ntmps7
  go_wp2_with (first
    | (go_at_call 24; refine (hM _).mono ?_; rintro e w' ⟨rfl, rfl⟩)
    | (at_builtin; refine Lib.wpList_copy_run _ rfl _ _ 31 31 rfl _ _ rfl rfl hr1 ?_))
  have hz8 : ∀ W, (Go.sizeOf 5).run Tryd.prog W = .ok 1 W := Tryd.sizeOf5
  have hs8 : (Tryd.prog.info? 5).map (·.size) = some 1 := by kernel_rfl
  clear hr1 hcall hx0 hx hM
  go_loopw [10] (fun i wr => ∃ k : Nat, 1 ≤ k ∧ k ≤ n ∧ i = .int .i64 k ∧ Lib.Buf w' wr w'.heap.size n (List.replicate k x)) (fun i _ => n - (intOf i).toNat)
  case atStart => exact ⟨1, Nat.le_refl _, h1, rfl, by simpa using B1⟩
  case round =>
    obtain ⟨k, hk0, hkn, rfl, hB⟩ := hrel
    clear B1
    by_cases hlt : k < n
    · have hlt2 : (k : Int) < (n : Int) := by omega
      obtain ⟨w3, hr3, hB3⟩ := copy_self 3 (buf_drew hB) hlt
      have hsl1 : ∀ W, (Instr.slice 31 (.slice (some ⟨w'.heap.size, 0, none⟩) n n) (some (.int .i64 (k : Int))) none none).run Tryd.prog W = .ok (Lib.tailV w'.heap.size n k) W := fun W => Lib.run_slice_tailV W 31 5 Tryd.underlying31 hz8 _ n k (by omega)
      have hsl2 : ∀ W, (Instr.slice 31 (.slice (some ⟨w'.heap.size, 0, none⟩) n n) none (some (.int .i64 (k : Int))) none).run Tryd.prog W = .ok (.slice (some ⟨w'.heap.size, 0, none⟩) k n) W := fun W => run_upto Tryd.underlying31 hs8 _ n n k _ rfl (by omega) W
      have hmk : 1 ≤ min k (n - k) ∧ k + min k (n - k) ≤ n := by omega
      generalize min k (n - k) = m at *
      obtain ⟨TV, hTV⟩ : ∃ TV, TV = Lib.tailV w'.heap.size n k := ⟨_, rfl⟩
      rw [← hTV] at hr3 hsl1
      have hw2 : IntKind.i64.wrap ((k : Int) + (m : Int)) = (k : Int) + (m : Int) := by rw [IntKind.wrap_i64]; omega
      clear hTV hB
      go_wp2
      rw [show min (k : Int) (n : Int) = (k : Int) by omega]
      go_region_held3 (fun _ => True) (trivial) (fail)
      go_wp2
      go_roundw
      case rel => first | exact ⟨k + m, by omega, by omega, by go_num, hB3⟩ | ((repeat apply Exists.intro); exact ⟨⟨k + m, by omega, by omega, by go_num, hB3⟩, rfl⟩)
      case measure => simp [intOf]; omega
    · obtain rfl : k = n := by omega
      have hb := buf_hb hB (by simp) hm1
      have hbe := hB.below
      go_wp2
      go_ret
      exact ⟨rfl, hb, hbe⟩

set_option maxRecDepth 100000 in
set_option maxHeartbeats 400000 in
theorem mul64 (W : World) : Calls Tryd.prog 24 #[.int .u64 1, .int .u64 ((64 : Nat) : Int)] W fun e w' => e = .returned (.tuple #[.int .u64 0, .int .u64 ((64 : Nat) : Int)]) ∧ w' = W := by
  go_enter Tryd.func24, Tryd.ntmps24
  go_wp2
  go_ret2
  exact ⟨rfl, rfl⟩

set_option maxRecDepth 100000 in
set_option maxHeartbeats 400000 in
theorem mul9 (W : World) : Calls Tryd.prog 24 #[.int .u64 1, .int .u64 ((9 : Nat) : Int)] W fun e w' => e = .returned (.tuple #[.int .u64 0, .int .u64 ((9 : Nat) : Int)]) ∧ w' = W := by
  go_enter Tryd.func24, Tryd.ntmps24
  go_wp2
  go_ret2
  exact ⟨rfl, rfl⟩

end Go.Proofs.YtnmjggljicanmaaDoor
