/- What this text proves: the walk of the document's First (annalsref03) over this program: the first n bits of bytes, in new memory. -/
import Derived.Test.YtofchcheoanmdaaDoorOwn
import Derived.Test.YtofchcheoanmdaaDoorBitsPlain
namespace Go.Proofs.YtofchcheoanmdaaDoor
open Go.RowKit

/-- The byte that the loop puts at place k. -/
def firstB (x : UInt8) (n k : Nat) : UInt8 := if n - 8 * k < 8 then cutB x (n - 8 * k) else x

theorem firstN_step (l : List UInt8) (n k : Nat) (x : UInt8) (hx : l[k]? = some x) (hk : 8 * k < n) : firstN l (min n (8 * (k + 1))) = firstN l (min n (8 * k)) ++ [firstB x n k] := by
  unfold firstB
  rw [show min n (8 * k) = 8 * k by omega, firstN_whole l (8 * k) (by omega), show 8 * k / 8 = k by omega]
  split
  · rw [show min n (8 * (k + 1)) = n by omega, firstN_part l n x (by omega) (by rw [show n / 8 = k by omega]; exact hx), show n / 8 = k by omega, show n % 8 = n - 8 * k by omega]
  · rw [show min n (8 * (k + 1)) = 8 * (k + 1) by omega, firstN_whole l (8 * (k + 1)) (by omega), show 8 * (k + 1) / 8 = k + 1 by omega, List.take_add_one, hx]
    rfl

theorem firstN_end (l : List UInt8) (n k : Nat) (h : n ≤ 8 * k ∨ l.length ≤ k) : firstN l (min n (8 * k)) = firstN l n := by
  by_cases hn : n ≤ 8 * k
  · rw [show min n (8 * k) = n by omega]
  · rw [show min n (8 * k) = 8 * k by omega, firstN_all l n (by omega), firstN_all l (8 * k) (by omega)]

def lenF : Value → Nat | .slice _ n _ => n | _ => 0

theorem rcut_calc : ∀ n : Fin 256, ∀ k : Fin 8, (n.val : Int) / 2 ^ (8 - k.val) * 2 ^ (8 - k.val) % 256 = ((n.val / 2 ^ (8 - k.val) * 2 ^ (8 - k.val) : Nat) : Int) := by decide +kernel

set_option maxRecDepth 100000 in
set_option maxHeartbeats 1000000 in
theorem rfirst_any (v : Value) (l : List UInt8) (i : Int) (w : World) (h : HB w v l) (h0 : -9223372036854775808 ≤ i) (h1 : i ≤ 9223372036854775807) (hbig : l.length ≤ 140737488351232) :
    Calls Tryd.prog 51 #[v, .int .i64 i] w fun e w' => ∃ p c, e = .returned (.slice p (firstF l i).length c) ∧ HB w' (.slice p (firstF l i).length c) (firstF l i) ∧ Below w.heap.size w w' := by
  obtain ⟨p, c, rfl⟩ := h.shape
  obtain ⟨i0, hi, hz0, hz1, hz2⟩ := info_parts i_u8
  by_cases hneg : i < 1
  · have e : firstF l i = [] := by unfold firstF; rw [show i.toNat = 0 by omega, firstN_zero]
    rw [e]
    clear e
    go_enter Tryd.func51, Tryd.ntmps51
    go_wp2
    have hd : decide (0 < i) = false := by simp; omega
    go_loopw [5, 6] (fun v j wr => v = .slice none 0 0 ∧ j = .int .i64 0 ∧ wr = w) (fun _ _ _ => 0)
    case atStart => exact ⟨rfl, rfl, rfl⟩
    case round =>
      obtain ⟨rfl, rfl, hw⟩ := hrel
      go_wp2
      go_ret
      subst hw
      exact ⟨none, 0, rfl, HB.nil _, Below.refl _ _⟩
  · obtain ⟨n, rfl⟩ : ∃ n : Nat, i = n := ⟨i.toNat, by omega⟩
    have hF : firstF l (n : Int) = firstN l n := by unfold firstF; simp
    rw [hF]
    clear hF
    have hlenN : ∀ m, (firstN l m).length ≤ l.length := fun m => by rw [firstN_length]; omega
    have h0 : w.ownsRow w.heap.size 5 1 (.slice none 0 0) 0 (bcs (firstN l (min n (8 * 0)))) := by
      rw [show min n (8 * 0) = 0 by omega, firstN_zero]
      exact World.ownsRow_nil w _ _ _
    go_enter Tryd.func51, Tryd.ntmps51
    go_wp2
    go_loopw [5, 6] (fun v j wr => ∃ (k : Nat) (p5 : Option Addr) (c5 : Nat), k ≤ l.length ∧ j = .int .i64 (8 * (k : Int)) ∧ v = .slice p5 (firstN l (min n (8 * k))).length c5 ∧ wr.ownsRow w.heap.size 5 1 (.slice p5 (firstN l (min n (8 * k))).length c5) (firstN l (min n (8 * k))).length (bcs (firstN l (min n (8 * k)))) ∧ Below w.heap.size w wr)
      (fun _ j _ => 8 * l.length - (intOf j).toNat)
    case atStart => exact ⟨0, none, 0, Nat.zero_le _, rfl, by rw [show min n (8 * 0) = 0 by omega, firstN_zero]; rfl, by simpa [firstN_zero] using h0, Below.refl _ _⟩
    case round =>
      clear h0
      obtain ⟨k, p5, c5, hk, rfl, rfl, hown, hbe⟩ := hrel
      have hsz := hbe.size
      have hlk := hlenN (min n (8 * k))
      have ht : (8 * (k : Int)).tdiv 8 = (k : Int) := by rw [Int.tdiv_eq_ediv_of_nonneg (by omega)]; omega
      by_cases hend : n ≤ 8 * k ∨ l.length ≤ k
      · have HE : Hid (firstN l (min n (8 * k)) = firstN l n) := firstN_end l n k hend
        have hh := HB.of_owns hown
        rw [HE.out] at hh ⊢
        clear hown hlk hlenN
        by_cases hn : n ≤ 8 * k
        · have hd : decide (8 * (k : Int) < (n : Int)) = false := by simp; omega
          go_wp2
          go_ret
          exact ⟨_, _, rfl, hh, hbe⟩
        · have hd : 8 * (k : Int) < (n : Int) := by omega
          have hd2 : (l.length : Int) ≤ (k : Int) := by omega
          go_wp2
          go_ret
          exact ⟨_, _, rfl, hh, hbe⟩
      · have hlt : k < l.length := by omega
        have hd : 8 * (k : Int) < (n : Int) := by omega
        have hd2 : (k : Int) < (l.length : Int) := by omega
        obtain ⟨b, o, rfl, hc⟩ := h.addr (by omega)
        have gx : l[k]? = some l[k] := List.getElem?_eq_getElem hlt
        have cx := cell_later hbe (hc k _ gx)
        have HST := firstN_step l n k _ gx (by omega)
        generalize l[k]'(by omega) = x at *
        have HS : Hid (firstN l (min n (8 * (k + 1))) = firstN l (min n (8 * k)) ++ [firstB x n k]) := HST
        clear HST gx hc h
        unfold bc at cx
        have hx := x.toNat_lt
        generalize firstN l (min n (8 * k)) = F at *
        by_cases h8 : n - 8 * k < 8
        · have HB8 : Hid (firstB x n k = cutB x (n - 8 * k)) := by show firstB x n k = _; unfold firstB; rw [if_pos h8]
          have h8' : (n : Int) - 8 * (k : Int) < 8 := by omega
          have HV : Hid (Value.int .u8 ((x.toNat : Int) / 2 ^ (8 - (n - 8 * k)) * 2 ^ (8 - (n - 8 * k)) % 256) = bc (firstB x n k)) := by
            show Value.int .u8 ((x.toNat : Int) / 2 ^ (8 - (n - 8 * k)) * 2 ^ (8 - (n - 8 * k)) % 256) = bc (firstB x n k)
            rw [HB8.out]
            unfold bc
            rw [cutB_toNat]
            exact congrArg (Value.int .u8) (rcut_calc ⟨x.toNat, hx⟩ ⟨n - 8 * k, h8⟩)
          go_wp2_with (first | (at_builtin; refine wpList_append_own _ rfl (.tmp 40) (.tmp 42) 31 rfl w.heap.size 5 i0 (.int .u8 0) 1 1 Tryd.underlying31 hi hz0 hz1 hz2 rfl (by decide) _ _ _ rfl (hown.alloc _) ⟨wr.heap.size, 0, none⟩ 1 1 [.int .u8 ((x.toNat : Int) / 2 ^ (8 - (n - 8 * k)) * 2 ^ (8 - (n - 8 * k)) % 256)] rfl rfl ?ua ?ub ?uc ?ud ?ue ?_))
          case ua => exact cell_one_new _ _ _
          case ub => intro u hu; simp at hu; subst hu; rfl
          case uc => unfold maxLen; omega
          case ud => omega
          case ue => simp; omega
          intro v6 w6 hown6 hgrow6 _
          have hb6 : Below w.heap.size w w6 := (hbe.alloc hsz _).grown hgrow6 (by simp; omega) (fun k hk => (hown.lt k hk).1)
          rw [HV.out, show bcs F ++ [bc (firstB x n k)] = bcs (F ++ [firstB x n k]) by simp [bcs], ← HS.out] at hown6
          have HFL : Hid (F.length + 1 = (firstN l (min n (8 * (k + 1)))).length) := by show F.length + 1 = _; rw [HS.out]; simp
          rw [HFL.out] at hown6
          obtain ⟨p6, c6, hv6⟩ := owns_shape hown6
          rw [hv6] at hown6 ⊢
          have H6 : Hid (w6.ownsRow w.heap.size 5 1 (.slice p6 (firstN l (min n (8 * (k + 1)))).length c6) (firstN l (min n (8 * (k + 1)))).length (bcs (firstN l (min n (8 * (k + 1)))))) := hown6
          clear hv6 hgrow6 hown hown6 hbe HV HB8 HS HFL hlk cx
          go_wp2
          exact ⟨⟨k + 1, p6, c6, by omega, by go_num, rfl, H6.out, hb6⟩, by simp [intOf]; omega⟩
        · have HB8 : Hid (firstB x n k = x) := by show firstB x n k = _; unfold firstB; rw [if_neg h8]
          have h8' : 8 ≤ (n : Int) - 8 * (k : Int) := by omega
          have HV : Hid (Value.int .u8 ((x.toNat : Int)) = bc (firstB x n k)) := by
            show Value.int .u8 ((x.toNat : Int)) = bc (firstB x n k)
            rw [HB8.out]
            rfl
          go_wp2_with (first | (at_builtin; refine wpList_append_own _ rfl (.tmp 40) (.tmp 42) 31 rfl w.heap.size 5 i0 (.int .u8 0) 1 1 Tryd.underlying31 hi hz0 hz1 hz2 rfl (by decide) _ _ _ rfl (hown.alloc _) ⟨wr.heap.size, 0, none⟩ 1 1 [.int .u8 ((x.toNat : Int))] rfl rfl ?ua ?ub ?uc ?ud ?ue ?_))
          case ua => exact cell_one_new _ _ _
          case ub => intro u hu; simp at hu; subst hu; rfl
          case uc => unfold maxLen; omega
          case ud => omega
          case ue => simp; omega
          intro v6 w6 hown6 hgrow6 _
          have hb6 : Below w.heap.size w w6 := (hbe.alloc hsz _).grown hgrow6 (by simp; omega) (fun k hk => (hown.lt k hk).1)
          rw [HV.out, show bcs F ++ [bc (firstB x n k)] = bcs (F ++ [firstB x n k]) by simp [bcs], ← HS.out] at hown6
          have HFL : Hid (F.length + 1 = (firstN l (min n (8 * (k + 1)))).length) := by show F.length + 1 = _; rw [HS.out]; simp
          rw [HFL.out] at hown6
          obtain ⟨p6, c6, hv6⟩ := owns_shape hown6
          rw [hv6] at hown6 ⊢
          have H6 : Hid (w6.ownsRow w.heap.size 5 1 (.slice p6 (firstN l (min n (8 * (k + 1)))).length c6) (firstN l (min n (8 * (k + 1)))).length (bcs (firstN l (min n (8 * (k + 1)))))) := hown6
          clear hv6 hgrow6 hown hown6 hbe HV HB8 HS HFL hlk cx
          go_wp2
          exact ⟨⟨k + 1, p6, c6, by omega, by go_num, rfl, H6.out, hb6⟩, by simp [intOf]; omega⟩

end Go.Proofs.YtofchcheoanmdaaDoor
