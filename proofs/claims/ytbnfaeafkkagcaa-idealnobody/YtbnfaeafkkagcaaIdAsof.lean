/- What this text proves: the walks of ideal's bound, at, asof over this program, where the epoch's batch has the identity first; its isQuery, isRange, isPaged at the kinds that are met. -/
import Derived.Test.YtbnfaeafkkagcaaIdBase
import Derived.Test.YtbnfaeafkkagcaaEqual
namespace Go.Proofs.Ytbnfaeafkkagcaa
open Go.RowKit

set_option maxRecDepth 100000 in
set_option maxHeartbeats 800000 in
theorem bound_first (v idv : Value) (bs : List (List UInt8 × List UInt8)) (idl : List UInt8) (W : World) (hb : BA W v bs) (hi : HB W idv idl) (x : List UInt8 × List UInt8) (hx : bs[0]? = some x) (he : x.1 = idl) :
    Calls Try.prog 44 #[v, idv] W fun e w' => ∃ q c, e = .returned (.tuple #[.slice q x.2.length c, .bool true]) ∧ HB w' (.slice q x.2.length c) x.2 ∧ Below W.heap.size W w' := by
  obtain ⟨p, c, rfl⟩ := hb.shape
  obtain ⟨pi, ci, rfl⟩ := hi.shape
  have hn : 0 < bs.length := (List.getElem?_eq_some_iff.1 hx).1
  have hn2 : (0 : Int) < (bs.length : Int) := by omega
  obtain ⟨bl, o, rfl⟩ := hb.addr hn
  obtain ⟨y, q, kc, r, d, hy, c1, c2, h1, h2⟩ := hb.get 0 hn
  obtain rfl : y = x := by have := hy.out; rw [hx] at this; simpa using this.symm
  have bA := (Below.refl W.heap.size W).alloc (Nat.le_refl _) (.cells #[.slice q y.1.length kc, .slice r y.2.length d] 57)
  have hq := equal_t _ _ _ _ _ (h1.later bA) (hi.later bA) he
  have hk := h2.later bA
  clear hx hy he hb hi h1 h2
  go_enter Try.func44, Try.ntmps44
  go_wp2
  go_loopw [10] (fun i wr => i = .int .i64 0 ∧ wr = W) (fun _ _ => 0)
  case atStart => exact ⟨rfl, rfl⟩
  case round =>
    obtain ⟨rfl, rfl⟩ := hrel
    simp only [Nat.zero_mul, Nat.add_zero] at c1 c2
    go_wp2_with (first | (go_at_call 53; refine hq.mono ?_; rintro e w1 ⟨rfl, hw⟩; subst hw))
    go_ret2
    exact ⟨_, _, rfl, hk, bA⟩

set_option maxRecDepth 100000 in
set_option maxHeartbeats 800000 in
theorem at_first (base g : Nat) (s h mi mk ch ar ca pg : Int) (ts : List Int) (us : List Value) (ck : Int) (pt : Option Addr) (ct : Nat) (pb : Option Addr) (cb : Nat) (w : World) (H : IM w base g s h mi mk ch ar ca pg ts us ck pt ct pb cb)
    (idv u : Value) (bs : List (List UInt8 × List UInt8)) (idl : List UInt8) (E : Nat) (hE : 0 < E) (hu : us[E]? = some u) (hb : BA w u bs) (hi : HB w idv idl) (x : List UInt8 × List UInt8) (hx : bs[0]? = some x) (he : x.1 = idl) :
    Calls Try.prog 39 #[.pointer (some ⟨g, 0, none⟩), idv, .int .i64 (E : Int)] w fun e w' => ∃ q c, e = .returned (.tuple #[.slice q x.2.length c, .int .i64 (E : Int), .bool true]) ∧ HB w' (.slice q x.2.length c) x.2 ∧ Below w.heap.size w w' := by
  obtain ⟨c0, c1, c2, c3, c4, c5, c6, c7, c8, c9, c10⟩ := map_cells H.1
  have hEl : E < us.length := (List.getElem?_eq_some_iff.1 hu).1
  have hE2 : (0 : Int) < (E : Int) := by omega
  have hE3 : (E : Int) < (us.length : Int) := by omega
  obtain ⟨b, rfl⟩ := owns_addrB H.2.2.1 (by omega)
  have hc := owns_cellB H.2.2.1 E u hu
  have hB := bound_first u idv bs idl w hb hi x hx he
  obtain ⟨pu, cu, rfl⟩ := hb.shape
  obtain ⟨pi, ci, rfl⟩ := hi.shape
  clear H c0 c1 c2 c3 c4 c5 c6 c7 c8 c10 hu hb hi hx he
  go_enter Try.func39, Try.ntmps39
  go_wp2
  go_loopw [9] (fun i wr => i = .int .i64 (E : Int) ∧ wr = w) (fun _ _ => 0)
  case atStart => exact ⟨rfl, rfl⟩
  case round =>
    obtain ⟨rfl, rfl⟩ := hrel
    go_wp2_with (first | (go_at_call 44; refine hB.mono ?_; rintro e w1 ⟨q, cq, rfl, hk, b1⟩))
    go_ret3
    exact ⟨_, _, rfl, hk, b1⟩

theorem isPaged3 (w : World) : Calls Try.prog 34 #[.int .i64 3] w fun e w' => e = .returned (.bool false) ∧ w' = w := by
  go_enter Try.func34, Try.ntmps34
  go_wp2
  go_ret
  exact ⟨rfl, rfl⟩

theorem isPaged1 (w : World) : Calls Try.prog 34 #[.int .i64 1] w fun e w' => e = .returned (.bool false) ∧ w' = w := by
  go_enter Try.func34, Try.ntmps34
  go_wp2
  go_ret
  exact ⟨rfl, rfl⟩

theorem isRange3 (w : World) : Calls Try.prog 33 #[.int .i64 3] w fun e w' => e = .returned (.bool false) ∧ w' = w := by
  have h := isPaged3 w
  go_enter Try.func33, Try.ntmps33
  go_wp2_with (go_at_call 34; refine h.mono ?_; rintro e w1 ⟨rfl, hw⟩; have hw2 := hw.symm; clear hw; subst hw2)
  go_ret
  exact ⟨rfl, rfl⟩

theorem isRange1 (w : World) : Calls Try.prog 33 #[.int .i64 1] w fun e w' => e = .returned (.bool false) ∧ w' = w := by
  have h := isPaged1 w
  go_enter Try.func33, Try.ntmps33
  go_wp2_with (go_at_call 34; refine h.mono ?_; rintro e w1 ⟨rfl, hw⟩; have hw2 := hw.symm; clear hw; subst hw2)
  go_ret
  exact ⟨rfl, rfl⟩

theorem isQuery3 (w : World) : Calls Try.prog 32 #[.int .i64 3] w fun e w' => e = .returned (.bool true) ∧ w' = w := by
  go_enter Try.func32, Try.ntmps32
  go_wp2
  go_ret
  exact ⟨rfl, rfl⟩

theorem isQuery1 (w : World) : Calls Try.prog 32 #[.int .i64 1] w fun e w' => e = .returned (.bool false) ∧ w' = w := by
  have h := isRange1 w
  go_enter Try.func32, Try.ntmps32
  go_wp2_with (go_at_call 33; refine h.mono ?_; rintro e w1 ⟨rfl, hw⟩; have hw2 := hw.symm; clear hw; subst hw2)
  go_ret
  exact ⟨rfl, rfl⟩

theorem act1 (g : Nat) (w : World) : Calls Try.prog 15 #[.pointer (some ⟨g, 0, none⟩), .int .i64 1] w fun e w' => e = .returned (.func (.func 23) #[.pointer (some ⟨g, 0, none⟩)] #[]) ∧ w' = w := by
  have hmf : ∀ (fn : Fn) (first cap : Array Value) (w : World), (Instr.makeFunc fn first cap).run Try.prog w = .ok (.func fn first cap) w := fun fn first cap w => by simp [Instr.makeFunc]
  go_enter Try.func15, Try.ntmps15
  go_wp2
  go_ret
  exact ⟨rfl, rfl⟩

theorem act3 (g : Nat) (w : World) : Calls Try.prog 15 #[.pointer (some ⟨g, 0, none⟩), .int .i64 3] w fun e w' => e = .returned (.func (.func 25) #[.pointer (some ⟨g, 0, none⟩)] #[]) ∧ w' = w := by
  have hmf : ∀ (fn : Fn) (first cap : Array Value) (w : World), (Instr.makeFunc fn first cap).run Try.prog w = .ok (.func fn first cap) w := fun fn first cap w => by simp [Instr.makeFunc]
  go_enter Try.func15, Try.ntmps15
  go_wp2
  go_ret
  exact ⟨rfl, rfl⟩

end Go.Proofs.Ytbnfaeafkkagcaa
