/- What this text proves: the walk of the document's Cut over this program. -/
import Derived.Test.YtgfddabccjfhiaaDoorRSum
import Derived.Test.YtgfddabccjfhiaaDoorCutC
namespace Go.Proofs.YtgfddabccjfhiaaDoor
open Go.RowKit

/-- Where v points, there is a block of bytes. -/
def TB (w : World) (v : Value) : Prop := ∀ b o n c, v = .slice (some ⟨b, o, none⟩) n c → ∃ cur fr, w.heap[b]? = some (.cells cur 5 fr)

theorem TB.of_owns {w : World} {base n : Nat} {v : Value} {xs : List Value} (h : w.ownsRow base 5 1 v n xs) : TB w v := by
  intro b o m c e
  rcases h.2 with ⟨rfl, _⟩ | ⟨g, cap, cur, rfl, _, hg, _⟩
  · cases e
  · simp only [Value.slice.injEq, Option.some.injEq, Addr.mk.injEq] at e
    obtain ⟨⟨rfl, _, _⟩, _⟩ := e
    exact ⟨cur, _, hg⟩
theorem TB.front {w : World} {p : Option Addr} {n c : Nat} (h : TB w (.slice p n c)) (m d : Nat) : TB w (.slice p m d) := by
  intro b o n' c' e
  simp only [Value.slice.injEq] at e
  obtain ⟨rfl, _⟩ := e
  exact h b o n c rfl
theorem TB.nil (w : World) (n c : Nat) : TB w (.slice none n c) := by intro b o m d e; simp at e
theorem TB.later {w w' : World} {v : Value} (h : TB w v) (hb : Below w.heap.size w w') : TB w' v := by
  intro b o n c e
  obtain ⟨cur, fr, hg⟩ := h b o n c e
  exact ⟨cur, fr, by rw [hb.block b (Array.getElem?_eq_some_iff.1 hg).1]; exact hg⟩

set_option maxRecDepth 100000 in
set_option maxHeartbeats 1000000 in
theorem rcut_ty (n : Int) (v : Value) (D : List UInt8) (w : World) (hD : D.length = 32) (hsum : Calls Tryd.prog 88 #[v] w fun e w' => ∃ v', e = .returned v' ∧ w'.ownsRow w.heap.size 5 1 v' 32 (bcs D) ∧ Below w.heap.size w w') :
    Calls Tryd.prog 76 #[.int .i64 n, v] w fun e w' => ∃ p c, e = .returned (.slice p (cutLen n) c) ∧ HB w' (.slice p (cutLen n) c) (D.take (cutLen n)) ∧ Below w.heap.size w w' ∧ TB w' (.slice p (cutLen n) c) := by
  have HS : Hid (Calls Tryd.prog 88 #[v] w fun e w' => ∃ v', e = .returned v' ∧ w'.ownsRow w.heap.size 5 1 v' 32 (bcs D) ∧ Below w.heap.size w w') := hsum
  have HD : Hid (D.length = 32) := hD
  clear hsum hD
  by_cases h : n ≤ 0
  · have hc : cutLen n = 0 := by unfold cutLen; omega
    rw [hc]
    clear hc
    by_cases h32 : 32 < n
    · omega
    · skip
      go_enter Tryd.func76, Tryd.ntmps76
      go_wp2_with fail
      refine HS.out.mono ?_
      rintro e w1 ⟨v1, rfl, hown1, hb1⟩
      have s1 := HB.of_owns hown1
      obtain ⟨p1, c1, hv1⟩ := owns_shape hown1
      subst hv1
      have t1 := TB.of_owns hown1
      have hl := s1.len.2.1
      have hmx := s1.len.2.2.1
      have s2 := s1.front 0 (by omega)
      have HS2 : Hid (HB w1 (.slice p1 0 c1) (D.take 0)) := s2
      clear hown1 HS s2 s1
      go_wp2_with fail
      go_ret
      exact ⟨_, _, rfl, HS2.out, hb1, t1.front _ _⟩
  · by_cases h32 : 32 < n
    · have hc : cutLen n = 32 := by unfold cutLen; omega
      rw [hc]
      clear hc
      go_enter Tryd.func76, Tryd.ntmps76
      go_wp2_with fail
      refine HS.out.mono ?_
      rintro e w1 ⟨v1, rfl, hown1, hb1⟩
      have s1 := HB.of_owns hown1
      obtain ⟨p1, c1, hv1⟩ := owns_shape hown1
      subst hv1
      have t1 := TB.of_owns hown1
      have hl := s1.len.2.1
      have hmx := s1.len.2.2.1
      have s2 := s1.front 32 (by omega)
      have HS2 : Hid (HB w1 (.slice p1 32 c1) (D.take 32)) := s2
      clear hown1 HS s2 s1
      go_wp2_with fail
      go_ret
      exact ⟨_, _, rfl, HS2.out, hb1, t1.front _ _⟩
    · obtain ⟨m, hm⟩ : ∃ m : Nat, (m : Int) = n := ⟨n.toNat, by omega⟩
      have hc : cutLen n = m := by unfold cutLen; omega
      rw [hc]
      subst hm
      have hle : m ≤ 32 := by omega
      have hle2 : (m : Int) ≤ 32 := by omega
      clear hc
      go_enter Tryd.func76, Tryd.ntmps76
      go_wp2_with fail
      refine HS.out.mono ?_
      rintro e w1 ⟨v1, rfl, hown1, hb1⟩
      have s1 := HB.of_owns hown1
      obtain ⟨p1, c1, hv1⟩ := owns_shape hown1
      subst hv1
      have t1 := TB.of_owns hown1
      have hl := s1.len.2.1
      have hmx := s1.len.2.2.1
      have s2 := s1.front m (by omega)
      have HS2 : Hid (HB w1 (.slice p1 m c1) (D.take m)) := s2
      clear hown1 HS s2 s1
      go_wp2_with fail
      go_ret
      exact ⟨_, _, rfl, HS2.out, hb1, t1.front _ _⟩

theorem rcut_any (n : Int) (v : Value) (D : List UInt8) (w : World) (hD : D.length = 32) (hsum : Calls Tryd.prog 88 #[v] w fun e w' => ∃ v', e = .returned v' ∧ w'.ownsRow w.heap.size 5 1 v' 32 (bcs D) ∧ Below w.heap.size w w') :
    Calls Tryd.prog 76 #[.int .i64 n, v] w fun e w' => ∃ p c, e = .returned (.slice p (cutLen n) c) ∧ HB w' (.slice p (cutLen n) c) (D.take (cutLen n)) ∧ Below w.heap.size w w' :=
  (rcut_ty n v D w hD hsum).mono fun _ _ ⟨p, c, h1, h2, h3, _⟩ => ⟨p, c, h1, h2, h3⟩

end Go.Proofs.YtgfddabccjfhiaaDoor
