/- What this text proves: the walk of fields.Numbers over this program, whatever shows the numbers. -/
import Derived.Test.YtldmbfemoepfkaaStepInv
namespace Go.Proofs.Ytldmbfemoepfkaa
open Go.RowKit

/-- One number is shown behind the other; the list of their addresses, block b, stays. -/
def NumsT (f : Nat) (u : Value) (most : Int) (b : Nat) (o : Obj) (K : World → Prop) (E : List PanicEntry → World → Prop) : List Addr → World → Prop
  | [], w => K w
  | a :: r, w => Then Try.prog f #[u, .pointer (some a), .int .i64 most] w (fun _ w1 => w1.heap[b]? = some o ∧ NumsT f u most b o K E r w1) E

def ptrs (ds : List Addr) : List Value := ds.map fun a => .pointer (some a)

set_option maxHeartbeats 2000000 in
theorem nums_any (T : TypeId) (v u : Value) (f : Nat) (hM : Meth Try.prog T v "Number" f u) (most : Int) (b : Nat) (t : TypeId) (ds : List Addr) (K : World → Prop) (E : List PanicEntry → World → Prop) (w : World)
    (hn : ds.length ≤ 100) (hb : w.heap[b]? = some (.cells (ptrs ds).toArray t (0, 0))) (h : NumsT f u most b (.cells (ptrs ds).toArray t (0, 0)) K E ds w) :
    Then Try.prog 35 #[.iface T v, .int .i64 most, .slice (some ⟨b, 0, none⟩) ds.length ds.length] w (fun _ w' => K w') E := by
  have hm : ∀ w, (method 214 T v "Number").run Try.prog w = .ok (f, u) w := fun w => (by have h := hM.1 w; rwa [show Try.prog.types.size + 100 = 214 from by kernel_rfl] at h)
  have hf : ∀ x y w, (callFunc f #[u, x, y]).run Try.prog w = .ok (.enter f #[u, x, y]) w := fun x y w => hM.2.2 _ w
  unfold Then
  go_enter Try.func35, Try.ntmps35
  go_wp2
  go_loopw [10] (fun i wr => ∃ k : Nat, k ≤ ds.length ∧ i = .int .i64 k ∧ wr.heap[b]? = some (.cells (ptrs ds).toArray t (0, 0)) ∧ NumsT f u most b (.cells (ptrs ds).toArray t (0, 0)) K E (ds.drop k) wr) (fun i _ => ds.length - (intOf i).toNat)
  case atStart => exact ⟨0, Nat.zero_le _, rfl, hb, h⟩
  case round =>
    obtain ⟨k, hk, rfl, hb, h⟩ := hrel
    by_cases hlt : k < ds.length
    · rw [List.drop_eq_getElem_cons hlt] at h
      have hc : wr.cell? ⟨b, k, none⟩ = some (.pointer (some ds[k])) := by
        rw [cell_of_row _ _ _ _ _ _ hb]
        simp [ptrs, hlt]
      generalize ds[k] = a at *
      unfold NumsT Then at h
      have hlt2 : (k : Int) < (ds.length : Int) := by omega
      go_wp2
      refine h.mono ?_
      rintro e w1 (⟨r, rfl, hb1, h1⟩ | ⟨ch, rfl, k1⟩)
      · go_wp2
        go_roundw
        case rel => first | exact ⟨k + 1, by omega, by go_num, hb1, h1⟩ | ((repeat apply Exists.intro); exact ⟨⟨k + 1, by omega, by go_num, hb1, h1⟩, rfl⟩)
        case measure => simp [intOf]; omega
      · go_wp2
        exact ⟨rfl, .inr ⟨_, rfl, k1⟩⟩
    · obtain rfl : k = ds.length := by omega
      rw [List.drop_length] at h
      go_wp2
      go_end0
      exact .inl ⟨_, rfl, h⟩

end Go.Proofs.Ytldmbfemoepfkaa
