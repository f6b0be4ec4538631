/- What this text proves: an argument that is a slice of slices of bytes, as the claim's reading has it, holds bytes in memory, and none of the slices is longer than the claim's reach. -/
import Derived.Test.YtichffdkihifpaaDoorOpenD
namespace Go.Proofs.YtichffdkihifpaaDoor
open Go.ChangeShapes Go.WideShapes Go.ChangeAt Go.RowKit

theorem weightsAll_mem {H : Type} {P : Program} {e : TypeId} {d : DataW H} : ∀ {ds : List (DataW H)}, d ∈ ds → ∀ n ∈ d.weights P e, n ∈ DataW.weightsAll P e ds
  | x :: r, h, n, hn => by
    rw [DataW.weightsAll]
    rcases List.mem_cons.1 h with rfl | h
    · exact List.mem_append_left _ hn
    · exact List.mem_append_right _ (weightsAll_mem h n hn)

theorem weightsEach_mem {H : Type} {P : Program} : ∀ {ts : List TypeId} {ds : List (DataW H)} (j : Nat) {t : TypeId} {d : DataW H}, ts[j]? = some t → ds[j]? = some d → ∀ n ∈ d.weights P t, n ∈ DataW.weightsEach P ts ds
  | t :: ts, d :: ds, 0, t', d', h1, h2, n, hn => by
    simp at h1 h2
    subst h1; subst h2
    rw [DataW.weightsEach]
    exact List.mem_append_left _ hn
  | t :: ts, d :: ds, j + 1, t', d', h1, h2, n, hn => by
    rw [DataW.weightsEach]
    exact List.mem_append_right _ (weightsEach_mem j (by simpa using h1) (by simpa using h2) n hn)
  | [], _, j, _, _, h1, _, _, _ => by simp at h1
  | _ :: _, [], j, _, _, _, h2, _, _ => by simp at h2

theorem row_reach {H : Type} (a : Option Addr) (n : Nat) (z : List Int) (hz : a = none → z.length = 0) (h : ∀ x ∈ (Go.Deep.intRow (H := H) .u8 a n z).weights Tryd.prog 25, x ≤ reachBytes) : (bytesOf (z.take n)).length ≤ 140737488351232 := by
  cases a with
  | none =>
    have h0 : z = [] := List.eq_nil_of_length_eq_zero (hz rfl)
    subst h0
    simp [bytesOf]
  | some ad =>
    simp only [Go.Deep.intRow] at h
    have := h ((lits (H := H) .u8 (z.take n)).length + (lits (H := H) .u8 (z.drop n)).length |>.mul (Tryd.prog.bytesOf 5)) (by
      rw [DataW.weights, Tryd.underlying25]
      exact List.mem_cons_self)
    rw [bytes_u8] at this
    have e : (lits (H := H) .u8 (z.take n)).length = (bytesOf (z.take n)).length := by simp [lits, bytesOf]
    unfold reachBytes at this
    simp only [Nat.mul_eq, Nat.mul_one] at this
    omega

set_option maxRecDepth 100000 in
set_option maxHeartbeats 400000 in
theorem open_paR {H : Type} {enc : TypeId × Value → H} {W : World} {base : Nat} {v0 : Value} {d0 : DataW H} {p0 : List MemPlace}
    (hval : Value.okWide Tryd.prog W .any base 22 v0) (h0 : DataW.Trod enc Tryd.prog W 0 (fun _ => true) true 22 v0 d0 p0) (hw : ∀ n ∈ d0.weights Tryd.prog 22, n ≤ reachBytes) :
    ∃ ls : List (List UInt8), PA W v0 ls ∧ ∀ l ∈ ls, l.length ≤ 140737488351232 := by
  obtain ⟨a0, len0, cap0, rfl⟩ := okWide_slice Tryd.underlying22 hval
  obtain ⟨fuel, hf⟩ := h0
  rcases Go.Deep.open_int_rows Tryd.underlying22 Tryd.underlying25 Tryd.underlying5 (by kernel_rfl) (by kernel_rfl) hf with ⟨hcs, _⟩ | ⟨a, len, cap, A, L, C, Z, hcs, _, hl, hm, hy, hx⟩
  · simp [Value.cells] at hcs
    obtain ⟨rfl, rfl, rfl⟩ := hcs
    exact ⟨[], PA.nil W, fun l h => by cases h⟩
  · simp [Value.cells] at hcs
    obtain ⟨rfl, rfl, rfl⟩ := hcs
    have hreach : ∀ r, r < len0 → (bytesOf ((Z r).take (L r))).length ≤ 140737488351232 := by
      intro r hr
      obtain ⟨_, _, _, q3, _, q5, _⟩ := hx r (by omega)
      refine row_reach (H := H) (A r) (L r) (Z r) (fun e => by rw [q3, q5 e]) fun x hxm => hw x ?_
      have e : d0 = _ := congrArg Prod.fst hy
      rw [e, DataW.weights, Tryd.underlying22]
      exact List.mem_cons_of_mem _ (List.mem_append_left _ (weightsAll_mem (List.mem_map.2 ⟨r, List.mem_range.2 hr, rfl⟩) x hxm))
    refine ⟨(List.range len0).map fun r => bytesOf ((Z r).take (L r)), ⟨some a, cap0, (List.range len0).map fun r => .slice (A r) (L r) (C r), by simp, by simpa using hl, hm, (fun h => by cases h), by simp, fun hne => ?_, fun i x l hxi hli => ?_⟩, fun l hl => ?_⟩
    · have hlen : 0 < len0 := by
        rcases Nat.eq_zero_or_pos len0 with h | h
        · subst h
          exact absurd rfl hne
        · exact h
      have hc0 := (hx 0 (by omega)).1
      obtain ⟨b, o, spot⟩ := a
      have hs : spot = none := by simpa [Addr.add] using World.cell?_spot hc0
      subst hs
      refine ⟨b, o, rfl, fun i x hxi => ?_⟩
      have hi : i < len0 := by
        have := (List.getElem?_eq_some_iff.1 hxi).1
        simpa using this
      have hc := (hx i (by omega)).1
      have ha : (⟨b, o, none⟩ : Addr).add i = ⟨b, o + i, none⟩ := by unfold Addr.add; split <;> simp_all
      rw [ha] at hc
      rw [hc]
      simp [hi] at hxi
      rw [hxi]
    · have hi : i < len0 := by
        have := (List.getElem?_eq_some_iff.1 hxi).1
        simpa using this
      simp [hi] at hxi hli
      subst hxi; subst hli
      obtain ⟨_, h1, h2, h3, h4, h5, h6⟩ := hx i (by omega)
      cases hA : A i with
      | none =>
        have hc := h5 hA
        have hL : L i = 0 := by omega
        rw [hL, hc]
        simp only [List.take_zero, bytesOf, List.map_nil]
        exact HB.nil W
      | some a' =>
        exact hb_cells h1 h2 h3 (fun j hj => (h6 a' hA).2 j (by omega)) h4
    · obtain ⟨r, hr, rfl⟩ := List.mem_map.1 hl
      exact hreach r (List.mem_range.1 hr)

theorem reach_at {H : Type} {P : Program} {ts : List TypeId} {ds : List (DataW H)} (h : (DataW.weightsEach P ts ds).all (· ≤ reachBytes) = true) (j : Nat) {t : TypeId} {d : DataW H} (h1 : ts[j]? = some t) (h2 : ds[j]? = some d) : ∀ n ∈ d.weights P t, n ≤ reachBytes := by
  intro n hn
  have := List.all_eq_true.1 h n (weightsEach_mem j h1 h2 n hn)
  simpa using this

end Go.Proofs.YtichffdkihifpaaDoor
