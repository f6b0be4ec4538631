/- What this text proves: the walk of ask.Decode over this program, of any bytes. -/
import Derived.Test.YthkgbgkijdeaoaaAkDecode
namespace Go.Proofs.Ythkgbgkijdeaoaa
open Go.RowKit

set_option maxRecDepth 100000 in
set_option maxHeartbeats 2000000 in
/-- A request of a kind that has nothing. -/
theorem thru_none (v : Value) (g : Nat) (k : Int) (w : World) (hc : w.cell? ⟨g, 0, none⟩ = some (.int .i64 k)) (h : k = 8 ∨ k = 9) :
    Calls Try.prog 17 #[v, .pointer (some ⟨g, 0, none⟩)] w fun e w' => e = .returned (.bool true) ∧ w' = w := by
  have h1 : ¬ k = 1 := by omega
  have h2 : ¬ k = 2 := by omega
  have h3 : ¬ k = 3 := by omega
  have h4 : ¬ k = 4 := by omega
  have h5 : ¬ k = 5 := by omega
  have h6 : ¬ k = 6 := by omega
  have h7 : ¬ k = 7 := by omega
  have h10 : ¬ k = 10 := by omega
  rcases h with h8 | h9
  · have b8 : (k == 8) = true := by rw [h8]; rfl
    clear h8
    go_enter Try.func17, Try.ntmps17
    go_wp2
    go_ret
    exact ⟨rfl, rfl⟩
  · have h8 : ¬ k = 8 := by omega
    have b9 : (k == 9) = true := by rw [h9]; rfl
    clear h9
    go_enter Try.func17, Try.ntmps17
    go_wp2
    go_ret
    exact ⟨rfl, rfl⟩

set_option maxRecDepth 100000 in
set_option maxHeartbeats 2000000 in
/-- A request of no kind. -/
theorem thru_bad (v : Value) (g : Nat) (k : Int) (w : World) (hc : w.cell? ⟨g, 0, none⟩ = some (.int .i64 k)) (h : ¬ (k ≤ 10 ∧ 1 ≤ k)) :
    Calls Try.prog 17 #[v, .pointer (some ⟨g, 0, none⟩)] w fun e w' => e = .returned (.bool false) ∧ w' = w := by
  have h1 : ¬ k = 1 := by omega
  have h2 : ¬ k = 2 := by omega
  have h3 : ¬ k = 3 := by omega
  have h4 : ¬ k = 4 := by omega
  have h5 : ¬ k = 5 := by omega
  have h6 : ¬ k = 6 := by omega
  have h7 : ¬ k = 7 := by omega
  have h8 : ¬ k = 8 := by omega
  have h9 : ¬ k = 9 := by omega
  have h10 : ¬ k = 10 := by omega
  clear h
  go_enter Try.func17, Try.ntmps17
  go_wp2
  go_ret
  exact ⟨rfl, rfl⟩

theorem dec_kinds (k : Nat) (hk : k ≤ 10 ∧ 1 ≤ k) : k = 1 ∨ k = 2 ∨ k = 3 ∨ k = 4 ∨ k = 5 ∨ k = 6 ∨ k = 7 ∨ k = 8 ∨ k = 9 ∨ k = 10 := by omega

set_option maxRecDepth 100000 in
set_option maxHeartbeats 2000000 in
theorem decode_any (v : Value) (b : List UInt8) (w : World) (hv : HB w v b) (hsz : b.length ≤ 140737488351232) :
    Calls Try.prog 10 #[v] w (DecTold (decF b) w) := by
  refine decode_core v b w hv hsz ?_
  intro g gc gA k bv l W hr hb hbv hl hdr hA hg hgc hgA hW
  by_cases hk : k ≤ 10 ∧ 1 ≤ k
  · rcases dec_kinds k hk with rfl | rfl | rfl | rfl | rfl | rfl | rfl | rfl | rfl | rfl
    · obtain ⟨p, n, c, rfl⟩ := hbv
      exact (tr1 w.heap.size g gc gA p n c l W hr hA hgA b (hb p n c rfl) hl hdr hsz hg).mono fun x w' h => .inl ⟨hk.1, hk.2, h⟩
    · exact (tr2 w.heap.size g gc gA bv l W hr hA hgA hgc).mono fun x w' h => .inl ⟨hk.1, hk.2, h⟩
    · exact (tr3 w.heap.size g gc gA bv l W hr hA hgA hgc (by omega)).mono fun x w' h => .inl ⟨hk.1, hk.2, h⟩
    · exact (tr4 w.heap.size g gc gA bv l W hr hA hgA hgc (by omega)).mono fun x w' h => .inl ⟨hk.1, hk.2, h⟩
    · exact (tr5 w.heap.size g gc gA bv l W hr hA hgA hgc hW (by omega)).mono fun x w' h => .inl ⟨hk.1, hk.2, h⟩
    · by_cases hf : (flagF (numsG 2 l).2.1).2.1 = true
      · have e : decB 6 l = dec6a l := by show dec6 l = _; unfold dec6; rw [if_pos hf]
        exact (tr6a w.heap.size g gc gA bv l W hr hA hgA hgc hW hf (by omega)).mono fun x w' h => .inl ⟨hk.1, hk.2, by rw [e]; exact h⟩
      · have e : decB 6 l = dec6b l := by show dec6 l = _; unfold dec6; rw [if_neg hf]
        exact (tr6b w.heap.size g gc gA bv l W hr hA hgA hgc hW (by simpa using hf)).mono fun x w' h => .inl ⟨hk.1, hk.2, by rw [e]; exact h⟩
    · exact (tr7 w.heap.size g gc gA bv l W hr hA hgA hgc hW).mono fun x w' h => .inl ⟨hk.1, hk.2, h⟩
    · refine (thru_none _ gA 8 W (hA.cell rfl) (.inl rfl)).mono ?_
      rintro x w' ⟨rfl, rfl⟩
      exact .inl ⟨hk.1, hk.2, Below.refl _ _, fun _ _ _ _ h _ _ _ => h, .inl ⟨rfl, rfl, ⟨gc, bv, hr⟩, _, _, hA, HB.nil _, BA.nil _⟩⟩
    · refine (thru_none _ gA 9 W (hA.cell rfl) (.inr rfl)).mono ?_
      rintro x w' ⟨rfl, rfl⟩
      exact .inl ⟨hk.1, hk.2, Below.refl _ _, fun _ _ _ _ h _ _ _ => h, .inl ⟨rfl, rfl, ⟨gc, bv, hr⟩, _, _, hA, HB.nil _, BA.nil _⟩⟩
    · exact (tr10 w.heap.size g gc gA bv l W hr hA hgA hgc hW (by omega)).mono fun x w' h => .inl ⟨hk.1, hk.2, h⟩
  · refine (thru_bad _ gA (k : Int) W (hA.cell rfl) (by omega)).mono ?_
    rintro x w' ⟨rfl, rfl⟩
    exact .inr ⟨hk, rfl, rfl⟩

end Go.Proofs.Ythkgbgkijdeaoaa
