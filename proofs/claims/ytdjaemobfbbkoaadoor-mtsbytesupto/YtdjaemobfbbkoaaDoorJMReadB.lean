/- What this text proves: plain facts (no program): what was put is read, with anything behind; what was read, put, is the bytes that were read. What this text proves: mts.Read and the document's Read (annalsref06) answer alike over this program, any size and height: one error, or one signature and what is left; what was read, written, is what was read. -/
import Derived.Test.YtdjaemobfbbkoaaDoorJRd
import Derived.Test.YtdjaemobfbbkoaaDoorJMReadC
import Derived.Test.YtdjaemobfbbkoaaDoorJRMRead
import Derived.Test.YtdjaemobfbbkoaaDoorJRMWrite
namespace Go.Proofs.YtdjaemobfbbkoaaDoor

theorem cnt_byte (n : Nat) (h : n < 2 ^ 64) : (UInt8.ofNat (cnt n)).toNat = cnt n := by
  have := cnt_le8 n h
  simp
  omega

theorem uintF_put (n : Nat) (more : List UInt8) (most : Int) (h : n ≤ 4611686018427387904) (hm : (n : Int) ≤ most) : uintF (numL n ++ more) most = (0, n, more) := by
  have h64 : n < 2 ^ 64 := by omega
  have hc := cnt_byte n h64
  have h8 := cnt_le8 n h64
  have hl := ndigs_length n
  unfold numL
  simp only [List.cons_append, uintF]
  rw [hc]
  have ht : (ndigs n ++ more).take (cnt n) = ndigs n := by rw [← hl, List.take_left]
  have hd : (ndigs n ++ more).drop (cnt n) = more := by rw [← hl, List.drop_left]
  have hv := valL_digs 8 n (by rw [show (256 : Nat) ^ 8 = 2 ^ 64 from rfl]; exact h64) (Nat.le_refl _)
  rw [ht, hd, hv, if_neg (by omega), if_neg (by rw [List.length_append]; omega), if_neg, if_neg (by omega), if_neg (by omega)]
  intro e
  cases hdg : ndigs n with
  | nil => rw [hdg] at e; cases e
  | cons d r =>
    rw [hdg] at e
    have := ndigs_head n h64 d r hdg
    simp at e
    exact this e

theorem bytesF_put (s more : List UInt8) (most : Int) (h : s.length ≤ 4611686018427387904) (hm : (s.length : Int) ≤ most) : bytesF (bytesL s ++ more) most = (0, s, more) := by
  unfold bytesF bytesL
  rw [List.append_assoc, uintF_put s.length (s ++ more) most h hm]
  simp only [ne_eq, not_true, if_false]
  rw [if_neg (by rw [List.length_append]; omega), List.take_left, List.drop_left]

theorem flagF_put (b : Bool) (more : List UInt8) : flagF (flagL b ++ more) = (0, b, more) := by
  cases b <;> simp [flagL, flagF]

theorem uintF_back (l : List UInt8) (most : Int) (h : (uintF l most).1 = 0) : l = numL (uintF l most).2.1 ++ (uintF l most).2.2 ∧ (uintF l most).2.1 ≤ 4611686018427387904 ∧ ((uintF l most).2.1 : Int) ≤ most := by
  cases l with
  | nil => simp [uintF] at h
  | cons c r =>
    by_cases h1 : 8 < c.toNat
    · simp only [uintF] at h; rw [if_pos h1] at h; simp at h
    by_cases h2 : r.length < c.toNat
    · simp only [uintF] at h; rw [if_neg h1, if_pos h2] at h; simp at h
    by_cases h3 : (r.take c.toNat).head? = some 0
    · simp only [uintF] at h; rw [if_neg h1, if_neg h2, if_pos h3] at h; simp at h
    by_cases h4 : 4611686018427387904 < valL (r.take c.toNat)
    · simp only [uintF] at h; rw [if_neg h1, if_neg h2, if_neg h3, if_pos h4] at h; simp at h
    by_cases h5 : most < (valL (r.take c.toNat) : Int)
    · simp only [uintF] at h; rw [if_neg h1, if_neg h2, if_neg h3, if_neg h4, if_pos h5] at h; simp at h
    have e : uintF (c :: r) most = (0, valL (r.take c.toNat), r.drop c.toNat) := by simp only [uintF]; rw [if_neg h1, if_neg h2, if_neg h3, if_neg h4, if_neg h5]
    rw [e]
    refine ⟨?_, by simp only; omega, by simp only; omega⟩
    simp only
    have hl : (r.take c.toNat).length = c.toNat := by rw [List.length_take]; omega
    have hh : ∀ d r', r.take c.toNat = d :: r' → d ≠ 0 := fun d r' e0 h0 => h3 (by rw [e0, h0]; rfl)
    have hc := cnt_val _ (by omega) hh
    have hd := ndigs_val _ (by omega) hh
    unfold numL
    rw [hd, hc, hl]
    rw [List.cons_append, List.take_append_drop]
    congr 1
    apply UInt8.toNat_inj.1
    simp

theorem bytesF_back (l : List UInt8) (most : Int) (h : (bytesF l most).1 = 0) : l = bytesL (bytesF l most).2.1 ++ (bytesF l most).2.2 ∧ ((bytesF l most).2.1.length : Int) ≤ most := by
  have hb := uintF_back l most
  unfold bytesF at h ⊢
  generalize hu : uintF l most = u at *
  obtain ⟨e, n, r⟩ := u
  simp only at h hb ⊢
  by_cases h1 : e ≠ 0
  · rw [if_pos h1] at h
    exact absurd h h1
  · rw [if_neg h1] at h ⊢
    by_cases h2 : r.length < n
    · rw [if_pos h2] at h
      simp at h
    · rw [if_neg h2]
      have := hb (by omega)
      have hl : (r.take n).length = n := by rw [List.length_take]; omega
      refine ⟨?_, by simp only; omega⟩
      simp only
      unfold bytesL
      rw [hl, List.append_assoc, List.take_append_drop]
      exact this.1

theorem flagF_back (l : List UInt8) (h : (flagF l).1 = 0) : l = flagL (flagF l).2.1 ++ (flagF l).2.2 := by
  cases l with
  | nil => simp [flagF] at h
  | cons x r =>
    by_cases h1 : 1 < x.toNat
    · simp only [flagF] at h; rw [if_pos h1] at h; simp at h
    · have e : flagF (x :: r) = (0, x == 1, r) := by simp only [flagF]; rw [if_neg h1]
      rw [e]
      simp only [flagL]
      rcases Nat.eq_zero_or_pos x.toNat with h0 | h0
      · obtain rfl : x = 0 := UInt8.toNat_inj.1 (by simpa using h0)
        rfl
      · obtain rfl : x = 1 := UInt8.toNat_inj.1 (by simp; omega)
        rfl

end Go.Proofs.YtdjaemobfbbkoaaDoor

namespace Go.Proofs.YtdjaemobfbbkoaaDoor
open Go.RowKit

/-- A signature that is none. -/
def zSig : Value := .agg #[.int .i64 0, .slice none 0 0, .slice none 0 0]

set_option maxRecDepth 100000 in
set_option maxHeartbeats 400000 in
theorem mread_arg (size height : Int) (p : Option Addr) (m c : Nat) (w : World) (hb : mcanB size height = false) :
    Calls Tryd.prog 16 #[.int .i64 size, .int .i64 height, .slice p m c] w fun e w' => e = .returned (.tuple #[zSig, .slice none 0 0, .int .i64 1]) ∧ Below w.heap.size w w' := by
  have hC := fun w' => mcan_any size height w'
  rw [hb] at hC
  have bA := (Below.refl _ w).alloc (Nat.le_refl _) (.cells #[.int .i64 0, .slice none 0 0, .slice none 0 0] 30)
  have g1 := heap_alloc_new w (.cells #[.int .i64 0, .slice none 0 0, .slice none 0 0] 30)
  go_enter Tryd.func16, Tryd.ntmps16
  go_wp2_with fail
  refine (hC _).mono ?_
  rintro e w1 ⟨rfl, hw⟩
  rw [← hw] at bA g1
  clear hw hC
  have x0 : w1.cell? ⟨w.heap.size, 0, none⟩ = some (.int .i64 0) := by rw [cell_of_row _ _ 0 _ _ _ g1]; rfl
  have x1 : w1.cell? ⟨w.heap.size, 1, none⟩ = some (.slice none 0 0) := by rw [cell_of_row _ _ 1 _ _ _ g1]; rfl
  have x2 : w1.cell? ⟨w.heap.size, 2, none⟩ = some (.slice none 0 0) := by rw [cell_of_row _ _ 2 _ _ _ g1]; rfl
  have y0 : w1.frozen? ⟨w.heap.size, 0, none⟩ = false := by simp [World.frozen?, g1]
  have y1 : w1.frozen? ⟨w.heap.size, 1, none⟩ = false := by simp [World.frozen?, g1]
  have y2 : w1.frozen? ⟨w.heap.size, 2, none⟩ = false := by simp [World.frozen?, g1]
  have hon : Only w.heap.size w1 (((w1.setCell ⟨w.heap.size, 0, none⟩ (.int .i64 0)).setCell ⟨w.heap.size, 1, none⟩ (.slice none 0 0)).setCell ⟨w.heap.size, 2, none⟩ (.slice none 0 0)) := (((Only.refl _ w1).setCell 0 _).setCell 1 _).setCell 2 _
  have bf := bA.trans (hon.below (Nat.le_refl _))
  go_wp2
  refine bodyPost_ret (v := .tuple #[zSig, .slice none 0 0, .int .i64 1]) ?_ rfl ?_
  · simp only [results, Tryd.results16]
    go_simp
    rfl
  · exact ⟨rfl, bf⟩

set_option maxRecDepth 100000 in
set_option maxHeartbeats 1000000 in
theorem rmread_arg (size height : Int) (p : Option Addr) (m c : Nat) (w : World) (hb : mcanB size height = false) :
    Calls Tryd.prog 17 #[.int .i64 size, .int .i64 height, .slice p m c] w fun e w' => e = .returned (.tuple #[zSig, .slice none 0 0, .int .i64 1]) ∧ Below w.heap.size w w' := by
  have hc : size < 1 ∨ (1 ≤ size ∧ 32 < size) ∨ (1 ≤ size ∧ size ≤ 32 ∧ height < 0) ∨ (1 ≤ size ∧ size ≤ 32 ∧ 0 ≤ height ∧ 8 < height) := by
    simp [mcanB] at hb
    omega
  clear hb
  have bA := (Below.refl _ w).alloc (Nat.le_refl _) (.cells #[.int .i64 0, .slice none 0 0, .slice none 0 0] 30)
  have g1 := heap_alloc_new w (.cells #[.int .i64 0, .slice none 0 0, .slice none 0 0] 30)
  go_enter Tryd.func17, Tryd.ntmps17
  rcases hc with h1 | ⟨h1, h2⟩ | ⟨h1, h2, h3⟩ | ⟨h1, h2, h3, h4⟩
  all_goals
    go_wp2
    refine bodyPost_ret (v := .tuple #[zSig, .slice none 0 0, .int .i64 1]) ?_ rfl ?_
    · simp only [results, Tryd.results17]
      go_simp
      rfl
    · exact ⟨rfl, bA⟩

theorem rows_flat (n : Nat) (R : List UInt8) (k : Nat) (hk : k * n ≤ R.length) : ((List.range k).map (rowB n R)).flatten ++ R.drop (k * n) = R := by
  induction k with
  | zero => simp
  | succ k ih =>
    have h2 : k * n + n ≤ R.length := by rw [Nat.succ_mul] at hk; exact hk
    have hi := ih (by omega)
    rw [List.range_succ, List.map_append, List.flatten_append, List.append_assoc]
    have e : ([k].map (rowB n R)).flatten ++ R.drop ((k + 1) * n) = R.drop (k * n) := by
      simp only [List.map_cons, List.map_nil, List.flatten_cons, List.flatten_nil, List.append_nil, rowB]
      rw [← rowB_next, List.take_append_drop]
    rw [e]
    exact hi

theorem uintF_none (l : List UInt8) (most : Int) (h : (uintF l most).1 ≠ 0) : (uintF l most).2.2 = [] := by
  cases l with
  | nil => rfl
  | cons c r =>
    simp only [uintF] at h ⊢
    by_cases h1 : 8 < c.toNat
    · rw [if_pos h1]
    by_cases h2 : r.length < c.toNat
    · rw [if_neg h1, if_pos h2]
    by_cases h3 : (r.take c.toNat).head? = some 0
    · rw [if_neg h1, if_neg h2, if_pos h3]
    by_cases h4 : 4611686018427387904 < valL (r.take c.toNat)
    · rw [if_neg h1, if_neg h2, if_neg h3, if_pos h4]
    by_cases h5 : most < (valL (r.take c.toNat) : Int)
    · rw [if_neg h1, if_neg h2, if_neg h3, if_neg h4, if_pos h5]
    rw [if_neg h1, if_neg h2, if_neg h3, if_neg h4, if_neg h5] at h
    exact absurd rfl h

/-- The row that the document takes is the row of those bytes. -/
theorem tk_row (n : Nat) (r : List UInt8) (j : Nat) (hj : (j + 1) * n ≤ r.length) : tkO n (tkS n r 0 j).2.1 (tkS n r 0 j).2.2 = rowB n r j := by
  have h2 : j * n + n ≤ r.length := by rw [Nat.succ_mul] at hj; exact hj
  rw [tkS_ok n r j (by omega)]
  unfold tkO rowB
  rw [if_pos]
  refine ⟨rfl, ?_⟩
  simp only [List.length_drop]
  omega

/-- Both Reads, told by plain words. -/
theorem reads_both (size height : Int) (b : List UInt8) (hsz : b.length ≤ 140737488355000) :
    (∃ er : Int, er ≠ 0 ∧ (∀ v w, HB w v b → Calls Tryd.prog 16 #[.int .i64 size, .int .i64 height, v] w fun e w' => e = .returned (.tuple #[zSig, .slice none 0 0, .int .i64 er]) ∧ Below w.heap.size w w') ∧ (∀ v w, HB w v b → Calls Tryd.prog 17 #[.int .i64 size, .int .i64 height, v] w fun e w' => e = .returned (.tuple #[zSig, .slice none 0 0, .int .i64 er]) ∧ Below w.heap.size w w')) ∨
    (∃ (idx : Int) (ls ps : List (List UInt8)) (R : List UInt8), wrF [] idx ls ps ++ R = b ∧ (∀ v w, HB w v b → Calls Tryd.prog 16 #[.int .i64 size, .int .i64 height, v] w fun e w' => ∃ x y p c, e = .returned (.tuple #[.agg #[.int .i64 idx, x, y], .slice p R.length c, .int .i64 0]) ∧ PA w' x ls ∧ PA w' y ps ∧ HB w' (.slice p R.length c) R ∧ Below w.heap.size w w') ∧ (∀ v w, HB w v b → Calls Tryd.prog 17 #[.int .i64 size, .int .i64 height, v] w fun e w' => ∃ x y p c, e = .returned (.tuple #[.agg #[.int .i64 idx, x, y], .slice p R.length c, .int .i64 0]) ∧ PA w' x ls ∧ PA w' y ps ∧ HB w' (.slice p R.length c) R ∧ Below w.heap.size w w')) := by
  cases hcan : mcanB size height with
  | false =>
    refine Or.inl ⟨1, by decide, fun v w hv => ?_, fun v w hv => ?_⟩
    · obtain ⟨p, c, rfl⟩ := hv.shape
      exact mread_arg size height p _ c w hcan
    · obtain ⟨p, c, rfl⟩ := hv.shape
      exact rmread_arg size height p _ c w hcan
  | true =>
    simp [mcanB] at hcan
    obtain ⟨n, rfl⟩ : ∃ n : Nat, size = (n : Int) := ⟨size.toNat, by omega⟩
    obtain ⟨h, rfl⟩ : ∃ h : Nat, height = (h : Int) := ⟨height.toNat, by omega⟩
    have hn : 1 ≤ n := by omega
    have hn2 : n ≤ 32 := by omega
    have hh : h ≤ 8 := by omega
    clear hcan
    obtain ⟨M, hM⟩ : ∃ M, wrap64 (wrap64 ((2 : Int) ^ h) - 1) = M := ⟨_, rfl⟩
    obtain ⟨ue, un, r, hU⟩ : ∃ ue un r, uintF b M = (ue, un, r) := ⟨_, _, _, rfl⟩
    have herr : ue ≠ 0 → r = [] := fun h0 => by
      have := uintF_none b M (by rw [hU]; exact h0)
      rw [hU] at this
      exact this
    have hback : ue = 0 → b = numL un ++ r ∧ un ≤ 4611686018427387904 := fun h0 => by
      have := uintF_back b M (by rw [hU]; exact h0)
      rw [hU] at this
      exact ⟨this.1, this.2.1⟩
    have hR : ue = 0 → r.length ≤ b.length ∧ r = b.drop (b.length - r.length) := fun h0 => by
      have hb := (hback h0).1
      have hl : b.length = (numL un).length + r.length := by rw [hb, List.length_append]
      refine ⟨by omega, ?_⟩
      rw [show b.length - r.length = (numL un).length by omega, hb, List.drop_left]
    have hrl : r.length ≤ 140737488355000 := by
      by_cases h0 : ue = 0
      · have := (hR h0).1
        omega
      · rw [herr h0]; simp
    have hTk : ∀ (j g : Nat) (w : World), XR w g ((fun j => (tkS n r ue j).2.1) j) ((fun j => (tkS n r ue j).2.2) j) → Calls Tryd.prog 37 #[.pointer (some ⟨g, 0, none⟩), .int .i64 (n : Int)] w fun x w' => ∃ p c, x = .returned (.slice p ((fun j => tkO n (tkS n r ue j).2.1 (tkS n r ue j).2.2) j).length c) ∧ HBN w' g (.slice p ((fun j => tkO n (tkS n r ue j).2.1 (tkS n r ue j).2.2) j).length c) ((fun j => tkO n (tkS n r ue j).2.1 (tkS n r ue j).2.2) j) ∧ XR w' g ((fun j => (tkS n r ue j).2.1) (j + 1)) ((fun j => (tkS n r ue j).2.2) (j + 1)) ∧ Only g w w' ∧ TB w' (.slice p ((fun j => tkO n (tkS n r ue j).2.1 (tkS n r ue j).2.2) j).length c) := by
      intro j g w hx
      exact xtake_all g _ _ n w hx (tkS_err n r ue herr j) (by have := tkS_short n r ue j; omega)
    have hA := fun v w hv => mread_any n h v b M ue un r w hM hU (r.drop ((4 * n + 5) * n)) ((r.drop ((4 * n + 5) * n)).drop (h * n)) rfl rfl hR hv hsz hn hn2 hh
    have hB := fun v w hv => rmread_any n h v b M ue un r w hM hU hv hsz hn hn2 hh (fun j => (tkS n r ue j).2.1) (fun j => tkO n (tkS n r ue j).2.1 (tkS n r ue j).2.2) (fun j => (tkS n r ue j).2.2) rfl rfl hTk
    by_cases h0 : ue = 0
    · subst h0
      obtain ⟨hb1, hb2⟩ := hback rfl
      by_cases hs : r.length < (4 * n + 5 + h) * n
      · refine Or.inl ⟨3, by decide, fun v w hv => ?_, fun v w hv => ?_⟩
        · exact (hA v w hv).mono fun e w' ⟨_, h2, _, h4⟩ => ⟨h2 rfl hs, h4⟩
        · have e3 : (tkS n r 0 (4 * n + 5 + h)).2.2 = 3 := tkS_few n r _ hs
          refine (hB v w hv).mono fun e w' ⟨_, h2, h4⟩ => ⟨?_, h4⟩
          have := h2 (by simp only [e3]; decide)
          simp only [e3] at this
          exact this
      · have hlong : (4 * n + 5) * n + h * n ≤ r.length := by rw [← Nat.add_mul]; omega
        have hok := tkS_ok n r (4 * n + 5 + h) (by omega)
        have e1 : (tkS n r 0 (4 * n + 5 + h)).2.2 = 0 := by rw [hok]
        have e2 : (tkS n r 0 (4 * n + 5 + h)).2.1 = (r.drop ((4 * n + 5) * n)).drop (h * n) := by rw [hok, List.drop_drop, ← Nat.add_mul]
        have e3 : (List.range (4 * n + 5)).map (fun j => tkO n (tkS n r 0 j).2.1 (tkS n r 0 j).2.2) = (List.range (4 * n + 5)).map (rowB n r) := by
          refine List.map_congr_left fun j hj => ?_
          have hj2 := List.mem_range.1 hj
          exact tk_row n r j (by have := Nat.mul_le_mul_right n (show j + 1 ≤ 4 * n + 5 by omega); omega)
        have e4 : (List.range h).map (fun j => tkO n (tkS n r 0 (4 * n + 5 + j)).2.1 (tkS n r 0 (4 * n + 5 + j)).2.2) = (List.range h).map (rowB n (r.drop ((4 * n + 5) * n))) := by
          refine List.map_congr_left fun j hj => ?_
          have hj2 := List.mem_range.1 hj
          rw [tk_row n r (4 * n + 5 + j) (by have := Nat.mul_le_mul_right n (show 4 * n + 5 + j + 1 ≤ 4 * n + 5 + h by omega); omega)]
          unfold rowB
          rw [List.drop_drop, ← Nat.add_mul]
        refine Or.inr ⟨(un : Int), (List.range (4 * n + 5)).map (rowB n r), (List.range h).map (rowB n (r.drop ((4 * n + 5) * n))), (r.drop ((4 * n + 5) * n)).drop (h * n), ?_, fun v w hv => ?_, fun v w hv => ?_⟩
        · have hc : clampN (un : Int) = un := by unfold clampN; omega
          unfold wrF
          rw [hc, List.nil_append, List.append_assoc, List.append_assoc, rows_flat n _ h (by rw [List.length_drop]; omega), rows_flat n r _ (by omega), ← hb1]
        · exact (hA v w hv).mono fun e w' ⟨_, _, h3, h4⟩ => by
            obtain ⟨x, y, p, c, q1, q2, q3, q4⟩ := h3 rfl hs
            exact ⟨x, y, p, c, q1, q2.pa, q3.pa, q4, h4⟩
        · refine (hB v w hv).mono fun e w' ⟨h1, _, h4⟩ => ?_
          obtain ⟨x, y, p, c, q1, q2, q3, q4⟩ := h1 e1
          have q2' := q2.pa
          have q3' := q3.pa
          rw [e3] at q2'
          rw [e4] at q3'
          simp only [e2] at q1 q4
          exact ⟨x, y, p, c, q1, q2', q3', q4, h4⟩
    · refine Or.inl ⟨ue, h0, fun v w hv => ?_, fun v w hv => ?_⟩
      · exact (hA v w hv).mono fun e w' ⟨h1, _, _, h4⟩ => ⟨h1 h0, h4⟩
      · have e3 : (tkS n r ue (4 * n + 5 + h)).2.2 = ue := tkS_bad n r ue h0 _
        refine (hB v w hv).mono fun e w' ⟨_, h2, h4⟩ => ⟨?_, h4⟩
        have := h2 (by simp only [e3]; exact h0)
        simp only [e3] at this
        exact this

end Go.Proofs.YtdjaemobfbbkoaaDoor
