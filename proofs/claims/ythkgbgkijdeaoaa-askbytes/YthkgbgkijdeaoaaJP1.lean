/- What this text proves: plain facts: what ask.Encode writes is what ask.Decode reads, and back (no walk). (By program: mkakplain.py.) What this text proves: plain facts: what ask.Decode reads is what ask.Encode writes (no walk). (By program: mkakplain.py.) What this text proves: the walk of ask.Encode over this program told by one contract; plain facts: there and back, whatever the kind. (By program: mkakall.py.) -/
import Derived.Test.YthkgbgkijdeaoaaJAkEncAny
import Derived.Test.YthkgbgkijdeaoaaJK1
namespace Go.Proofs.Ythkgbgkijdeaoaa
open Go.RowKit

/-- A request, but for its kind. -/
def apOf (fr to ti ep ix li : Int) (so : Bool) (id : List UInt8) (bs : List (List UInt8 × List UInt8)) : AP := ⟨id, fr.toNat, to.toNat, ti.toNat, so, ep.toNat, ix.toNat, li.toNat, bs⟩

theorem blank_zero {fr to ti ep ix li : Int} {so : Bool} {n m : Nat} (h : blankB fr to ti ep ix li so n m = true) : fr = 0 ∧ to = 0 ∧ ti = 0 ∧ ep = 0 ∧ ix = 0 ∧ li = 0 ∧ so = false ∧ n = 0 ∧ m = 0 := by
  unfold blankB at h
  simp only [Bool.and_eq_true, beq_iff_eq, decide_eq_true_eq, Bool.not_eq_true'] at h
  obtain ⟨⟨a, b, c, d, e, f⟩, g, i, j⟩ := h
  exact ⟨a, b, c, d, e, f, g, i, j⟩
theorem blank_ok : blankB 0 0 0 0 0 0 false 0 0 = true := rfl

theorem num_put {n m : Int} (h : outN n m = false) (hm : m ≤ 4611686018427387904) (r : List UInt8) : uintF (numL (clampN n) ++ r) m = (0, n.toNat, r) := by
  obtain ⟨h0, h1⟩ := outN_false h
  have e : clampN n = n.toNat := by unfold clampN; omega
  rw [e]
  exact uintF_put n.toNat r m (by omega) (by omega)
theorem num_end {n m : Int} (h : outN n m = false) (hm : m ≤ 4611686018427387904) : uintF (numL (clampN n)) m = (0, n.toNat, []) := by
  have := num_put h hm []
  rwa [List.append_nil] at this
theorem text_put {l : List UInt8} (h : outT l.length = false) (r : List UInt8) : bytesF (bytesL l ++ r) 24 = (0, l, r) := by
  have := outT_false h
  exact bytesF_put l r 24 (by omega) (by omega)
theorem andE_zz : andE 0 0 = 0 := rfl
theorem andE_0 (x : Int) : andE 0 x = x := rfl

theorem decF_put (k : Nat) (r : List UInt8) (d : AP) (hk : k ≤ 10) (h : decB k r = (0, [], d)) : decF (numL (clampN (k : Int)) ++ r) = (0, k, d) := by
  have e : clampN (k : Int) = k := by unfold clampN; omega
  have hu := uintF_put k r 2147483648 (by omega) (by omega)
  rw [e]
  unfold decF
  rw [hu]
  show (if (0 : Int) = 0 then decK k r else _) = _
  rw [if_pos rfl]
  unfold decK
  rw [h]
  rfl

theorem bw_put (bs : List (List UInt8 × List UInt8)) (h : badB bs = false) : crS 24 48 (wrL bs) = (bs, [], 0) := by
  obtain ⟨h1, h2⟩ := badB_false h
  have h3 := bulk_le bs h2
  have := cr_back 24 48 bs [] (fun x hx => by have := h2 x hx; omega) (by omega) h1
  rwa [List.append_nil] at this

theorem put1 (fr to ti ep ix li : Int) (so : Bool) (id : List UInt8) (bs : List (List UInt8 × List UInt8)) (h : ok1 fr to ti ep ix li so id bs = true) : decB 1 (wrL bs) = (0, [], apOf fr to ti ep ix li so id bs) ∧ 0 ≤ fr ∧ 0 ≤ to ∧ 0 ≤ ti ∧ 0 ≤ ep ∧ 0 ≤ ix ∧ 0 ≤ li := by
  obtain ⟨hb, hz⟩ := Bool.not_or_false h
  obtain ⟨z2, z3, z4, z6, z7, z8, z5, z1, z9⟩ := blank_zero hz
  simp only [Bool.or_eq_false_iff] at hb
  obtain ⟨_, c0⟩ := hb
  subst z2
  subst z3
  subst z4
  subst z6
  subst z7
  subst z8
  subst z5
  obtain rfl := List.eq_nil_of_length_eq_zero z1
  have r0 := bw_put bs c0
  refine ⟨?_, by omega, by omega, by omega, by omega, by omega, by omega⟩
  show dec1 _ = _
  simp only [dec1, r0]
  rfl

theorem put2 (fr to ti ep ix li : Int) (so : Bool) (id : List UInt8) (bs : List (List UInt8 × List UInt8)) (h : ok2 fr to ti ep ix li so id bs = true) : decB 2 (numL (clampN ti)) = (0, [], apOf fr to ti ep ix li so id bs) ∧ 0 ≤ fr ∧ 0 ≤ to ∧ 0 ≤ ti ∧ 0 ≤ ep ∧ 0 ≤ ix ∧ 0 ≤ li := by
  obtain ⟨hb, hz⟩ := Bool.not_or_false h
  obtain ⟨z2, z3, z4, z6, z7, z8, z5, z1, z9⟩ := blank_zero hz
  simp only [Bool.or_eq_false_iff] at hb
  obtain ⟨_, c0⟩ := hb
  have g4 := (outN_false c0).1
  subst z2
  subst z3
  subst z6
  subst z7
  subst z8
  subst z5
  obtain rfl := List.eq_nil_of_length_eq_zero z1
  obtain rfl := List.eq_nil_of_length_eq_zero z9
  have r0 := num_end c0 (by decide)
  refine ⟨?_, by omega, by omega, by omega, by omega, by omega, by omega⟩
  show dec2 _ = _
  simp only [dec2, r0]
  rfl

theorem put3 (fr to ti ep ix li : Int) (so : Bool) (id : List UInt8) (bs : List (List UInt8 × List UInt8)) (h : ok3 fr to ti ep ix li so id bs = true) : decB 3 (bytesL id ++ (numL (clampN to))) = (0, [], apOf fr to ti ep ix li so id bs) ∧ 0 ≤ fr ∧ 0 ≤ to ∧ 0 ≤ ti ∧ 0 ≤ ep ∧ 0 ≤ ix ∧ 0 ≤ li := by
  obtain ⟨hb, hz⟩ := Bool.not_or_false h
  obtain ⟨z2, z3, z4, z6, z7, z8, z5, z1, z9⟩ := blank_zero hz
  simp only [Bool.or_eq_false_iff] at hb
  obtain ⟨⟨_, c0⟩, c1⟩ := hb
  have g3 := (outN_false c1).1
  subst z2
  subst z4
  subst z6
  subst z7
  subst z8
  subst z5
  obtain rfl := List.eq_nil_of_length_eq_zero z9
  have r0 := text_put c0 (numL (clampN to))
  have r1 := num_end c1 (by decide)
  refine ⟨?_, by omega, by omega, by omega, by omega, by omega, by omega⟩
  show dec3 _ = _
  simp only [dec3, r0, r1, andE_0]
  rfl

theorem put4 (fr to ti ep ix li : Int) (so : Bool) (id : List UInt8) (bs : List (List UInt8 × List UInt8)) (h : ok4 fr to ti ep ix li so id bs = true) : decB 4 (bytesL id ++ (numL (clampN ti) ++ (numL (clampN to)))) = (0, [], apOf fr to ti ep ix li so id bs) ∧ 0 ≤ fr ∧ 0 ≤ to ∧ 0 ≤ ti ∧ 0 ≤ ep ∧ 0 ≤ ix ∧ 0 ≤ li := by
  obtain ⟨hb, hz⟩ := Bool.not_or_false h
  obtain ⟨z2, z3, z4, z6, z7, z8, z5, z1, z9⟩ := blank_zero hz
  simp only [Bool.or_eq_false_iff] at hb
  obtain ⟨⟨⟨_, c0⟩, c1⟩, c2⟩ := hb
  have g4 := (outN_false c1).1
  have g3 := (outN_false c2).1
  subst z2
  subst z6
  subst z7
  subst z8
  subst z5
  obtain rfl := List.eq_nil_of_length_eq_zero z9
  have r0 := text_put c0 (numL (clampN ti) ++ (numL (clampN to)))
  have r1 := num_put c1 (by decide) (numL (clampN to))
  have r2 := num_end c2 (by decide)
  refine ⟨?_, by omega, by omega, by omega, by omega, by omega, by omega⟩
  show dec4 _ = _
  simp only [dec4, r0, r1, r2, andE_0]
  rfl

theorem put5 (fr to ti ep ix li : Int) (so : Bool) (id : List UInt8) (bs : List (List UInt8 × List UInt8)) (h : ok5 fr to ti ep ix li so id bs = true) : decB 5 (bytesL id ++ (numL (clampN fr) ++ (numL (clampN to)))) = (0, [], apOf fr to ti ep ix li so id bs) ∧ 0 ≤ fr ∧ 0 ≤ to ∧ 0 ≤ ti ∧ 0 ≤ ep ∧ 0 ≤ ix ∧ 0 ≤ li := by
  obtain ⟨hb, hz⟩ := Bool.not_or_false h
  obtain ⟨z2, z3, z4, z6, z7, z8, z5, z1, z9⟩ := blank_zero hz
  simp only [Bool.or_eq_false_iff] at hb
  obtain ⟨⟨⟨_, c0⟩, c1⟩, c2⟩ := hb
  have g2 := (outN_false c1).1
  have g3 := (outN_false c2).1
  subst z4
  subst z6
  subst z7
  subst z8
  subst z5
  obtain rfl := List.eq_nil_of_length_eq_zero z9
  have r0 := text_put c0 (numL (clampN fr) ++ (numL (clampN to)))
  have r1 := num_put c1 (by decide) (numL (clampN to))
  have r2 := num_end c2 (by decide)
  refine ⟨?_, by omega, by omega, by omega, by omega, by omega, by omega⟩
  show dec5 _ = _
  simp only [dec5, numsG, r0, r1, r2, andE_0]
  rfl

theorem put6a (fr to ti ep ix li : Int) (id : List UInt8) (bs : List (List UInt8 × List UInt8)) (h : (!((((false || outN fr 2147483648) || outN to 2147483648) || outT id.length) || outN li 2147483648) && blankB 0 0 ti ep ix 0 false 0 bs.length) = true) : decB 6 (numL (clampN fr) ++ (numL (clampN to) ++ (flagL true ++ (bytesL id ++ (numL (clampN li)))))) = (0, [], apOf fr to ti ep ix li true id bs) ∧ 0 ≤ fr ∧ 0 ≤ to ∧ 0 ≤ ti ∧ 0 ≤ ep ∧ 0 ≤ ix ∧ 0 ≤ li := by
  obtain ⟨hb, hz⟩ := Bool.not_or_false h
  obtain ⟨z2, z3, z4, z6, z7, z8, z5, z1, z9⟩ := blank_zero hz
  simp only [Bool.or_eq_false_iff] at hb
  obtain ⟨⟨⟨⟨_, c0⟩, c1⟩, c2⟩, c3⟩ := hb
  have g2 := (outN_false c0).1
  have g3 := (outN_false c1).1
  have g8 := (outN_false c3).1
  subst z4
  subst z6
  subst z7
  obtain rfl := List.eq_nil_of_length_eq_zero z9
  have r0 := num_put c0 (by decide) (numL (clampN to) ++ (flagL true ++ (bytesL id ++ (numL (clampN li)))))
  have r1 := num_put c1 (by decide) (flagL true ++ (bytesL id ++ (numL (clampN li))))
  have r2 := flagF_put true (bytesL id ++ (numL (clampN li)))
  have r3 := text_put c2 (numL (clampN li))
  have r4 := num_end c3 (by decide)
  refine ⟨?_, by omega, by omega, by omega, by omega, by omega, by omega⟩
  show dec6 _ = _
  have e6 : (flagF (numsG 2 (numL (clampN fr) ++ (numL (clampN to) ++ (flagL true ++ (bytesL id ++ (numL (clampN li))))))).2.1).2.1 = true := by simp only [numsG, r0, r1, r2]
  unfold dec6
  rw [if_pos e6]
  simp only [dec6a, numsG, r0, r1, r2, r3, r4, andE_0]
  rfl

theorem put6b (fr to ti ep ix li : Int) (id : List UInt8) (bs : List (List UInt8 × List UInt8)) (h : (!(((false || outN fr 2147483648) || outN to 2147483648) || outN li 2147483648) && blankB 0 0 ti ep ix 0 false id.length bs.length) = true) : decB 6 (numL (clampN fr) ++ (numL (clampN to) ++ (flagL false ++ (numL (clampN li))))) = (0, [], apOf fr to ti ep ix li false id bs) ∧ 0 ≤ fr ∧ 0 ≤ to ∧ 0 ≤ ti ∧ 0 ≤ ep ∧ 0 ≤ ix ∧ 0 ≤ li := by
  obtain ⟨hb, hz⟩ := Bool.not_or_false h
  obtain ⟨z2, z3, z4, z6, z7, z8, z5, z1, z9⟩ := blank_zero hz
  simp only [Bool.or_eq_false_iff] at hb
  obtain ⟨⟨⟨_, c0⟩, c1⟩, c2⟩ := hb
  have g2 := (outN_false c0).1
  have g3 := (outN_false c1).1
  have g8 := (outN_false c2).1
  subst z4
  subst z6
  subst z7
  obtain rfl := List.eq_nil_of_length_eq_zero z1
  obtain rfl := List.eq_nil_of_length_eq_zero z9
  have r0 := num_put c0 (by decide) (numL (clampN to) ++ (flagL false ++ (numL (clampN li))))
  have r1 := num_put c1 (by decide) (flagL false ++ (numL (clampN li)))
  have r2 := flagF_put false (numL (clampN li))
  have r3 := num_end c2 (by decide)
  refine ⟨?_, by omega, by omega, by omega, by omega, by omega, by omega⟩
  show dec6 _ = _
  have e6 : (flagF (numsG 2 (numL (clampN fr) ++ (numL (clampN to) ++ (flagL false ++ (numL (clampN li)))))).2.1).2.1 = false := by simp only [numsG, r0, r1, r2]
  unfold dec6
  rw [if_neg (by rw [e6]; simp)]
  simp only [dec6b, numsG, r0, r1, r2, r3, andE_0]
  rfl

theorem put7 (fr to ti ep ix li : Int) (so : Bool) (id : List UInt8) (bs : List (List UInt8 × List UInt8)) (h : ok7 fr to ti ep ix li so id bs = true) : decB 7 (numL (clampN fr) ++ (numL (clampN to) ++ (numL (clampN ep) ++ (numL (clampN ix) ++ (numL (clampN li)))))) = (0, [], apOf fr to ti ep ix li so id bs) ∧ 0 ≤ fr ∧ 0 ≤ to ∧ 0 ≤ ti ∧ 0 ≤ ep ∧ 0 ≤ ix ∧ 0 ≤ li := by
  obtain ⟨hb, hz⟩ := Bool.not_or_false h
  obtain ⟨z2, z3, z4, z6, z7, z8, z5, z1, z9⟩ := blank_zero hz
  simp only [Bool.or_eq_false_iff] at hb
  obtain ⟨⟨⟨⟨⟨_, c0⟩, c1⟩, c2⟩, c3⟩, c4⟩ := hb
  have g2 := (outN_false c0).1
  have g3 := (outN_false c1).1
  have g6 := (outN_false c2).1
  have g7 := (outN_false c3).1
  have g8 := (outN_false c4).1
  subst z4
  subst z5
  obtain rfl := List.eq_nil_of_length_eq_zero z1
  obtain rfl := List.eq_nil_of_length_eq_zero z9
  have r0 := num_put c0 (by decide) (numL (clampN to) ++ (numL (clampN ep) ++ (numL (clampN ix) ++ (numL (clampN li)))))
  have r1 := num_put c1 (by decide) (numL (clampN ep) ++ (numL (clampN ix) ++ (numL (clampN li))))
  have r2 := num_put c2 (by decide) (numL (clampN ix) ++ (numL (clampN li)))
  have r3 := num_put c3 (by decide) (numL (clampN li))
  have r4 := num_end c4 (by decide)
  refine ⟨?_, by omega, by omega, by omega, by omega, by omega, by omega⟩
  show dec7 _ = _
  simp only [dec7, numsG, r0, r1, r2, r3, r4, andE_0]
  rfl

theorem put8 (fr to ti ep ix li : Int) (so : Bool) (id : List UInt8) (bs : List (List UInt8 × List UInt8)) (h : ok8 fr to ti ep ix li so id bs = true) : decB 8 ([]) = (0, [], apOf fr to ti ep ix li so id bs) ∧ 0 ≤ fr ∧ 0 ≤ to ∧ 0 ≤ ti ∧ 0 ≤ ep ∧ 0 ≤ ix ∧ 0 ≤ li := by
  obtain ⟨hb, hz⟩ := Bool.not_or_false h
  obtain ⟨z2, z3, z4, z6, z7, z8, z5, z1, z9⟩ := blank_zero hz
  subst z2
  subst z3
  subst z4
  subst z6
  subst z7
  subst z8
  subst z5
  obtain rfl := List.eq_nil_of_length_eq_zero z1
  obtain rfl := List.eq_nil_of_length_eq_zero z9
  refine ⟨?_, by omega, by omega, by omega, by omega, by omega, by omega⟩
  rfl

theorem put9 (fr to ti ep ix li : Int) (so : Bool) (id : List UInt8) (bs : List (List UInt8 × List UInt8)) (h : ok9 fr to ti ep ix li so id bs = true) : decB 9 ([]) = (0, [], apOf fr to ti ep ix li so id bs) ∧ 0 ≤ fr ∧ 0 ≤ to ∧ 0 ≤ ti ∧ 0 ≤ ep ∧ 0 ≤ ix ∧ 0 ≤ li := by
  obtain ⟨hb, hz⟩ := Bool.not_or_false h
  obtain ⟨z2, z3, z4, z6, z7, z8, z5, z1, z9⟩ := blank_zero hz
  subst z2
  subst z3
  subst z4
  subst z6
  subst z7
  subst z8
  subst z5
  obtain rfl := List.eq_nil_of_length_eq_zero z1
  obtain rfl := List.eq_nil_of_length_eq_zero z9
  refine ⟨?_, by omega, by omega, by omega, by omega, by omega, by omega⟩
  rfl

theorem put10 (fr to ti ep ix li : Int) (so : Bool) (id : List UInt8) (bs : List (List UInt8 × List UInt8)) (h : ok10 fr to ti ep ix li so id bs = true) : decB 10 (bytesL id ++ (numL (clampN fr) ++ (numL (clampN to) ++ (numL (clampN li))))) = (0, [], apOf fr to ti ep ix li so id bs) ∧ 0 ≤ fr ∧ 0 ≤ to ∧ 0 ≤ ti ∧ 0 ≤ ep ∧ 0 ≤ ix ∧ 0 ≤ li := by
  obtain ⟨hb, hz⟩ := Bool.not_or_false h
  obtain ⟨z2, z3, z4, z6, z7, z8, z5, z1, z9⟩ := blank_zero hz
  simp only [Bool.or_eq_false_iff] at hb
  obtain ⟨⟨⟨⟨_, c0⟩, c1⟩, c2⟩, c3⟩ := hb
  have g2 := (outN_false c1).1
  have g3 := (outN_false c2).1
  have g8 := (outN_false c3).1
  subst z4
  subst z6
  subst z7
  subst z5
  obtain rfl := List.eq_nil_of_length_eq_zero z9
  have r0 := text_put c0 (numL (clampN fr) ++ (numL (clampN to) ++ (numL (clampN li))))
  have r1 := num_put c1 (by decide) (numL (clampN to) ++ (numL (clampN li)))
  have r2 := num_put c2 (by decide) (numL (clampN li))
  have r3 := num_end c3 (by decide)
  refine ⟨?_, by omega, by omega, by omega, by omega, by omega, by omega⟩
  show dec10 _ = _
  simp only [dec10, numsG, r0, r1, r2, r3, andE_0]
  rfl

end Go.Proofs.Ythkgbgkijdeaoaa

namespace Go.Proofs.Ythkgbgkijdeaoaa
open Go.RowKit

theorem outN_nat {n : Nat} {m : Int} (h : (n : Int) ≤ m) : outN (n : Int) m = false := by
  unfold outN
  rw [decide_eq_false_iff_not]
  omega
theorem outT_nat {n : Nat} (h : (n : Int) ≤ 24) : outT n = false := by
  unfold outT
  rw [decide_eq_false_iff_not]
  omega
theorem num_back (l : List UInt8) (m : Int) (h : (uintF l m).1 = 0) : l = numL (clampN ((uintF l m).2.1 : Int)) ++ (uintF l m).2.2 ∧ outN ((uintF l m).2.1 : Int) m = false := by
  obtain ⟨h1, h2, h3⟩ := uintF_back l m h
  rw [clampN_nat _ h2]
  exact ⟨h1, outN_nat h3⟩
theorem text_back (l : List UInt8) (h : (bytesF l 24).1 = 0) : l = bytesL (bytesF l 24).2.1 ++ (bytesF l 24).2.2 ∧ outT (bytesF l 24).2.1.length = false := by
  obtain ⟨h1, h2⟩ := bytesF_back l 24 h
  exact ⟨h1, outT_nat h2⟩
theorem bd_back (l : List UInt8) (e : Int) : ∀ k, (bdS 24 48 l e k).2.2 = 0 → e = 0 ∧ l = binL (bdS 24 48 l e k).1 ++ (bdS 24 48 l e k).2.1 ∧ (bdS 24 48 l e k).1.any longB = false
  | 0, h => ⟨h, rfl, rfl⟩
  | k + 1, h => by
    have h' : (rdB (rdB (bdS 24 48 l e k).2.1 (bdS 24 48 l e k).2.2 24).2.2 (rdB (bdS 24 48 l e k).2.1 (bdS 24 48 l e k).2.2 24).1 48).1 = 0 := h
    obtain ⟨q1, q2⟩ := rdBz h'
    obtain ⟨q3, q4⟩ := rdBz q1
    obtain ⟨i1, i2, i3⟩ := bd_back l e k q3
    have n1 : (rdB (bdS 24 48 l e k).2.1 (bdS 24 48 l e k).2.2 24) = bytesF (bdS 24 48 l e k).2.1 24 := by rw [q3]; rfl
    have n2 : (rdB (rdB (bdS 24 48 l e k).2.1 (bdS 24 48 l e k).2.2 24).2.2 (rdB (bdS 24 48 l e k).2.1 (bdS 24 48 l e k).2.2 24).1 48) = bytesF (rdB (bdS 24 48 l e k).2.1 (bdS 24 48 l e k).2.2 24).2.2 48 := by rw [q1]; rfl
    have m1 := (bytesF_back _ 24 (n1 ▸ q1)).2
    rw [← n1] at m1
    have m2 := (bytesF_back _ 48 (n2 ▸ h')).2
    rw [← n2] at m2
    refine ⟨i1, ?_, ?_⟩
    · show l = binL ((bdS 24 48 l e k).1 ++ [_]) ++ _
      rw [binL_snoc, List.append_assoc, List.append_assoc]
      exact i2.trans (congrArg (_ ++ ·) (q4.trans (congrArg (_ ++ ·) q2)))
    · show ((bdS 24 48 l e k).1 ++ [_]).any longB = false
      rw [List.any_append, i3]
      simp only [List.any_cons, List.any_nil, longB, Bool.or_false, Bool.false_or, Bool.or_eq_false_iff, decide_eq_false_iff_not]
      omega
theorem bs_back (l : List UInt8) (h : (crS 24 48 l).2.2 = 0) : l = wrL (crS 24 48 l).1 ++ (crS 24 48 l).2.1 ∧ badB (crS 24 48 l).1 = false := by
  have h' : (bdS 24 48 (crU l).2.2 (crU l).1 (crU l).2.1).2.2 = 0 := h
  obtain ⟨h1, h2, h3⟩ := bd_back _ _ _ h'
  have hl := bdS_len 24 48 (crU l).2.2 (crU l).1 (crU l).2.1
  obtain ⟨_, h4⟩ := rdUz (show (rdU l 0 32).1 = 0 from h1)
  have m1 : ((crU l).2.1 : Int) ≤ 32 := rdU_most l 0 32 (by omega)
  change l = numL (crU l).2.1 ++ (crU l).2.2 at h4
  refine ⟨?_, ?_⟩
  · show l = (numL (bdS 24 48 (crU l).2.2 (crU l).1 (crU l).2.1).1.length ++ binL (bdS 24 48 (crU l).2.2 (crU l).1 (crU l).2.1).1) ++ (bdS 24 48 (crU l).2.2 (crU l).1 (crU l).2.1).2.1
    rw [hl, List.append_assoc, ← h2]
    exact h4
  · show (decide (32 < (bdS 24 48 (crU l).2.2 (crU l).1 (crU l).2.1).1.length) || (bdS 24 48 (crU l).2.2 (crU l).1 (crU l).2.1).1.any longB) = false
    rw [h3, hl, Bool.or_false, decide_eq_false_iff_not]
    omega

theorem back1 (l : List UInt8) (h : (decB 1 l).1 = 0) (hr : (decB 1 l).2.1 = []) : ok1 ((decB 1 l).2.2.fr : Int) (decB 1 l).2.2.to (decB 1 l).2.2.ti (decB 1 l).2.2.ep (decB 1 l).2.2.ix (decB 1 l).2.2.li (decB 1 l).2.2.so (decB 1 l).2.2.id (decB 1 l).2.2.bs = true ∧ l = wrL (decB 1 l).2.2.bs := by
  have hh : (crS 24 48 l).2.2 = 0 := h
  have m0 := hh
  have y0 := m0
  have k0 := bs_back _ y0
  have hz : (crS 24 48 l).2.1 = [] := hr
  refine ⟨?_, ?_⟩
  · show (!(false || badB (crS 24 48 l).1) && blankB 0 0 0 0 0 0 false 0 0) = true
    rw [k0.2]
    rfl
  · show l = wrL (crS 24 48 l).1
    have z0 := k0.1
    rw [hz, List.append_nil] at z0
    exact z0

theorem back2 (l : List UInt8) (h : (decB 2 l).1 = 0) (hr : (decB 2 l).2.1 = []) : ok2 ((decB 2 l).2.2.fr : Int) (decB 2 l).2.2.to (decB 2 l).2.2.ti (decB 2 l).2.2.ep (decB 2 l).2.2.ix (decB 2 l).2.2.li (decB 2 l).2.2.so (decB 2 l).2.2.id (decB 2 l).2.2.bs = true ∧ l = numL (clampN ((decB 2 l).2.2.ti : Int)) := by
  have hh : (uintF l 1125899906842624).1 = 0 := h
  have m0 := hh
  have y0 := m0
  have k0 := num_back _ _ y0
  have hz : (uintF l 1125899906842624).2.2 = [] := hr
  refine ⟨?_, ?_⟩
  · show (!(false || outN ((uintF l 1125899906842624).2.1 : Int) 1125899906842624) && blankB 0 0 0 0 0 0 false 0 0) = true
    rw [k0.2]
    rfl
  · show l = numL (clampN ((uintF l 1125899906842624).2.1 : Int))
    have z0 := k0.1
    rw [hz, List.append_nil] at z0
    exact z0

theorem back3 (l : List UInt8) (h : (decB 3 l).1 = 0) (hr : (decB 3 l).2.1 = []) : ok3 ((decB 3 l).2.2.fr : Int) (decB 3 l).2.2.to (decB 3 l).2.2.ti (decB 3 l).2.2.ep (decB 3 l).2.2.ix (decB 3 l).2.2.li (decB 3 l).2.2.so (decB 3 l).2.2.id (decB 3 l).2.2.bs = true ∧ l = bytesL (decB 3 l).2.2.id ++ (numL (clampN ((decB 3 l).2.2.to : Int))) := by
  have hh : (andE (bytesF l 24).1 (uintF (bytesF l 24).2.2 2147483648).1) = 0 := h
  obtain ⟨m0, hh⟩ := andE_z hh
  have y0 := m0
  have m1 := hh
  have y1 := m1
  have k0 := text_back _ y0
  have k1 := num_back _ _ y1
  have hz : (uintF (bytesF l 24).2.2 2147483648).2.2 = [] := hr
  refine ⟨?_, ?_⟩
  · show (!((false || outT (bytesF l 24).2.1.length) || outN ((uintF (bytesF l 24).2.2 2147483648).2.1 : Int) 2147483648) && blankB 0 0 0 0 0 0 false 0 0) = true
    rw [k0.2, k1.2]
    rfl
  · show l = bytesL (bytesF l 24).2.1 ++ (numL (clampN ((uintF (bytesF l 24).2.2 2147483648).2.1 : Int)))
    have z1 := k1.1
    rw [hz, List.append_nil] at z1
    have z0 := k0.1.trans (congrArg (_ ++ ·) z1)
    exact z0

theorem back4 (l : List UInt8) (h : (decB 4 l).1 = 0) (hr : (decB 4 l).2.1 = []) : ok4 ((decB 4 l).2.2.fr : Int) (decB 4 l).2.2.to (decB 4 l).2.2.ti (decB 4 l).2.2.ep (decB 4 l).2.2.ix (decB 4 l).2.2.li (decB 4 l).2.2.so (decB 4 l).2.2.id (decB 4 l).2.2.bs = true ∧ l = bytesL (decB 4 l).2.2.id ++ (numL (clampN ((decB 4 l).2.2.ti : Int)) ++ (numL (clampN ((decB 4 l).2.2.to : Int)))) := by
  have hh : (andE (bytesF l 24).1 (andE (uintF (bytesF l 24).2.2 1125899906842624).1 (uintF (uintF (bytesF l 24).2.2 1125899906842624).2.2 2147483648).1)) = 0 := h
  obtain ⟨m0, hh⟩ := andE_z hh
  have y0 := m0
  obtain ⟨m1, hh⟩ := andE_z hh
  have y1 := m1
  have m2 := hh
  have y2 := m2
  have k0 := text_back _ y0
  have k1 := num_back _ _ y1
  have k2 := num_back _ _ y2
  have hz : (uintF (uintF (bytesF l 24).2.2 1125899906842624).2.2 2147483648).2.2 = [] := hr
  refine ⟨?_, ?_⟩
  · show (!(((false || outT (bytesF l 24).2.1.length) || outN ((uintF (bytesF l 24).2.2 1125899906842624).2.1 : Int) 1125899906842624) || outN ((uintF (uintF (bytesF l 24).2.2 1125899906842624).2.2 2147483648).2.1 : Int) 2147483648) && blankB 0 0 0 0 0 0 false 0 0) = true
    rw [k0.2, k1.2, k2.2]
    rfl
  · show l = bytesL (bytesF l 24).2.1 ++ (numL (clampN ((uintF (bytesF l 24).2.2 1125899906842624).2.1 : Int)) ++ (numL (clampN ((uintF (uintF (bytesF l 24).2.2 1125899906842624).2.2 2147483648).2.1 : Int))))
    have z2 := k2.1
    rw [hz, List.append_nil] at z2
    have z1 := k1.1.trans (congrArg (_ ++ ·) z2)
    have z0 := k0.1.trans (congrArg (_ ++ ·) z1)
    exact z0

theorem back5 (l : List UInt8) (h : (decB 5 l).1 = 0) (hr : (decB 5 l).2.1 = []) : ok5 ((decB 5 l).2.2.fr : Int) (decB 5 l).2.2.to (decB 5 l).2.2.ti (decB 5 l).2.2.ep (decB 5 l).2.2.ix (decB 5 l).2.2.li (decB 5 l).2.2.so (decB 5 l).2.2.id (decB 5 l).2.2.bs = true ∧ l = bytesL (decB 5 l).2.2.id ++ (numL (clampN ((decB 5 l).2.2.fr : Int)) ++ (numL (clampN ((decB 5 l).2.2.to : Int)))) := by
  have hh : (andE (bytesF l 24).1 (andE (uintF (bytesF l 24).2.2 2147483648).1 (andE (uintF (uintF (bytesF l 24).2.2 2147483648).2.2 2147483648).1 0))) = 0 := h
  obtain ⟨m0, hh⟩ := andE_z hh
  have y0 := m0
  have m1 := hh
  obtain ⟨y1, m2⟩ := andE_z m1
  have y2 := (andE_z m2).1
  have k0 := text_back _ y0
  have k1 := num_back _ _ y1
  have k2 := num_back _ _ y2
  have hz : (uintF (uintF (bytesF l 24).2.2 2147483648).2.2 2147483648).2.2 = [] := hr
  refine ⟨?_, ?_⟩
  · show (!(((false || outT (bytesF l 24).2.1.length) || outN ((uintF (bytesF l 24).2.2 2147483648).2.1 : Int) 2147483648) || outN ((uintF (uintF (bytesF l 24).2.2 2147483648).2.2 2147483648).2.1 : Int) 2147483648) && blankB 0 0 0 0 0 0 false 0 0) = true
    rw [k0.2, k1.2, k2.2]
    rfl
  · show l = bytesL (bytesF l 24).2.1 ++ (numL (clampN ((uintF (bytesF l 24).2.2 2147483648).2.1 : Int)) ++ (numL (clampN ((uintF (uintF (bytesF l 24).2.2 2147483648).2.2 2147483648).2.1 : Int))))
    have z2 := k2.1
    rw [hz, List.append_nil] at z2
    have z1 := k1.1.trans (congrArg (_ ++ ·) z2)
    have z0 := k0.1.trans (congrArg (_ ++ ·) z1)
    exact z0

theorem back6a (l : List UInt8) (h : (decB 6 l).1 = 0) (hr : (decB 6 l).2.1 = []) (hf : (flagF (numsG 2 l).2.1).2.1 = true) : ok6 ((decB 6 l).2.2.fr : Int) (decB 6 l).2.2.to (decB 6 l).2.2.ti (decB 6 l).2.2.ep (decB 6 l).2.2.ix (decB 6 l).2.2.li (decB 6 l).2.2.so (decB 6 l).2.2.id (decB 6 l).2.2.bs = true ∧ l = wr6 (decB 6 l).2.2.fr (decB 6 l).2.2.to (decB 6 l).2.2.li (decB 6 l).2.2.so (decB 6 l).2.2.id := by
  have e6 : decB 6 l = dec6a l := by show dec6 l = _; unfold dec6; rw [if_pos hf]
  rw [e6] at h hr ⊢
  have hh : (andE (andE (uintF l 2147483648).1 (andE (uintF (uintF l 2147483648).2.2 2147483648).1 0)) (andE (flagF (uintF (uintF l 2147483648).2.2 2147483648).2.2).1 (andE (bytesF (flagF (uintF (uintF l 2147483648).2.2 2147483648).2.2).2.2 24).1 (uintF (bytesF (flagF (uintF (uintF l 2147483648).2.2 2147483648).2.2).2.2 24).2.2 2147483648).1))) = 0 := h
  obtain ⟨m0, hh⟩ := andE_z hh
  obtain ⟨y0, m1⟩ := andE_z m0
  have y1 := (andE_z m1).1
  obtain ⟨m2, hh⟩ := andE_z hh
  have y2 := m2
  obtain ⟨m3, hh⟩ := andE_z hh
  have y3 := m3
  have m4 := hh
  have y4 := m4
  have k0 := num_back _ _ y0
  have k1 := num_back _ _ y1
  have k2 := flagF_back _ y2
  have k3 := text_back _ y3
  have k4 := num_back _ _ y4
  have hz : (uintF (bytesF (flagF (uintF (uintF l 2147483648).2.2 2147483648).2.2).2.2 24).2.2 2147483648).2.2 = [] := hr
  have hf2 : (flagF (uintF (uintF l 2147483648).2.2 2147483648).2.2).2.1 = true := hf
  refine ⟨?_, ?_⟩
  · show (if (flagF (uintF (uintF l 2147483648).2.2 2147483648).2.2).2.1 = true then _ else _) = true
    rw [if_pos hf2]
    show (!((((false || outN ((uintF l 2147483648).2.1 : Int) 2147483648) || outN ((uintF (uintF l 2147483648).2.2 2147483648).2.1 : Int) 2147483648) || outT (bytesF (flagF (uintF (uintF l 2147483648).2.2 2147483648).2.2).2.2 24).2.1.length) || outN ((uintF (bytesF (flagF (uintF (uintF l 2147483648).2.2 2147483648).2.2).2.2 24).2.2 2147483648).2.1 : Int) 2147483648) && blankB 0 0 0 0 0 0 false 0 0) = true
    rw [k0.2, k1.2, k3.2, k4.2]
    rfl
  · show l = (if (flagF (uintF (uintF l 2147483648).2.2 2147483648).2.2).2.1 = true then _ else _)
    rw [if_pos hf2]
    show l = numL (clampN ((uintF l 2147483648).2.1 : Int)) ++ (numL (clampN ((uintF (uintF l 2147483648).2.2 2147483648).2.1 : Int)) ++ (flagL true ++ (bytesL (bytesF (flagF (uintF (uintF l 2147483648).2.2 2147483648).2.2).2.2 24).2.1 ++ (numL (clampN ((uintF (bytesF (flagF (uintF (uintF l 2147483648).2.2 2147483648).2.2).2.2 24).2.2 2147483648).2.1 : Int))))))
    rw [← hf2]
    have z4 := k4.1
    rw [hz, List.append_nil] at z4
    have z3 := k3.1.trans (congrArg (_ ++ ·) z4)
    have z2 := k2.trans (congrArg (_ ++ ·) z3)
    have z1 := k1.1.trans (congrArg (_ ++ ·) z2)
    have z0 := k0.1.trans (congrArg (_ ++ ·) z1)
    exact z0

theorem back6b (l : List UInt8) (h : (decB 6 l).1 = 0) (hr : (decB 6 l).2.1 = []) (hf : (flagF (numsG 2 l).2.1).2.1 = false) : ok6 ((decB 6 l).2.2.fr : Int) (decB 6 l).2.2.to (decB 6 l).2.2.ti (decB 6 l).2.2.ep (decB 6 l).2.2.ix (decB 6 l).2.2.li (decB 6 l).2.2.so (decB 6 l).2.2.id (decB 6 l).2.2.bs = true ∧ l = wr6 (decB 6 l).2.2.fr (decB 6 l).2.2.to (decB 6 l).2.2.li (decB 6 l).2.2.so (decB 6 l).2.2.id := by
  have e6 : decB 6 l = dec6b l := by show dec6 l = _; unfold dec6; rw [if_neg (by rw [hf]; simp)]
  rw [e6] at h hr ⊢
  have hh : (andE (andE (uintF l 2147483648).1 (andE (uintF (uintF l 2147483648).2.2 2147483648).1 0)) (andE (flagF (uintF (uintF l 2147483648).2.2 2147483648).2.2).1 (uintF (flagF (uintF (uintF l 2147483648).2.2 2147483648).2.2).2.2 2147483648).1)) = 0 := h
  obtain ⟨m0, hh⟩ := andE_z hh
  obtain ⟨y0, m1⟩ := andE_z m0
  have y1 := (andE_z m1).1
  obtain ⟨m2, hh⟩ := andE_z hh
  have y2 := m2
  have m3 := hh
  have y3 := m3
  have k0 := num_back _ _ y0
  have k1 := num_back _ _ y1
  have k2 := flagF_back _ y2
  have k3 := num_back _ _ y3
  have hz : (uintF (flagF (uintF (uintF l 2147483648).2.2 2147483648).2.2).2.2 2147483648).2.2 = [] := hr
  have hf2 : (flagF (uintF (uintF l 2147483648).2.2 2147483648).2.2).2.1 = false := hf
  refine ⟨?_, ?_⟩
  · show (if (flagF (uintF (uintF l 2147483648).2.2 2147483648).2.2).2.1 = true then _ else _) = true
    rw [if_neg (by rw [hf2]; simp)]
    show (!(((false || outN ((uintF l 2147483648).2.1 : Int) 2147483648) || outN ((uintF (uintF l 2147483648).2.2 2147483648).2.1 : Int) 2147483648) || outN ((uintF (flagF (uintF (uintF l 2147483648).2.2 2147483648).2.2).2.2 2147483648).2.1 : Int) 2147483648) && blankB 0 0 0 0 0 0 false 0 0) = true
    rw [k0.2, k1.2, k3.2]
    rfl
  · show l = (if (flagF (uintF (uintF l 2147483648).2.2 2147483648).2.2).2.1 = true then _ else _)
    rw [if_neg (by rw [hf2]; simp)]
    show l = numL (clampN ((uintF l 2147483648).2.1 : Int)) ++ (numL (clampN ((uintF (uintF l 2147483648).2.2 2147483648).2.1 : Int)) ++ (flagL false ++ (numL (clampN ((uintF (flagF (uintF (uintF l 2147483648).2.2 2147483648).2.2).2.2 2147483648).2.1 : Int)))))
    rw [← hf2]
    have z3 := k3.1
    rw [hz, List.append_nil] at z3
    have z2 := k2.trans (congrArg (_ ++ ·) z3)
    have z1 := k1.1.trans (congrArg (_ ++ ·) z2)
    have z0 := k0.1.trans (congrArg (_ ++ ·) z1)
    exact z0

theorem back7 (l : List UInt8) (h : (decB 7 l).1 = 0) (hr : (decB 7 l).2.1 = []) : ok7 ((decB 7 l).2.2.fr : Int) (decB 7 l).2.2.to (decB 7 l).2.2.ti (decB 7 l).2.2.ep (decB 7 l).2.2.ix (decB 7 l).2.2.li (decB 7 l).2.2.so (decB 7 l).2.2.id (decB 7 l).2.2.bs = true ∧ l = numL (clampN ((decB 7 l).2.2.fr : Int)) ++ (numL (clampN ((decB 7 l).2.2.to : Int)) ++ (numL (clampN ((decB 7 l).2.2.ep : Int)) ++ (numL (clampN ((decB 7 l).2.2.ix : Int)) ++ (numL (clampN ((decB 7 l).2.2.li : Int)))))) := by
  have hh : (andE (uintF l 2147483648).1 (andE (uintF (uintF l 2147483648).2.2 2147483648).1 (andE (uintF (uintF (uintF l 2147483648).2.2 2147483648).2.2 2147483648).1 (andE (uintF (uintF (uintF (uintF l 2147483648).2.2 2147483648).2.2 2147483648).2.2 2147483648).1 (andE (uintF (uintF (uintF (uintF (uintF l 2147483648).2.2 2147483648).2.2 2147483648).2.2 2147483648).2.2 2147483648).1 0))))) = 0 := h
  have m0 := hh
  obtain ⟨y0, m1⟩ := andE_z m0
  obtain ⟨y1, m2⟩ := andE_z m1
  obtain ⟨y2, m3⟩ := andE_z m2
  obtain ⟨y3, m4⟩ := andE_z m3
  have y4 := (andE_z m4).1
  have k0 := num_back _ _ y0
  have k1 := num_back _ _ y1
  have k2 := num_back _ _ y2
  have k3 := num_back _ _ y3
  have k4 := num_back _ _ y4
  have hz : (uintF (uintF (uintF (uintF (uintF l 2147483648).2.2 2147483648).2.2 2147483648).2.2 2147483648).2.2 2147483648).2.2 = [] := hr
  refine ⟨?_, ?_⟩
  · show (!(((((false || outN ((uintF l 2147483648).2.1 : Int) 2147483648) || outN ((uintF (uintF l 2147483648).2.2 2147483648).2.1 : Int) 2147483648) || outN ((uintF (uintF (uintF l 2147483648).2.2 2147483648).2.2 2147483648).2.1 : Int) 2147483648) || outN ((uintF (uintF (uintF (uintF l 2147483648).2.2 2147483648).2.2 2147483648).2.2 2147483648).2.1 : Int) 2147483648) || outN ((uintF (uintF (uintF (uintF (uintF l 2147483648).2.2 2147483648).2.2 2147483648).2.2 2147483648).2.2 2147483648).2.1 : Int) 2147483648) && blankB 0 0 0 0 0 0 false 0 0) = true
    rw [k0.2, k1.2, k2.2, k3.2, k4.2]
    rfl
  · show l = numL (clampN ((uintF l 2147483648).2.1 : Int)) ++ (numL (clampN ((uintF (uintF l 2147483648).2.2 2147483648).2.1 : Int)) ++ (numL (clampN ((uintF (uintF (uintF l 2147483648).2.2 2147483648).2.2 2147483648).2.1 : Int)) ++ (numL (clampN ((uintF (uintF (uintF (uintF l 2147483648).2.2 2147483648).2.2 2147483648).2.2 2147483648).2.1 : Int)) ++ (numL (clampN ((uintF (uintF (uintF (uintF (uintF l 2147483648).2.2 2147483648).2.2 2147483648).2.2 2147483648).2.2 2147483648).2.1 : Int))))))
    have z4 := k4.1
    rw [hz, List.append_nil] at z4
    have z3 := k3.1.trans (congrArg (_ ++ ·) z4)
    have z2 := k2.1.trans (congrArg (_ ++ ·) z3)
    have z1 := k1.1.trans (congrArg (_ ++ ·) z2)
    have z0 := k0.1.trans (congrArg (_ ++ ·) z1)
    exact z0

theorem back8 (l : List UInt8) (_ : (decB 8 l).1 = 0) (hr : (decB 8 l).2.1 = []) : ok8 ((decB 8 l).2.2.fr : Int) (decB 8 l).2.2.to (decB 8 l).2.2.ti (decB 8 l).2.2.ep (decB 8 l).2.2.ix (decB 8 l).2.2.li (decB 8 l).2.2.so (decB 8 l).2.2.id (decB 8 l).2.2.bs = true ∧ l = [] := by
  exact ⟨rfl, hr⟩

theorem back9 (l : List UInt8) (_ : (decB 9 l).1 = 0) (hr : (decB 9 l).2.1 = []) : ok9 ((decB 9 l).2.2.fr : Int) (decB 9 l).2.2.to (decB 9 l).2.2.ti (decB 9 l).2.2.ep (decB 9 l).2.2.ix (decB 9 l).2.2.li (decB 9 l).2.2.so (decB 9 l).2.2.id (decB 9 l).2.2.bs = true ∧ l = [] := by
  exact ⟨rfl, hr⟩

theorem back10 (l : List UInt8) (h : (decB 10 l).1 = 0) (hr : (decB 10 l).2.1 = []) : ok10 ((decB 10 l).2.2.fr : Int) (decB 10 l).2.2.to (decB 10 l).2.2.ti (decB 10 l).2.2.ep (decB 10 l).2.2.ix (decB 10 l).2.2.li (decB 10 l).2.2.so (decB 10 l).2.2.id (decB 10 l).2.2.bs = true ∧ l = bytesL (decB 10 l).2.2.id ++ (numL (clampN ((decB 10 l).2.2.fr : Int)) ++ (numL (clampN ((decB 10 l).2.2.to : Int)) ++ (numL (clampN ((decB 10 l).2.2.li : Int))))) := by
  have hh : (andE (bytesF l 24).1 (andE (uintF (bytesF l 24).2.2 2147483648).1 (andE (uintF (uintF (bytesF l 24).2.2 2147483648).2.2 2147483648).1 (andE (uintF (uintF (uintF (bytesF l 24).2.2 2147483648).2.2 2147483648).2.2 2147483648).1 0)))) = 0 := h
  obtain ⟨m0, hh⟩ := andE_z hh
  have y0 := m0
  have m1 := hh
  obtain ⟨y1, m2⟩ := andE_z m1
  obtain ⟨y2, m3⟩ := andE_z m2
  have y3 := (andE_z m3).1
  have k0 := text_back _ y0
  have k1 := num_back _ _ y1
  have k2 := num_back _ _ y2
  have k3 := num_back _ _ y3
  have hz : (uintF (uintF (uintF (bytesF l 24).2.2 2147483648).2.2 2147483648).2.2 2147483648).2.2 = [] := hr
  refine ⟨?_, ?_⟩
  · show (!((((false || outT (bytesF l 24).2.1.length) || outN ((uintF (bytesF l 24).2.2 2147483648).2.1 : Int) 2147483648) || outN ((uintF (uintF (bytesF l 24).2.2 2147483648).2.2 2147483648).2.1 : Int) 2147483648) || outN ((uintF (uintF (uintF (bytesF l 24).2.2 2147483648).2.2 2147483648).2.2 2147483648).2.1 : Int) 2147483648) && blankB 0 0 0 0 0 0 false 0 0) = true
    rw [k0.2, k1.2, k2.2, k3.2]
    rfl
  · show l = bytesL (bytesF l 24).2.1 ++ (numL (clampN ((uintF (bytesF l 24).2.2 2147483648).2.1 : Int)) ++ (numL (clampN ((uintF (uintF (bytesF l 24).2.2 2147483648).2.2 2147483648).2.1 : Int)) ++ (numL (clampN ((uintF (uintF (uintF (bytesF l 24).2.2 2147483648).2.2 2147483648).2.2 2147483648).2.1 : Int)))))
    have z3 := k3.1
    rw [hz, List.append_nil] at z3
    have z2 := k2.1.trans (congrArg (_ ++ ·) z3)
    have z1 := k1.1.trans (congrArg (_ ++ ·) z2)
    have z0 := k0.1.trans (congrArg (_ ++ ·) z1)
    exact z0

end Go.Proofs.Ythkgbgkijdeaoaa

namespace Go.Proofs.Ythkgbgkijdeaoaa
open Go.RowKit

theorem kinds_int (k : Int) (h : k ≤ 10 ∧ 1 ≤ k) : k = 1 ∨ k = 2 ∨ k = 3 ∨ k = 4 ∨ k = 5 ∨ k = 6 ∨ k = 7 ∨ k = 8 ∨ k = 9 ∨ k = 10 := by omega

set_option maxRecDepth 100000 in
set_option maxHeartbeats 1000000 in
theorem encode_any (k fr to ti ep ix li : Int) (so : Bool) (p q : Option Addr) (c d : Nat) (id : List UInt8) (bs : List (List UInt8 × List UInt8)) (w : World) (hid : HB w (.slice p id.length c) id) (hba : BA w (.slice q bs.length d) bs) (hbn : bs.length ≤ 1000) :
    Calls Try.prog 8 #[.agg #[.int .i64 k, .slice p id.length c, .int .i64 fr, .int .i64 to, .int .i64 ti, .bool so, .int .i64 ep, .int .i64 ix, .int .i64 li, .slice q bs.length d]] w (EncAll k fr to ti ep ix li so id bs w) := by
  by_cases hk : k ≤ 10 ∧ 1 ≤ k
  · rcases kinds_int k hk with rfl | rfl | rfl | rfl | rfl | rfl | rfl | rfl | rfl | rfl
    · exact (enc1 fr to ti ep ix li so p q c d id bs w hba hbn).mono fun x w' h => .inl ⟨hk.1, hk.2, h⟩
    · exact (enc2 fr to ti ep ix li so p q c d id bs w).mono fun x w' h => .inl ⟨hk.1, hk.2, h⟩
    · exact (enc3 fr to ti ep ix li so p q c d id bs w hid).mono fun x w' h => .inl ⟨hk.1, hk.2, h⟩
    · exact (enc4 fr to ti ep ix li so p q c d id bs w hid).mono fun x w' h => .inl ⟨hk.1, hk.2, h⟩
    · exact (enc5 fr to ti ep ix li so p q c d id bs w hid).mono fun x w' h => .inl ⟨hk.1, hk.2, h⟩
    · cases so with
      | true => exact (enc6a fr to ti ep ix li p q c d id bs w hid).mono fun x w' h => .inl ⟨hk.1, hk.2, h⟩
      | false => exact (enc6b fr to ti ep ix li p q c d id bs w).mono fun x w' h => .inl ⟨hk.1, hk.2, h⟩
    · exact (enc7 fr to ti ep ix li so p q c d id bs w).mono fun x w' h => .inl ⟨hk.1, hk.2, h⟩
    · exact (enc8 fr to ti ep ix li so p q c d id bs w).mono fun x w' h => .inl ⟨hk.1, hk.2, h⟩
    · exact (enc9 fr to ti ep ix li so p q c d id bs w).mono fun x w' h => .inl ⟨hk.1, hk.2, h⟩
    · exact (enc10 fr to ti ep ix li so p q c d id bs w hid).mono fun x w' h => .inl ⟨hk.1, hk.2, h⟩
  · exact (enc_bad k fr to ti ep ix li so p q id.length c bs.length d w hk).mono fun x w' h => .inr ⟨hk, h.1, h.2⟩

theorem bytesL24 {l : List UInt8} (h : outT l.length = false) : (bytesL l).length ≤ 33 := by
  have := outT_false h
  have := bytesL_big l (by omega)
  omega
theorem wrL32 {bs : List (List UInt8 × List UInt8)} (h : badB bs = false) : (wrL bs).length ≤ 3000 := by
  obtain ⟨h1, h2⟩ := badB_false h
  have h3 := bulk_le bs h2
  have h4 := binL_len bs (by omega)
  have h5 := cnt_le8 bs.length (by omega)
  unfold wrL
  rw [List.length_append, numL_length]
  omega

/-- What is written is read. -/
theorem put_all (k fr to ti ep ix li : Int) (so : Bool) (id : List UInt8) (bs : List (List UInt8 × List UInt8)) (hk : k ≤ 10 ∧ 1 ≤ k) (h : okE k fr to ti ep ix li so id bs = true) :
    decF (numL (clampN k) ++ wrE k fr to ti ep ix li so id bs) = (0, k.toNat, apOf fr to ti ep ix li so id bs) ∧ (0 ≤ fr ∧ 0 ≤ to ∧ 0 ≤ ti ∧ 0 ≤ ep ∧ 0 ≤ ix ∧ 0 ≤ li) ∧ (wrE k fr to ti ep ix li so id bs).length ≤ 4000 := by
  rcases kinds_int k hk with rfl | rfl | rfl | rfl | rfl | rfl | rfl | rfl | rfl | rfl
  · obtain ⟨p1, p2, p3, p4, p5, p6, p7⟩ := put1 fr to ti ep ix li so id bs h
    refine ⟨decF_put 1 _ _ (by omega) p1, ⟨p2, p3, p4, p5, p6, p7⟩, ?_⟩
    have hb := (Bool.not_or_false h).1
    simp only [Bool.or_eq_false_iff] at hb
    obtain ⟨_, c0⟩ := hb
    have l9 := wrL32 c0
    show (wrL bs).length ≤ 4000
    omega
  · obtain ⟨p1, p2, p3, p4, p5, p6, p7⟩ := put2 fr to ti ep ix li so id bs h
    refine ⟨decF_put 2 _ _ (by omega) p1, ⟨p2, p3, p4, p5, p6, p7⟩, ?_⟩
    have hb := (Bool.not_or_false h).1
    simp only [Bool.or_eq_false_iff] at hb
    obtain ⟨_, c0⟩ := hb
    have l4 := numL9 ti
    show (numL (clampN ti)).length ≤ 4000
    omega
  · obtain ⟨p1, p2, p3, p4, p5, p6, p7⟩ := put3 fr to ti ep ix li so id bs h
    refine ⟨decF_put 3 _ _ (by omega) p1, ⟨p2, p3, p4, p5, p6, p7⟩, ?_⟩
    have hb := (Bool.not_or_false h).1
    simp only [Bool.or_eq_false_iff] at hb
    obtain ⟨⟨_, c0⟩, c1⟩ := hb
    have l1 := bytesL24 c0
    have l3 := numL9 to
    show (bytesL id ++ (numL (clampN to))).length ≤ 4000
    simp only [List.length_append]
    omega
  · obtain ⟨p1, p2, p3, p4, p5, p6, p7⟩ := put4 fr to ti ep ix li so id bs h
    refine ⟨decF_put 4 _ _ (by omega) p1, ⟨p2, p3, p4, p5, p6, p7⟩, ?_⟩
    have hb := (Bool.not_or_false h).1
    simp only [Bool.or_eq_false_iff] at hb
    obtain ⟨⟨⟨_, c0⟩, c1⟩, c2⟩ := hb
    have l1 := bytesL24 c0
    have l4 := numL9 ti
    have l3 := numL9 to
    show (bytesL id ++ (numL (clampN ti) ++ (numL (clampN to)))).length ≤ 4000
    simp only [List.length_append]
    omega
  · obtain ⟨p1, p2, p3, p4, p5, p6, p7⟩ := put5 fr to ti ep ix li so id bs h
    refine ⟨decF_put 5 _ _ (by omega) p1, ⟨p2, p3, p4, p5, p6, p7⟩, ?_⟩
    have hb := (Bool.not_or_false h).1
    simp only [Bool.or_eq_false_iff] at hb
    obtain ⟨⟨⟨_, c0⟩, c1⟩, c2⟩ := hb
    have l1 := bytesL24 c0
    have l2 := numL9 fr
    have l3 := numL9 to
    show (bytesL id ++ (numL (clampN fr) ++ (numL (clampN to)))).length ≤ 4000
    simp only [List.length_append]
    omega
  · cases so with
    | true =>
      have h' : (!((((false || outN fr 2147483648) || outN to 2147483648) || outT id.length) || outN li 2147483648) && blankB 0 0 ti ep ix 0 false 0 bs.length) = true := h
      obtain ⟨p1, p2, p3, p4, p5, p6, p7⟩ := put6a fr to ti ep ix li id bs h'
      refine ⟨decF_put 6 _ _ (by omega) p1, ⟨p2, p3, p4, p5, p6, p7⟩, ?_⟩
      have hb := (Bool.not_or_false h').1
      simp only [Bool.or_eq_false_iff] at hb
      obtain ⟨⟨⟨⟨_, c0⟩, c1⟩, c2⟩, c3⟩ := hb
      have l2 := numL9 fr
      have l3 := numL9 to
      have l5 : (flagL true).length = 1 := rfl
      have l1 := bytesL24 c2
      have l8 := numL9 li
      show (numL (clampN fr) ++ (numL (clampN to) ++ (flagL true ++ (bytesL id ++ (numL (clampN li)))))).length ≤ 4000
      simp only [List.length_append]
      omega
    | false =>
      have h' : (!(((false || outN fr 2147483648) || outN to 2147483648) || outN li 2147483648) && blankB 0 0 ti ep ix 0 false id.length bs.length) = true := h
      obtain ⟨p1, p2, p3, p4, p5, p6, p7⟩ := put6b fr to ti ep ix li id bs h'
      refine ⟨decF_put 6 _ _ (by omega) p1, ⟨p2, p3, p4, p5, p6, p7⟩, ?_⟩
      have hb := (Bool.not_or_false h').1
      simp only [Bool.or_eq_false_iff] at hb
      obtain ⟨⟨⟨_, c0⟩, c1⟩, c2⟩ := hb
      have l2 := numL9 fr
      have l3 := numL9 to
      have l5 : (flagL false).length = 1 := rfl
      have l8 := numL9 li
      show (numL (clampN fr) ++ (numL (clampN to) ++ (flagL false ++ (numL (clampN li))))).length ≤ 4000
      simp only [List.length_append]
      omega
  · obtain ⟨p1, p2, p3, p4, p5, p6, p7⟩ := put7 fr to ti ep ix li so id bs h
    refine ⟨decF_put 7 _ _ (by omega) p1, ⟨p2, p3, p4, p5, p6, p7⟩, ?_⟩
    have hb := (Bool.not_or_false h).1
    simp only [Bool.or_eq_false_iff] at hb
    obtain ⟨⟨⟨⟨⟨_, c0⟩, c1⟩, c2⟩, c3⟩, c4⟩ := hb
    have l2 := numL9 fr
    have l3 := numL9 to
    have l6 := numL9 ep
    have l7 := numL9 ix
    have l8 := numL9 li
    show (numL (clampN fr) ++ (numL (clampN to) ++ (numL (clampN ep) ++ (numL (clampN ix) ++ (numL (clampN li)))))).length ≤ 4000
    simp only [List.length_append]
    omega
  · obtain ⟨p1, p2, p3, p4, p5, p6, p7⟩ := put8 fr to ti ep ix li so id bs h
    refine ⟨decF_put 8 _ _ (by omega) p1, ⟨p2, p3, p4, p5, p6, p7⟩, ?_⟩
    exact Nat.zero_le _
  · obtain ⟨p1, p2, p3, p4, p5, p6, p7⟩ := put9 fr to ti ep ix li so id bs h
    refine ⟨decF_put 9 _ _ (by omega) p1, ⟨p2, p3, p4, p5, p6, p7⟩, ?_⟩
    exact Nat.zero_le _
  · obtain ⟨p1, p2, p3, p4, p5, p6, p7⟩ := put10 fr to ti ep ix li so id bs h
    refine ⟨decF_put 10 _ _ (by omega) p1, ⟨p2, p3, p4, p5, p6, p7⟩, ?_⟩
    have hb := (Bool.not_or_false h).1
    simp only [Bool.or_eq_false_iff] at hb
    obtain ⟨⟨⟨⟨_, c0⟩, c1⟩, c2⟩, c3⟩ := hb
    have l1 := bytesL24 c0
    have l2 := numL9 fr
    have l3 := numL9 to
    have l8 := numL9 li
    show (bytesL id ++ (numL (clampN fr) ++ (numL (clampN to) ++ (numL (clampN li))))).length ≤ 4000
    simp only [List.length_append]
    omega

/-- What is read is written. -/
theorem back_all (b : List UInt8) (h : (decF b).1 = 0) : ((decF b).2.1 ≤ 10 ∧ 1 ≤ (decF b).2.1) ∧ okE ((decF b).2.1 : Int) (decF b).2.2.fr (decF b).2.2.to (decF b).2.2.ti (decF b).2.2.ep (decF b).2.2.ix (decF b).2.2.li (decF b).2.2.so (decF b).2.2.id (decF b).2.2.bs = true ∧ numL (clampN ((decF b).2.1 : Int)) ++ wrE ((decF b).2.1 : Int) (decF b).2.2.fr (decF b).2.2.to (decF b).2.2.ti (decF b).2.2.ep (decF b).2.2.ix (decF b).2.2.li (decF b).2.2.so (decF b).2.2.id (decF b).2.2.bs = b := by
  by_cases h1 : (uintF b 2147483648).1 = 0
  · obtain ⟨e1, _⟩ := num_back b 2147483648 h1
    have e2 : decF b = decK (uintF b 2147483648).2.1 (uintF b 2147483648).2.2 := by unfold decF; rw [if_pos h1]
    rw [e2] at h ⊢
    generalize (uintF b 2147483648).2.1 = k at *
    generalize (uintF b 2147483648).2.2 = l at *
    by_cases h2 : (decB k l).1 = 0
    · by_cases h3 : (decB k l).2.1 = []
      · have e3 : decK k l = (0, k, (decB k l).2.2) := by unfold decK; rw [if_pos h2, if_pos h3]
        rw [e3]
        by_cases hk : k ≤ 10 ∧ 1 ≤ k
        · refine ⟨hk, ?_⟩
          rw [e1]
          clear e1 e2 e3 h h1
          have hk' := hk
          rcases dec_kinds k hk' with rfl | rfl | rfl | rfl | rfl | rfl | rfl | rfl | rfl | rfl
          · obtain ⟨b1, b2⟩ := back1 l h2 h3
            exact ⟨b1, congrArg (_ ++ ·) b2.symm⟩
          · obtain ⟨b1, b2⟩ := back2 l h2 h3
            exact ⟨b1, congrArg (_ ++ ·) b2.symm⟩
          · obtain ⟨b1, b2⟩ := back3 l h2 h3
            exact ⟨b1, congrArg (_ ++ ·) b2.symm⟩
          · obtain ⟨b1, b2⟩ := back4 l h2 h3
            exact ⟨b1, congrArg (_ ++ ·) b2.symm⟩
          · obtain ⟨b1, b2⟩ := back5 l h2 h3
            exact ⟨b1, congrArg (_ ++ ·) b2.symm⟩
          · by_cases hf : (flagF (numsG 2 l).2.1).2.1 = true
            · obtain ⟨b1, b2⟩ := back6a l h2 h3 hf
              exact ⟨b1, congrArg (_ ++ ·) b2.symm⟩
            · obtain ⟨b1, b2⟩ := back6b l h2 h3 (by simpa using hf)
              exact ⟨b1, congrArg (_ ++ ·) b2.symm⟩
          · obtain ⟨b1, b2⟩ := back7 l h2 h3
            exact ⟨b1, congrArg (_ ++ ·) b2.symm⟩
          · obtain ⟨b1, b2⟩ := back8 l h2 h3
            exact ⟨b1, congrArg (_ ++ ·) b2.symm⟩
          · obtain ⟨b1, b2⟩ := back9 l h2 h3
            exact ⟨b1, congrArg (_ ++ ·) b2.symm⟩
          · obtain ⟨b1, b2⟩ := back10 l h2 h3
            exact ⟨b1, congrArg (_ ++ ·) b2.symm⟩
        · rw [decB_out k l hk] at h2
          exact absurd (show (87 : Int) = 0 from h2) (by decide)
      · have e3 : decK k l = (5, 0, AP0) := by unfold decK; rw [if_pos h2, if_neg h3]
        rw [e3] at h
        exact absurd h (by decide)
    · have e3 : decK k l = ((decB k l).1, 0, AP0) := by unfold decK; rw [if_neg h2]
      rw [e3] at h
      exact absurd h h2
  · have e2 : decF b = ((uintF b 2147483648).1, 0, AP0) := by unfold decF; rw [if_neg h1]
    rw [e2] at h
    exact absurd h h1

end Go.Proofs.Ythkgbgkijdeaoaa
