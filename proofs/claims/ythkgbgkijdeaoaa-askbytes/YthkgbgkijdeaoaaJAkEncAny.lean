/- What this text proves: the walk of ask.Encode over this program, of any request with no more than a thousand bindings. (By program: mkakenc.py.) -/
import Derived.Test.YthkgbgkijdeaoaaJAkEncode
import Derived.Test.YthkgbgkijdeaoaaJA7
namespace Go.Proofs.Ythkgbgkijdeaoaa
open Go.RowKit

def ok1 (fr to ti ep ix li : Int) (so : Bool) (id : List UInt8) (bs : List (List UInt8 × List UInt8)) : Bool := !(false || badB bs) && blankB fr to ti ep ix li so id.length 0
def ok2 (fr to ti ep ix li : Int) (so : Bool) (id : List UInt8) (bs : List (List UInt8 × List UInt8)) : Bool := !(false || outN ti 1125899906842624) && blankB fr to 0 ep ix li so id.length bs.length
def ok3 (fr to ti ep ix li : Int) (so : Bool) (id : List UInt8) (bs : List (List UInt8 × List UInt8)) : Bool := !((false || outT id.length) || outN to 2147483648) && blankB fr 0 ti ep ix li so 0 bs.length
def ok4 (fr to ti ep ix li : Int) (so : Bool) (id : List UInt8) (bs : List (List UInt8 × List UInt8)) : Bool := !(((false || outT id.length) || outN ti 1125899906842624) || outN to 2147483648) && blankB fr 0 0 ep ix li so 0 bs.length
def ok5 (fr to ti ep ix li : Int) (so : Bool) (id : List UInt8) (bs : List (List UInt8 × List UInt8)) : Bool := !(((false || outT id.length) || outN fr 2147483648) || outN to 2147483648) && blankB 0 0 ti ep ix li so 0 bs.length
def ok6 (fr to ti ep ix li : Int) (so : Bool) (id : List UInt8) (bs : List (List UInt8 × List UInt8)) : Bool := if so = true then !((((false || outN fr 2147483648) || outN to 2147483648) || outT id.length) || outN li 2147483648) && blankB 0 0 ti ep ix 0 false 0 bs.length else !(((false || outN fr 2147483648) || outN to 2147483648) || outN li 2147483648) && blankB 0 0 ti ep ix 0 false id.length bs.length
def wr6 (fr to li : Int) (so : Bool) (id : List UInt8) : List UInt8 := if so = true then numL (clampN fr) ++ (numL (clampN to) ++ (flagL true ++ (bytesL id ++ (numL (clampN li))))) else numL (clampN fr) ++ (numL (clampN to) ++ (flagL false ++ (numL (clampN li))))
def ok7 (fr to ti ep ix li : Int) (so : Bool) (id : List UInt8) (bs : List (List UInt8 × List UInt8)) : Bool := !(((((false || outN fr 2147483648) || outN to 2147483648) || outN ep 2147483648) || outN ix 2147483648) || outN li 2147483648) && blankB 0 0 ti 0 0 0 so id.length bs.length
def ok8 (fr to ti ep ix li : Int) (so : Bool) (id : List UInt8) (bs : List (List UInt8 × List UInt8)) : Bool := !false && blankB fr to ti ep ix li so id.length bs.length
def ok9 (fr to ti ep ix li : Int) (so : Bool) (id : List UInt8) (bs : List (List UInt8 × List UInt8)) : Bool := !false && blankB fr to ti ep ix li so id.length bs.length
def ok10 (fr to ti ep ix li : Int) (so : Bool) (id : List UInt8) (bs : List (List UInt8 × List UInt8)) : Bool := !((((false || outT id.length) || outN fr 2147483648) || outN to 2147483648) || outN li 2147483648) && blankB 0 0 ti ep ix 0 so 0 bs.length

/-- Whether a request may be, by its kind; its bytes behind the kind. -/
def okE (k : Int) (fr to ti ep ix li : Int) (so : Bool) (id : List UInt8) (bs : List (List UInt8 × List UInt8)) : Bool := if k = 1 then ok1 fr to ti ep ix li so id bs else if k = 2 then ok2 fr to ti ep ix li so id bs else if k = 3 then ok3 fr to ti ep ix li so id bs else if k = 4 then ok4 fr to ti ep ix li so id bs else if k = 5 then ok5 fr to ti ep ix li so id bs else if k = 6 then ok6 fr to ti ep ix li so id bs else if k = 7 then ok7 fr to ti ep ix li so id bs else if k = 8 then ok8 fr to ti ep ix li so id bs else if k = 9 then ok9 fr to ti ep ix li so id bs else if k = 10 then ok10 fr to ti ep ix li so id bs else false
def wrE (k : Int) (fr to ti ep ix li : Int) (so : Bool) (id : List UInt8) (bs : List (List UInt8 × List UInt8)) : List UInt8 := if k = 1 then wrL bs else if k = 2 then numL (clampN ti) else if k = 3 then bytesL id ++ (numL (clampN to)) else if k = 4 then bytesL id ++ (numL (clampN ti) ++ (numL (clampN to))) else if k = 5 then bytesL id ++ (numL (clampN fr) ++ (numL (clampN to))) else if k = 6 then wr6 fr to li so id else if k = 7 then numL (clampN fr) ++ (numL (clampN to) ++ (numL (clampN ep) ++ (numL (clampN ix) ++ (numL (clampN li))))) else if k = 8 then [] else if k = 9 then [] else if k = 10 then bytesL id ++ (numL (clampN fr) ++ (numL (clampN to) ++ (numL (clampN li)))) else []

theorem Bool.not_or_false {a b : Bool} (h : (!a && b) = true) : a = false ∧ b = true := by cases a <;> cases b <;> simp_all
theorem outT_false {n : Nat} (h : outT n = false) : n ≤ 24 := by unfold outT at h; simp at h; omega
theorem outN_false {n m : Int} (h : outN n m = false) : 0 ≤ n ∧ n ≤ m := by unfold outN at h; simp at h; omega
theorem badB_false {bs : List (List UInt8 × List UInt8)} (h : badB bs = false) : bs.length ≤ 32 ∧ ∀ x ∈ bs, x.1.length ≤ 24 ∧ x.2.length ≤ 48 := by
  unfold badB at h
  rw [Bool.or_eq_false_iff] at h
  refine ⟨by have := h.1; simp at this; omega, fun x hx => ?_⟩
  have := List.any_eq_false.1 h.2 x hx
  unfold longB at this
  simp at this
  omega
theorem bulk_le : ∀ (bs : List (List UInt8 × List UInt8)), (∀ x ∈ bs, x.1.length ≤ 24 ∧ x.2.length ≤ 48) → bulkB bs ≤ 72 * bs.length
  | [], _ => Nat.zero_le _
  | x :: r, h => by
    have h1 := h x (by simp)
    have h2 := bulk_le r (fun y hy => h y (by simp [hy]))
    unfold bulkB at h2 ⊢
    simp only [List.map_cons, List.sum_cons, List.length_cons]
    omega

/-- What Encode answers. -/
def EncAll (k : Int) (fr to ti ep ix li : Int) (so : Bool) (id : List UInt8) (bs : List (List UInt8 × List UInt8)) (w : World) (x : Ending) (w' : World) : Prop := (k ≤ 10 ∧ 1 ≤ k ∧ EncTold (okE k fr to ti ep ix li so id bs) (numL (clampN k) ++ wrE k fr to ti ep ix li so id bs) w x w') ∨ (¬ (k ≤ 10 ∧ 1 ≤ k) ∧ x = .returned (.tuple #[.slice none 0 0, .int .i64 87]) ∧ Below w.heap.size w w')

set_option maxRecDepth 100000 in
set_option maxHeartbeats 4000000 in
theorem enc1 (fr to ti ep ix li : Int) (so : Bool) (p q : Option Addr) (c d : Nat) (id : List UInt8) (bs : List (List UInt8 × List UInt8)) (w : World) (hba : BA w (.slice q bs.length d) bs) (hbn : bs.length ≤ 1000) :
    Calls Try.prog 8 #[.agg #[.int .i64 1, .slice p id.length c, .int .i64 fr, .int .i64 to, .int .i64 ti, .bool so, .int .i64 ep, .int .i64 ix, .int .i64 li, .slice q bs.length d]] w (EncTold (ok1 fr to ti ep ix li so id bs) (numL (clampN 1) ++ (wrL bs)) w) := by
  refine encode_core 1 fr to ti ep ix li so p q id.length c bs.length d 1 fr to ti ep ix li so p none id.length c 0 0 (false || badB bs) _ _ w (rfl : _ = _) ?_ ?_
  · intro base gJ g W hJ hA hne h1 h2 hb hs
    exact tj1 base gJ g false fr to ti ep ix li so (.slice p id.length c) (.slice q bs.length d) bs W hJ hA hne h1 h2 (fun W2 h => hba.later (hb.trans (h.mono hs))) hbn
  · intro hok g base gR W hW hA hg hb hs
    have hl := numL9 1
    have hbad := (Bool.not_or_false hok).1
    have ht : badB bs = false := by simp only [Bool.or_eq_false_iff] at hbad; exact hbad.2
    have ht2 := badB_false ht
    have ht3 := bulk_le bs ht2.2
    have H := tw1 g base gR (numL (clampN 1)) fr to ti ep ix li so (.slice p id.length c) (.slice q bs.length d) bs W hW hA hg (by omega) (fun W2 h => hba.later (hb.trans (h.mono hs))) (by omega) (by omega)
    exact H

set_option maxRecDepth 100000 in
set_option maxHeartbeats 4000000 in
theorem enc2 (fr to ti ep ix li : Int) (so : Bool) (p q : Option Addr) (c d : Nat) (id : List UInt8) (bs : List (List UInt8 × List UInt8)) (w : World) :
    Calls Try.prog 8 #[.agg #[.int .i64 2, .slice p id.length c, .int .i64 fr, .int .i64 to, .int .i64 ti, .bool so, .int .i64 ep, .int .i64 ix, .int .i64 li, .slice q bs.length d]] w (EncTold (ok2 fr to ti ep ix li so id bs) (numL (clampN 2) ++ (numL (clampN ti))) w) := by
  refine encode_core 2 fr to ti ep ix li so p q id.length c bs.length d 2 fr to 0 ep ix li so p q id.length c bs.length d (false || outN ti 1125899906842624) _ _ w (rfl : _ = _) ?_ ?_
  · intro base gJ g W hJ hA hne h1 h2 hb hs
    exact tj2 base gJ g false fr to ti ep ix li so (.slice p id.length c) (.slice q bs.length d) W hJ hA hne h1 h2
  · intro hok g base gR W hW hA hg hb hs
    have hl := numL9 2
    have H := tw2 g base gR (numL (clampN 2)) fr to ti ep ix li so (.slice p id.length c) (.slice q bs.length d) W hW hA hg (by omega)
    exact H

set_option maxRecDepth 100000 in
set_option maxHeartbeats 4000000 in
theorem enc3 (fr to ti ep ix li : Int) (so : Bool) (p q : Option Addr) (c d : Nat) (id : List UInt8) (bs : List (List UInt8 × List UInt8)) (w : World) (hid : HB w (.slice p id.length c) id) :
    Calls Try.prog 8 #[.agg #[.int .i64 3, .slice p id.length c, .int .i64 fr, .int .i64 to, .int .i64 ti, .bool so, .int .i64 ep, .int .i64 ix, .int .i64 li, .slice q bs.length d]] w (EncTold (ok3 fr to ti ep ix li so id bs) (numL (clampN 3) ++ (bytesL id ++ (numL (clampN to)))) w) := by
  refine encode_core 3 fr to ti ep ix li so p q id.length c bs.length d 3 fr 0 ti ep ix li so none q 0 0 bs.length d ((false || outT id.length) || outN to 2147483648) _ _ w (rfl : _ = _) ?_ ?_
  · intro base gJ g W hJ hA hne h1 h2 hb hs
    exact tj3 base gJ g false fr to ti ep ix li so p id.length c (.slice q bs.length d) W hJ hA hne h1 h2
  · intro hok g base gR W hW hA hg hb hs
    have hl := numL9 3
    have hbad := (Bool.not_or_false hok).1
    have ht : outT id.length = false := by
      cases h : outT id.length with
      | false => rfl
      | true => rw [h] at hbad; simp at hbad
    have ht2 := outT_false ht
    have H := tw3 g base gR (numL (clampN 3)) fr to ti ep ix li so p c id (.slice q bs.length d) W hW hA hg (by omega) (fun W2 h => hid.later (hb.trans (h.mono hs))) (by omega)
    simpa only [List.append_assoc] using H

set_option maxRecDepth 100000 in
set_option maxHeartbeats 4000000 in
theorem enc4 (fr to ti ep ix li : Int) (so : Bool) (p q : Option Addr) (c d : Nat) (id : List UInt8) (bs : List (List UInt8 × List UInt8)) (w : World) (hid : HB w (.slice p id.length c) id) :
    Calls Try.prog 8 #[.agg #[.int .i64 4, .slice p id.length c, .int .i64 fr, .int .i64 to, .int .i64 ti, .bool so, .int .i64 ep, .int .i64 ix, .int .i64 li, .slice q bs.length d]] w (EncTold (ok4 fr to ti ep ix li so id bs) (numL (clampN 4) ++ (bytesL id ++ (numL (clampN ti) ++ (numL (clampN to))))) w) := by
  refine encode_core 4 fr to ti ep ix li so p q id.length c bs.length d 4 fr 0 0 ep ix li so none q 0 0 bs.length d (((false || outT id.length) || outN ti 1125899906842624) || outN to 2147483648) _ _ w (rfl : _ = _) ?_ ?_
  · intro base gJ g W hJ hA hne h1 h2 hb hs
    exact tj4 base gJ g false fr to ti ep ix li so p id.length c (.slice q bs.length d) W hJ hA hne h1 h2
  · intro hok g base gR W hW hA hg hb hs
    have hl := numL9 4
    have hbad := (Bool.not_or_false hok).1
    have ht : outT id.length = false := by
      cases h : outT id.length with
      | false => rfl
      | true => rw [h] at hbad; simp at hbad
    have ht2 := outT_false ht
    have H := tw4 g base gR (numL (clampN 4)) fr to ti ep ix li so p c id (.slice q bs.length d) W hW hA hg (by omega) (fun W2 h => hid.later (hb.trans (h.mono hs))) (by omega)
    simpa only [List.append_assoc] using H

set_option maxRecDepth 100000 in
set_option maxHeartbeats 4000000 in
theorem enc5 (fr to ti ep ix li : Int) (so : Bool) (p q : Option Addr) (c d : Nat) (id : List UInt8) (bs : List (List UInt8 × List UInt8)) (w : World) (hid : HB w (.slice p id.length c) id) :
    Calls Try.prog 8 #[.agg #[.int .i64 5, .slice p id.length c, .int .i64 fr, .int .i64 to, .int .i64 ti, .bool so, .int .i64 ep, .int .i64 ix, .int .i64 li, .slice q bs.length d]] w (EncTold (ok5 fr to ti ep ix li so id bs) (numL (clampN 5) ++ (bytesL id ++ (numL (clampN fr) ++ (numL (clampN to))))) w) := by
  refine encode_core 5 fr to ti ep ix li so p q id.length c bs.length d 5 0 0 ti ep ix li so none q 0 0 bs.length d (((false || outT id.length) || outN fr 2147483648) || outN to 2147483648) _ _ w (rfl : _ = _) ?_ ?_
  · intro base gJ g W hJ hA hne h1 h2 hb hs
    exact tj5 base gJ g false fr to ti ep ix li so p id.length c (.slice q bs.length d) W hJ hA hne h1 h2
  · intro hok g base gR W hW hA hg hb hs
    have hl := numL9 5
    have hbad := (Bool.not_or_false hok).1
    have ht : outT id.length = false := by
      cases h : outT id.length with
      | false => rfl
      | true => rw [h] at hbad; simp at hbad
    have ht2 := outT_false ht
    have H := tw5 g base gR (numL (clampN 5)) fr to ti ep ix li so p c id (.slice q bs.length d) W hW hA hg (by omega) (fun W2 h => hid.later (hb.trans (h.mono hs))) (by omega)
    simpa only [List.append_assoc] using H

set_option maxRecDepth 100000 in
set_option maxHeartbeats 4000000 in
theorem enc6a (fr to ti ep ix li : Int) (p q : Option Addr) (c d : Nat) (id : List UInt8) (bs : List (List UInt8 × List UInt8)) (w : World) (hid : HB w (.slice p id.length c) id) :
    Calls Try.prog 8 #[.agg #[.int .i64 6, .slice p id.length c, .int .i64 fr, .int .i64 to, .int .i64 ti, .bool true, .int .i64 ep, .int .i64 ix, .int .i64 li, .slice q bs.length d]] w (EncTold ((!((((false || outN fr 2147483648) || outN to 2147483648) || outT id.length) || outN li 2147483648) && blankB 0 0 ti ep ix 0 false 0 bs.length)) (numL (clampN 6) ++ (numL (clampN fr) ++ (numL (clampN to) ++ (flagL true ++ (bytesL id ++ (numL (clampN li))))))) w) := by
  refine encode_core 6 fr to ti ep ix li true p q id.length c bs.length d 6 0 0 ti ep ix 0 false none q 0 0 bs.length d ((((false || outN fr 2147483648) || outN to 2147483648) || outT id.length) || outN li 2147483648) _ _ w (rfl : _ = _) ?_ ?_
  · intro base gJ g W hJ hA hne h1 h2 hb hs
    exact tj6a base gJ g false fr to ti ep ix li p id.length c (.slice q bs.length d) W hJ hA hne h1 h2
  · intro hok g base gR W hW hA hg hb hs
    have hl := numL9 6
    have hbad := (Bool.not_or_false hok).1
    have ht : outT id.length = false := by
      cases h : outT id.length with
      | false => rfl
      | true => rw [h] at hbad; simp at hbad
    have ht2 := outT_false ht
    have H := tw6a g base gR (numL (clampN 6)) fr to ti ep ix li p c id (.slice q bs.length d) W hW hA hg (by omega) (fun W2 h => hid.later (hb.trans (h.mono hs))) (by omega)
    simpa only [List.append_assoc] using H

set_option maxRecDepth 100000 in
set_option maxHeartbeats 4000000 in
theorem enc6b (fr to ti ep ix li : Int) (p q : Option Addr) (c d : Nat) (id : List UInt8) (bs : List (List UInt8 × List UInt8)) (w : World) :
    Calls Try.prog 8 #[.agg #[.int .i64 6, .slice p id.length c, .int .i64 fr, .int .i64 to, .int .i64 ti, .bool false, .int .i64 ep, .int .i64 ix, .int .i64 li, .slice q bs.length d]] w (EncTold ((!(((false || outN fr 2147483648) || outN to 2147483648) || outN li 2147483648) && blankB 0 0 ti ep ix 0 false id.length bs.length)) (numL (clampN 6) ++ (numL (clampN fr) ++ (numL (clampN to) ++ (flagL false ++ (numL (clampN li)))))) w) := by
  refine encode_core 6 fr to ti ep ix li false p q id.length c bs.length d 6 0 0 ti ep ix 0 false p q id.length c bs.length d (((false || outN fr 2147483648) || outN to 2147483648) || outN li 2147483648) _ _ w (rfl : _ = _) ?_ ?_
  · intro base gJ g W hJ hA hne h1 h2 hb hs
    exact tj6b base gJ g false fr to ti ep ix li p id.length c (.slice q bs.length d) W hJ hA hne h1 h2
  · intro hok g base gR W hW hA hg hb hs
    have hl := numL9 6
    have H := tw6b g base gR (numL (clampN 6)) fr to ti ep ix li (.slice p id.length c) (.slice q bs.length d) W hW hA hg (by omega)
    simpa only [List.append_assoc] using H

set_option maxRecDepth 100000 in
set_option maxHeartbeats 4000000 in
theorem enc7 (fr to ti ep ix li : Int) (so : Bool) (p q : Option Addr) (c d : Nat) (id : List UInt8) (bs : List (List UInt8 × List UInt8)) (w : World) :
    Calls Try.prog 8 #[.agg #[.int .i64 7, .slice p id.length c, .int .i64 fr, .int .i64 to, .int .i64 ti, .bool so, .int .i64 ep, .int .i64 ix, .int .i64 li, .slice q bs.length d]] w (EncTold (ok7 fr to ti ep ix li so id bs) (numL (clampN 7) ++ (numL (clampN fr) ++ (numL (clampN to) ++ (numL (clampN ep) ++ (numL (clampN ix) ++ (numL (clampN li))))))) w) := by
  refine encode_core 7 fr to ti ep ix li so p q id.length c bs.length d 7 0 0 ti 0 0 0 so p q id.length c bs.length d (((((false || outN fr 2147483648) || outN to 2147483648) || outN ep 2147483648) || outN ix 2147483648) || outN li 2147483648) _ _ w (rfl : _ = _) ?_ ?_
  · intro base gJ g W hJ hA hne h1 h2 hb hs
    exact tj7 base gJ g false fr to ti ep ix li so (.slice p id.length c) (.slice q bs.length d) W hJ hA hne h1 h2
  · intro hok g base gR W hW hA hg hb hs
    have hl := numL9 7
    have H := tw7 g base gR (numL (clampN 7)) fr to ti ep ix li so (.slice p id.length c) (.slice q bs.length d) W hW hA hg (by omega)
    simpa only [List.append_assoc] using H

set_option maxRecDepth 100000 in
set_option maxHeartbeats 4000000 in
theorem enc8 (fr to ti ep ix li : Int) (so : Bool) (p q : Option Addr) (c d : Nat) (id : List UInt8) (bs : List (List UInt8 × List UInt8)) (w : World) :
    Calls Try.prog 8 #[.agg #[.int .i64 8, .slice p id.length c, .int .i64 fr, .int .i64 to, .int .i64 ti, .bool so, .int .i64 ep, .int .i64 ix, .int .i64 li, .slice q bs.length d]] w (EncTold (ok8 fr to ti ep ix li so id bs) (numL (clampN 8) ++ ([])) w) := by
  refine encode_core 8 fr to ti ep ix li so p q id.length c bs.length d 8 fr to ti ep ix li so p q id.length c bs.length d false _ _ w (rfl : _ = _) ?_ ?_
  · intro base gJ g W hJ hA hne h1 h2 hb hs
    refine (thru_none _ g 8 W (hA.cell rfl) (by simp)).mono ?_
    rintro x w1 ⟨rfl, rfl⟩
    exact ⟨rfl, hJ, hA, Below.refl _ _⟩
  · intro hok g base gR W hW hA hg hb hs
    refine (thru_none _ gR 8 W (hA.cell rfl) (by simp)).mono ?_
    rintro x w1 ⟨rfl, rfl⟩
    exact ⟨rfl, by rw [List.append_nil]; exact hW, Below.refl _ _, TKB.refl _ _⟩

set_option maxRecDepth 100000 in
set_option maxHeartbeats 4000000 in
theorem enc9 (fr to ti ep ix li : Int) (so : Bool) (p q : Option Addr) (c d : Nat) (id : List UInt8) (bs : List (List UInt8 × List UInt8)) (w : World) :
    Calls Try.prog 8 #[.agg #[.int .i64 9, .slice p id.length c, .int .i64 fr, .int .i64 to, .int .i64 ti, .bool so, .int .i64 ep, .int .i64 ix, .int .i64 li, .slice q bs.length d]] w (EncTold (ok9 fr to ti ep ix li so id bs) (numL (clampN 9) ++ ([])) w) := by
  refine encode_core 9 fr to ti ep ix li so p q id.length c bs.length d 9 fr to ti ep ix li so p q id.length c bs.length d false _ _ w (rfl : _ = _) ?_ ?_
  · intro base gJ g W hJ hA hne h1 h2 hb hs
    refine (thru_none _ g 9 W (hA.cell rfl) (by simp)).mono ?_
    rintro x w1 ⟨rfl, rfl⟩
    exact ⟨rfl, hJ, hA, Below.refl _ _⟩
  · intro hok g base gR W hW hA hg hb hs
    refine (thru_none _ gR 9 W (hA.cell rfl) (by simp)).mono ?_
    rintro x w1 ⟨rfl, rfl⟩
    exact ⟨rfl, by rw [List.append_nil]; exact hW, Below.refl _ _, TKB.refl _ _⟩

set_option maxRecDepth 100000 in
set_option maxHeartbeats 4000000 in
theorem enc10 (fr to ti ep ix li : Int) (so : Bool) (p q : Option Addr) (c d : Nat) (id : List UInt8) (bs : List (List UInt8 × List UInt8)) (w : World) (hid : HB w (.slice p id.length c) id) :
    Calls Try.prog 8 #[.agg #[.int .i64 10, .slice p id.length c, .int .i64 fr, .int .i64 to, .int .i64 ti, .bool so, .int .i64 ep, .int .i64 ix, .int .i64 li, .slice q bs.length d]] w (EncTold (ok10 fr to ti ep ix li so id bs) (numL (clampN 10) ++ (bytesL id ++ (numL (clampN fr) ++ (numL (clampN to) ++ (numL (clampN li)))))) w) := by
  refine encode_core 10 fr to ti ep ix li so p q id.length c bs.length d 10 0 0 ti ep ix 0 so none q 0 0 bs.length d ((((false || outT id.length) || outN fr 2147483648) || outN to 2147483648) || outN li 2147483648) _ _ w (rfl : _ = _) ?_ ?_
  · intro base gJ g W hJ hA hne h1 h2 hb hs
    exact tj10 base gJ g false fr to ti ep ix li so p id.length c (.slice q bs.length d) W hJ hA hne h1 h2
  · intro hok g base gR W hW hA hg hb hs
    have hl := numL9 10
    have hbad := (Bool.not_or_false hok).1
    have ht : outT id.length = false := by
      cases h : outT id.length with
      | false => rfl
      | true => rw [h] at hbad; simp at hbad
    have ht2 := outT_false ht
    have H := tw10 g base gR (numL (clampN 10)) fr to ti ep ix li so p c id (.slice q bs.length d) W hW hA hg (by omega) (fun W2 h => hid.later (hb.trans (h.mono hs))) (by omega)
    simpa only [List.append_assoc] using H

set_option maxRecDepth 100000 in
set_option maxHeartbeats 4000000 in
theorem enc_bad (k fr to ti ep ix li : Int) (so : Bool) (p q : Option Addr) (n c m d : Nat) (w : World) (h : ¬ (k ≤ 10 ∧ 1 ≤ k)) :
    Calls Try.prog 8 #[.agg #[.int .i64 k, .slice p n c, .int .i64 fr, .int .i64 to, .int .i64 ti, .bool so, .int .i64 ep, .int .i64 ix, .int .i64 li, .slice q m d]] w fun x w' => x = .returned (.tuple #[.slice none 0 0, .int .i64 87]) ∧ Below w.heap.size w w' := by
  obtain ⟨bA, a0, a1, a2, a3⟩ := alloc3 w (.cells #[.int .i64 k, .slice p n c, .int .i64 fr, .int .i64 to, .int .i64 ti, .bool so, .int .i64 ep, .int .i64 ix, .int .i64 li, .slice q m d] 25) (.cells #[.bool false] 42) (.cells #[.int .i64 k, .slice p n c, .int .i64 fr, .int .i64 to, .int .i64 ti, .bool so, .int .i64 ep, .int .i64 ix, .int .i64 li, .slice q m d] 25)
  have hT := thru_bad (.iface 44 (.pointer (some ⟨w.heap.size + 1, 0, none⟩))) (w.heap.size + 1 + 1) k _ (AB.cell a2 rfl) h
  clear a0 a1 a2 a3 h
  go_enter Try.func8, Try.ntmps8
  go_wp2_with fail
  refine hT.mono ?_
  rintro e w1 ⟨rfl, e1⟩
  rw [← e1] at bA
  clear hT e1
  go_wp2
  go_ret2
  exact ⟨rfl, bA⟩

end Go.Proofs.Ythkgbgkijdeaoaa
