/- What this text proves: the walk of annalsref25.Encode over this program of any request, told by one contract. (By program: mkakrencall.py.) -/
import Derived.Test.YthkgbgkijdeaoaaJQ2
import Derived.Test.YthkgbgkijdeaoaaJAkRBytes
namespace Go.Proofs.Ythkgbgkijdeaoaa
open Go.RowKit

theorem renc_bad (k fr to ti ep ix li : Int) (so : Bool) (p q : Option Addr) (n c m d : Nat) (w : World) (h : ¬ (k ≤ 10 ∧ 1 ≤ k)) :
    Calls Try.prog 9 #[.agg #[.int .i64 k, .slice p n c, .int .i64 fr, .int .i64 to, .int .i64 ti, .bool so, .int .i64 ep, .int .i64 ix, .int .i64 li, .slice q m d]] w fun x w' => x = .returned (.tuple #[.slice none 0 0, .int .i64 87]) ∧ Below w.heap.size w w' := by
  have b0 := (Below.refl w.heap.size w).alloc (Nat.le_refl _) (.cells #[.int .i64 k, .slice p n c, .int .i64 fr, .int .i64 to, .int .i64 ti, .bool so, .int .i64 ep, .int .i64 ix, .int .i64 li, .slice q m d] 25)
  have HK := known_any k (w.alloc (.cells #[.int .i64 k, .slice p n c, .int .i64 fr, .int .i64 to, .int .i64 ti, .bool so, .int .i64 ep, .int .i64 ix, .int .i64 li, .slice q m d] 25))
  rw [show decide (k ≤ 10 ∧ 1 ≤ k) = false by simp [h]] at HK
  clear h
  go_enter Try.func9, Try.ntmps9
  go_wp2_with fail
  refine HK.mono ?_
  rintro e w1 ⟨rfl, e1⟩
  rw [← e1] at b0
  clear HK e1
  go_wp2
  go_ret2
  exact ⟨rfl, b0⟩

theorem fitsB_small {fr to ti ep ix li : Int} {n : Nat} {bs : List (List UInt8 × List UInt8)} {s : Bool} (h : (s && fitsB fr to ti ep ix li n bs) = true) : n ≤ 1000 ∧ bs.length ≤ 40 ∧ bulkB bs ≤ 1048576 := by
  rw [Bool.and_eq_true] at h
  obtain ⟨_, _, h3, h4⟩ := fitsB_iff.1 h.2
  obtain ⟨h5, h6⟩ := badB_false h4
  have h7 := bulk_le bs h6
  omega

theorem renc1 (fr to ti ep ix li : Int) (so : Bool) (p q : Option Addr) (c d : Nat) (id : List UInt8) (bs : List (List UInt8 × List UInt8)) (w : World) (hid : HB w (.slice p id.length c) id) (hba : BA w (.slice q bs.length d) bs) :
    Calls Try.prog 9 #[.agg #[.int .i64 1, .slice p id.length c, .int .i64 fr, .int .i64 to, .int .i64 ti, .bool so, .int .i64 ep, .int .i64 ix, .int .i64 li, .slice q bs.length d]] w (EncTold (ok1 fr to ti ep ix li so id bs) (numL (clampN 1) ++ (wrL bs)) w) := by
  have e := refok1 fr to ti ep ix li so id bs
  rw [← e]
  clear e
  refine rencode_core 1 fr to ti ep ix li so p q id.length c bs.length d #[.int .i64 1, .slice none 0 0, .int .i64 0, .int .i64 0, .int .i64 0, .bool false, .int .i64 0, .int .i64 0, .int .i64 0, .slice q bs.length d] _ _ (wrL bs) w (by omega) (fun W => own1 fr to ti ep ix li so p q id.length c bs.length d W) ?_ (fun W hb => fits_any 1 fr to ti ep ix li so p q id.length c d bs W (hba.later hb)) ?_
  · intro W hb
    exact aksame_gen 1 0 fr 0 to 0 ti 0 ep 0 ix 0 li false so none p q q 0 c d d [] id bs bs W (HB.nil W) (hid.later hb) (hba.later hb) (hba.later hb) (fun _ => rfl)
  · intro h W hb
    exact rb1 fr to ti ep ix li so p q c d id bs W (hba.later hb) (fitsB_small h).2.2 (fitsB_small h).2.1

theorem renc2 (fr to ti ep ix li : Int) (so : Bool) (p q : Option Addr) (c d : Nat) (id : List UInt8) (bs : List (List UInt8 × List UInt8)) (w : World) (hid : HB w (.slice p id.length c) id) (hba : BA w (.slice q bs.length d) bs) :
    Calls Try.prog 9 #[.agg #[.int .i64 2, .slice p id.length c, .int .i64 fr, .int .i64 to, .int .i64 ti, .bool so, .int .i64 ep, .int .i64 ix, .int .i64 li, .slice q bs.length d]] w (EncTold (ok2 fr to ti ep ix li so id bs) (numL (clampN 2) ++ (numL (clampN ti))) w) := by
  have e := refok2 fr to ti ep ix li so id bs
  rw [← e]
  clear e
  refine rencode_core 2 fr to ti ep ix li so p q id.length c bs.length d #[.int .i64 2, .slice none 0 0, .int .i64 0, .int .i64 0, .int .i64 ti, .bool false, .int .i64 0, .int .i64 0, .int .i64 0, .slice none 0 0] _ _ (numL (clampN ti)) w (by omega) (fun W => own2 fr to ti ep ix li so p q id.length c bs.length d W) ?_ (fun W hb => fits_any 2 fr to ti ep ix li so p q id.length c d bs W (hba.later hb)) ?_
  · intro W hb
    exact aksame_gen 2 0 fr 0 to ti ti 0 ep 0 ix 0 li false so none p none q 0 c 0 d [] id [] bs W (HB.nil W) (hid.later hb) (BA.nil W) (hba.later hb) (fun h => (List.eq_nil_of_length_eq_zero h.symm).symm)
  · intro h W hb
    exact rb2 fr to ti ep ix li so p q c d id bs W

theorem renc3 (fr to ti ep ix li : Int) (so : Bool) (p q : Option Addr) (c d : Nat) (id : List UInt8) (bs : List (List UInt8 × List UInt8)) (w : World) (hid : HB w (.slice p id.length c) id) (hba : BA w (.slice q bs.length d) bs) :
    Calls Try.prog 9 #[.agg #[.int .i64 3, .slice p id.length c, .int .i64 fr, .int .i64 to, .int .i64 ti, .bool so, .int .i64 ep, .int .i64 ix, .int .i64 li, .slice q bs.length d]] w (EncTold (ok3 fr to ti ep ix li so id bs) (numL (clampN 3) ++ (bytesL id ++ (numL (clampN to)))) w) := by
  have e := refok3 fr to ti ep ix li so id bs
  rw [← e]
  clear e
  refine rencode_core 3 fr to ti ep ix li so p q id.length c bs.length d #[.int .i64 3, .slice p id.length c, .int .i64 0, .int .i64 to, .int .i64 0, .bool false, .int .i64 0, .int .i64 0, .int .i64 0, .slice none 0 0] _ _ (bytesL id ++ (numL (clampN to))) w (by omega) (fun W => own3 fr to ti ep ix li so p q id.length c bs.length d W) ?_ (fun W hb => fits_any 3 fr to ti ep ix li so p q id.length c d bs W (hba.later hb)) ?_
  · intro W hb
    exact aksame_gen 3 0 fr to to 0 ti 0 ep 0 ix 0 li false so p p none q c c 0 d id id [] bs W (hid.later hb) (hid.later hb) (BA.nil W) (hba.later hb) (fun h => (List.eq_nil_of_length_eq_zero h.symm).symm)
  · intro h W hb
    exact rb3 fr to ti ep ix li so p q c d id bs W (hid.later hb) (fitsB_small h).1

theorem renc4 (fr to ti ep ix li : Int) (so : Bool) (p q : Option Addr) (c d : Nat) (id : List UInt8) (bs : List (List UInt8 × List UInt8)) (w : World) (hid : HB w (.slice p id.length c) id) (hba : BA w (.slice q bs.length d) bs) :
    Calls Try.prog 9 #[.agg #[.int .i64 4, .slice p id.length c, .int .i64 fr, .int .i64 to, .int .i64 ti, .bool so, .int .i64 ep, .int .i64 ix, .int .i64 li, .slice q bs.length d]] w (EncTold (ok4 fr to ti ep ix li so id bs) (numL (clampN 4) ++ (bytesL id ++ (numL (clampN ti) ++ (numL (clampN to))))) w) := by
  have e := refok4 fr to ti ep ix li so id bs
  rw [← e]
  clear e
  refine rencode_core 4 fr to ti ep ix li so p q id.length c bs.length d #[.int .i64 4, .slice p id.length c, .int .i64 0, .int .i64 to, .int .i64 ti, .bool false, .int .i64 0, .int .i64 0, .int .i64 0, .slice none 0 0] _ _ (bytesL id ++ (numL (clampN ti) ++ (numL (clampN to)))) w (by omega) (fun W => own4 fr to ti ep ix li so p q id.length c bs.length d W) ?_ (fun W hb => fits_any 4 fr to ti ep ix li so p q id.length c d bs W (hba.later hb)) ?_
  · intro W hb
    exact aksame_gen 4 0 fr to to ti ti 0 ep 0 ix 0 li false so p p none q c c 0 d id id [] bs W (hid.later hb) (hid.later hb) (BA.nil W) (hba.later hb) (fun h => (List.eq_nil_of_length_eq_zero h.symm).symm)
  · intro h W hb
    exact rb4 fr to ti ep ix li so p q c d id bs W (hid.later hb) (fitsB_small h).1

theorem renc5 (fr to ti ep ix li : Int) (so : Bool) (p q : Option Addr) (c d : Nat) (id : List UInt8) (bs : List (List UInt8 × List UInt8)) (w : World) (hid : HB w (.slice p id.length c) id) (hba : BA w (.slice q bs.length d) bs) :
    Calls Try.prog 9 #[.agg #[.int .i64 5, .slice p id.length c, .int .i64 fr, .int .i64 to, .int .i64 ti, .bool so, .int .i64 ep, .int .i64 ix, .int .i64 li, .slice q bs.length d]] w (EncTold (ok5 fr to ti ep ix li so id bs) (numL (clampN 5) ++ (bytesL id ++ (numL (clampN fr) ++ (numL (clampN to))))) w) := by
  have e := refok5 fr to ti ep ix li so id bs
  rw [← e]
  clear e
  refine rencode_core 5 fr to ti ep ix li so p q id.length c bs.length d #[.int .i64 5, .slice p id.length c, .int .i64 fr, .int .i64 to, .int .i64 0, .bool false, .int .i64 0, .int .i64 0, .int .i64 0, .slice none 0 0] _ _ (bytesL id ++ (numL (clampN fr) ++ (numL (clampN to)))) w (by omega) (fun W => own5 fr to ti ep ix li so p q id.length c bs.length d W) ?_ (fun W hb => fits_any 5 fr to ti ep ix li so p q id.length c d bs W (hba.later hb)) ?_
  · intro W hb
    exact aksame_gen 5 fr fr to to 0 ti 0 ep 0 ix 0 li false so p p none q c c 0 d id id [] bs W (hid.later hb) (hid.later hb) (BA.nil W) (hba.later hb) (fun h => (List.eq_nil_of_length_eq_zero h.symm).symm)
  · intro h W hb
    exact rb5 fr to ti ep ix li so p q c d id bs W (hid.later hb) (fitsB_small h).1

theorem renc6a (fr to ti ep ix li : Int) (p q : Option Addr) (c d : Nat) (id : List UInt8) (bs : List (List UInt8 × List UInt8)) (w : World) (hid : HB w (.slice p id.length c) id) (hba : BA w (.slice q bs.length d) bs) :
    Calls Try.prog 9 #[.agg #[.int .i64 6, .slice p id.length c, .int .i64 fr, .int .i64 to, .int .i64 ti, .bool true, .int .i64 ep, .int .i64 ix, .int .i64 li, .slice q bs.length d]] w (EncTold (ok6 fr to ti ep ix li true id bs) (numL (clampN 6) ++ (wr6 fr to li true id)) w) := by
  have e : _ = ok6 fr to ti ep ix li true id bs := (refok6a fr to ti ep ix li id bs).trans rfl
  rw [← e]
  clear e
  refine rencode_core 6 fr to ti ep ix li true p q id.length c bs.length d #[.int .i64 6, .slice p id.length c, .int .i64 fr, .int .i64 to, .int .i64 0, .bool true, .int .i64 0, .int .i64 0, .int .i64 li, .slice none 0 0] _ _ (wr6 fr to li true id) w (by omega) (fun W => own6a fr to ti ep ix li p q id.length c bs.length d W) ?_ (fun W hb => fits_any 6 fr to ti ep ix li true p q id.length c d bs W (hba.later hb)) ?_
  · intro W hb
    exact aksame_gen 6 fr fr to to 0 ti 0 ep 0 ix li li true true p p none q c c 0 d id id [] bs W (hid.later hb) (hid.later hb) (BA.nil W) (hba.later hb) (fun h => (List.eq_nil_of_length_eq_zero h.symm).symm)
  · intro h W hb
    exact rb6a fr to ti ep ix li p q c d id bs W (hid.later hb) (fitsB_small h).1

theorem renc6b (fr to ti ep ix li : Int) (p q : Option Addr) (c d : Nat) (id : List UInt8) (bs : List (List UInt8 × List UInt8)) (w : World) (hid : HB w (.slice p id.length c) id) (hba : BA w (.slice q bs.length d) bs) :
    Calls Try.prog 9 #[.agg #[.int .i64 6, .slice p id.length c, .int .i64 fr, .int .i64 to, .int .i64 ti, .bool false, .int .i64 ep, .int .i64 ix, .int .i64 li, .slice q bs.length d]] w (EncTold (ok6 fr to ti ep ix li false id bs) (numL (clampN 6) ++ (wr6 fr to li false id)) w) := by
  have e : _ = ok6 fr to ti ep ix li false id bs := (refok6b fr to ti ep ix li id bs).trans rfl
  rw [← e]
  clear e
  refine rencode_core 6 fr to ti ep ix li false p q id.length c bs.length d #[.int .i64 6, .slice none 0 0, .int .i64 fr, .int .i64 to, .int .i64 0, .bool false, .int .i64 0, .int .i64 0, .int .i64 li, .slice none 0 0] _ _ (wr6 fr to li false id) w (by omega) (fun W => own6b fr to ti ep ix li p q id.length c bs.length d W) ?_ (fun W hb => fits_any 6 fr to ti ep ix li false p q id.length c d bs W (hba.later hb)) ?_
  · intro W hb
    exact aksame_gen 6 fr fr to to 0 ti 0 ep 0 ix li li false false none p none q 0 c 0 d [] id [] bs W (HB.nil W) (hid.later hb) (BA.nil W) (hba.later hb) (fun h => (List.eq_nil_of_length_eq_zero h.symm).symm)
  · intro h W hb
    exact rb6b fr to ti ep ix li p q c d id bs W

theorem renc7 (fr to ti ep ix li : Int) (so : Bool) (p q : Option Addr) (c d : Nat) (id : List UInt8) (bs : List (List UInt8 × List UInt8)) (w : World) (hid : HB w (.slice p id.length c) id) (hba : BA w (.slice q bs.length d) bs) :
    Calls Try.prog 9 #[.agg #[.int .i64 7, .slice p id.length c, .int .i64 fr, .int .i64 to, .int .i64 ti, .bool so, .int .i64 ep, .int .i64 ix, .int .i64 li, .slice q bs.length d]] w (EncTold (ok7 fr to ti ep ix li so id bs) (numL (clampN 7) ++ (numL (clampN fr) ++ (numL (clampN to) ++ (numL (clampN ep) ++ (numL (clampN ix) ++ (numL (clampN li))))))) w) := by
  have e := refok7 fr to ti ep ix li so id bs
  rw [← e]
  clear e
  refine rencode_core 7 fr to ti ep ix li so p q id.length c bs.length d #[.int .i64 7, .slice none 0 0, .int .i64 fr, .int .i64 to, .int .i64 0, .bool false, .int .i64 ep, .int .i64 ix, .int .i64 li, .slice none 0 0] _ _ (numL (clampN fr) ++ (numL (clampN to) ++ (numL (clampN ep) ++ (numL (clampN ix) ++ (numL (clampN li)))))) w (by omega) (fun W => own7 fr to ti ep ix li so p q id.length c bs.length d W) ?_ (fun W hb => fits_any 7 fr to ti ep ix li so p q id.length c d bs W (hba.later hb)) ?_
  · intro W hb
    exact aksame_gen 7 fr fr to to 0 ti ep ep ix ix li li false so none p none q 0 c 0 d [] id [] bs W (HB.nil W) (hid.later hb) (BA.nil W) (hba.later hb) (fun h => (List.eq_nil_of_length_eq_zero h.symm).symm)
  · intro h W hb
    exact rb7 fr to ti ep ix li so p q c d id bs W

theorem renc8 (fr to ti ep ix li : Int) (so : Bool) (p q : Option Addr) (c d : Nat) (id : List UInt8) (bs : List (List UInt8 × List UInt8)) (w : World) (hid : HB w (.slice p id.length c) id) (hba : BA w (.slice q bs.length d) bs) :
    Calls Try.prog 9 #[.agg #[.int .i64 8, .slice p id.length c, .int .i64 fr, .int .i64 to, .int .i64 ti, .bool so, .int .i64 ep, .int .i64 ix, .int .i64 li, .slice q bs.length d]] w (EncTold (ok8 fr to ti ep ix li so id bs) (numL (clampN 8) ++ ([])) w) := by
  have e := refok8 fr to ti ep ix li so id bs
  rw [← e]
  clear e
  refine rencode_core 8 fr to ti ep ix li so p q id.length c bs.length d #[.int .i64 8, .slice none 0 0, .int .i64 0, .int .i64 0, .int .i64 0, .bool false, .int .i64 0, .int .i64 0, .int .i64 0, .slice none 0 0] _ _ ([]) w (by omega) (fun W => own8 fr to ti ep ix li so p q id.length c bs.length d W) ?_ (fun W hb => fits_any 8 fr to ti ep ix li so p q id.length c d bs W (hba.later hb)) ?_
  · intro W hb
    exact aksame_gen 8 0 fr 0 to 0 ti 0 ep 0 ix 0 li false so none p none q 0 c 0 d [] id [] bs W (HB.nil W) (hid.later hb) (BA.nil W) (hba.later hb) (fun h => (List.eq_nil_of_length_eq_zero h.symm).symm)
  · intro h W hb
    exact rb8 fr to ti ep ix li so p q c d id bs W

theorem renc9 (fr to ti ep ix li : Int) (so : Bool) (p q : Option Addr) (c d : Nat) (id : List UInt8) (bs : List (List UInt8 × List UInt8)) (w : World) (hid : HB w (.slice p id.length c) id) (hba : BA w (.slice q bs.length d) bs) :
    Calls Try.prog 9 #[.agg #[.int .i64 9, .slice p id.length c, .int .i64 fr, .int .i64 to, .int .i64 ti, .bool so, .int .i64 ep, .int .i64 ix, .int .i64 li, .slice q bs.length d]] w (EncTold (ok9 fr to ti ep ix li so id bs) (numL (clampN 9) ++ ([])) w) := by
  have e := refok9 fr to ti ep ix li so id bs
  rw [← e]
  clear e
  refine rencode_core 9 fr to ti ep ix li so p q id.length c bs.length d #[.int .i64 9, .slice none 0 0, .int .i64 0, .int .i64 0, .int .i64 0, .bool false, .int .i64 0, .int .i64 0, .int .i64 0, .slice none 0 0] _ _ ([]) w (by omega) (fun W => own9 fr to ti ep ix li so p q id.length c bs.length d W) ?_ (fun W hb => fits_any 9 fr to ti ep ix li so p q id.length c d bs W (hba.later hb)) ?_
  · intro W hb
    exact aksame_gen 9 0 fr 0 to 0 ti 0 ep 0 ix 0 li false so none p none q 0 c 0 d [] id [] bs W (HB.nil W) (hid.later hb) (BA.nil W) (hba.later hb) (fun h => (List.eq_nil_of_length_eq_zero h.symm).symm)
  · intro h W hb
    exact rb9 fr to ti ep ix li so p q c d id bs W

theorem renc10 (fr to ti ep ix li : Int) (so : Bool) (p q : Option Addr) (c d : Nat) (id : List UInt8) (bs : List (List UInt8 × List UInt8)) (w : World) (hid : HB w (.slice p id.length c) id) (hba : BA w (.slice q bs.length d) bs) :
    Calls Try.prog 9 #[.agg #[.int .i64 10, .slice p id.length c, .int .i64 fr, .int .i64 to, .int .i64 ti, .bool so, .int .i64 ep, .int .i64 ix, .int .i64 li, .slice q bs.length d]] w (EncTold (ok10 fr to ti ep ix li so id bs) (numL (clampN 10) ++ (bytesL id ++ (numL (clampN fr) ++ (numL (clampN to) ++ (numL (clampN li)))))) w) := by
  have e := refok10 fr to ti ep ix li so id bs
  rw [← e]
  clear e
  refine rencode_core 10 fr to ti ep ix li so p q id.length c bs.length d #[.int .i64 10, .slice p id.length c, .int .i64 fr, .int .i64 to, .int .i64 0, .bool false, .int .i64 0, .int .i64 0, .int .i64 li, .slice none 0 0] _ _ (bytesL id ++ (numL (clampN fr) ++ (numL (clampN to) ++ (numL (clampN li))))) w (by omega) (fun W => own10 fr to ti ep ix li so p q id.length c bs.length d W) ?_ (fun W hb => fits_any 10 fr to ti ep ix li so p q id.length c d bs W (hba.later hb)) ?_
  · intro W hb
    exact aksame_gen 10 fr fr to to 0 ti 0 ep 0 ix li li false so p p none q c c 0 d id id [] bs W (hid.later hb) (hid.later hb) (BA.nil W) (hba.later hb) (fun h => (List.eq_nil_of_length_eq_zero h.symm).symm)
  · intro h W hb
    exact rb10 fr to ti ep ix li so p q c d id bs W (hid.later hb) (fitsB_small h).1

theorem rencode_any (k fr to ti ep ix li : Int) (so : Bool) (p q : Option Addr) (c d : Nat) (id : List UInt8) (bs : List (List UInt8 × List UInt8)) (w : World) (hid : HB w (.slice p id.length c) id) (hba : BA w (.slice q bs.length d) bs) :
    Calls Try.prog 9 #[.agg #[.int .i64 k, .slice p id.length c, .int .i64 fr, .int .i64 to, .int .i64 ti, .bool so, .int .i64 ep, .int .i64 ix, .int .i64 li, .slice q bs.length d]] w (EncAll k fr to ti ep ix li so id bs w) := by
  by_cases hk : k ≤ 10 ∧ 1 ≤ k
  · rcases kinds_int k hk with rfl | rfl | rfl | rfl | rfl | rfl | rfl | rfl | rfl | rfl
    · exact (renc1 fr to ti ep ix li so p q c d id bs w hid hba).mono fun x w' h => .inl ⟨hk.1, hk.2, h⟩
    · exact (renc2 fr to ti ep ix li so p q c d id bs w hid hba).mono fun x w' h => .inl ⟨hk.1, hk.2, h⟩
    · exact (renc3 fr to ti ep ix li so p q c d id bs w hid hba).mono fun x w' h => .inl ⟨hk.1, hk.2, h⟩
    · exact (renc4 fr to ti ep ix li so p q c d id bs w hid hba).mono fun x w' h => .inl ⟨hk.1, hk.2, h⟩
    · exact (renc5 fr to ti ep ix li so p q c d id bs w hid hba).mono fun x w' h => .inl ⟨hk.1, hk.2, h⟩
    · cases so with
      | true => exact (renc6a fr to ti ep ix li p q c d id bs w hid hba).mono fun x w' h => .inl ⟨hk.1, hk.2, h⟩
      | false => exact (renc6b fr to ti ep ix li p q c d id bs w hid hba).mono fun x w' h => .inl ⟨hk.1, hk.2, h⟩
    · exact (renc7 fr to ti ep ix li so p q c d id bs w hid hba).mono fun x w' h => .inl ⟨hk.1, hk.2, h⟩
    · exact (renc8 fr to ti ep ix li so p q c d id bs w hid hba).mono fun x w' h => .inl ⟨hk.1, hk.2, h⟩
    · exact (renc9 fr to ti ep ix li so p q c d id bs w hid hba).mono fun x w' h => .inl ⟨hk.1, hk.2, h⟩
    · exact (renc10 fr to ti ep ix li so p q c d id bs w hid hba).mono fun x w' h => .inl ⟨hk.1, hk.2, h⟩
  · exact (renc_bad k fr to ti ep ix li so p q id.length c bs.length d w hk).mono fun x w' h => .inr ⟨hk, h.1, h.2⟩

end Go.Proofs.Ythkgbgkijdeaoaa
