/- What this text holds: what is read of a batch's bytes, plainly; what was written is read as it was (no walk). What this text proves: the walk of change.Write over this program: bytes, and a batch behind them. -/
import Derived.Test.YtcgpgnajmfemhaaGreatDoorJR1
import Derived.Test.YtcgpgnajmfemhaaGreatDoorJQ12
import Derived.Test.YtcgpgnajmfemhaaGreatDoorJE5
namespace Go.Proofs.YtcgpgnajmfemhaaGreatDoor
open Go.RowKit

/-- The bindings as bytes, one behind the other; and a batch. -/
def binL (bs : List (List UInt8 × List UInt8)) : List UInt8 := (bs.map fun x => bytesL x.1 ++ bytesL x.2).flatten
def wrL (bs : List (List UInt8 × List UInt8)) : List UInt8 := numL bs.length ++ binL bs
theorem binL_snoc (bs : List (List UInt8 × List UInt8)) (x : List UInt8 × List UInt8) : binL (bs ++ [x]) = binL bs ++ (bytesL x.1 ++ bytesL x.2) := by simp [binL]
theorem binL_cons (bs : List (List UInt8 × List UInt8)) (x : List UInt8 × List UInt8) : binL (x :: bs) = bytesL x.1 ++ (bytesL x.2 ++ binL bs) := by simp [binL]

/-- How many bytes they hold. -/
def bulkB (bs : List (List UInt8 × List UInt8)) : Nat := (bs.map fun x => x.1.length + x.2.length).sum
theorem bulkB_take (bs : List (List UInt8 × List UInt8)) (k : Nat) : bulkB (bs.take k) ≤ bulkB bs := by
  induction bs generalizing k with
  | nil => simp
  | cons a t ih =>
    cases k with
    | zero => simp [bulkB]
    | succ k =>
      have := ih k
      simp only [bulkB, List.take_succ_cons, List.map_cons, List.sum_cons] at this ⊢
      omega
theorem bulkB_mem {bs : List (List UInt8 × List UInt8)} {x : List UInt8 × List UInt8} (h : x ∈ bs) : x.1.length + x.2.length ≤ bulkB bs := by
  induction bs with
  | nil => cases h
  | cons a t ih =>
    have e : bulkB (a :: t) = (a.1.length + a.2.length) + bulkB t := by simp [bulkB]
    rw [e]
    rcases List.mem_cons.1 h with rfl | h
    · omega
    · have := ih h
      omega

theorem bytesL_big (l : List UInt8) (h : l.length ≤ 4611686018427387904) : (bytesL l).length ≤ l.length + 9 := by
  unfold bytesL
  rw [List.length_append, numL_length]
  have := cnt_le8 l.length (by omega)
  omega

theorem binL_len (bs : List (List UInt8 × List UInt8)) (h : bulkB bs ≤ 1048576) : (binL bs).length ≤ bulkB bs + 18 * bs.length := by
  induction bs with
  | nil => simp [binL]
  | cons a t ih =>
    have e : bulkB (a :: t) = (a.1.length + a.2.length) + bulkB t := by simp [bulkB]
    rw [e] at h ⊢
    have h1 := bytesL_big a.1 (by omega)
    have h2 := bytesL_big a.2 (by omega)
    have h3 := ih (by omega)
    rw [binL_cons, List.length_append, List.length_append, List.length_cons]
    omega

/-- The bindings, read one behind the other: they, what is left, the error. -/
def bdS (mi mk : Int) (l : List UInt8) (e : Int) : Nat → List (List UInt8 × List UInt8) × List UInt8 × Int
  | 0 => ([], l, e)
  | k + 1 => ((bdS mi mk l e k).1 ++ [((rdB (bdS mi mk l e k).2.1 (bdS mi mk l e k).2.2 mi).2.1, (rdB (rdB (bdS mi mk l e k).2.1 (bdS mi mk l e k).2.2 mi).2.2 (rdB (bdS mi mk l e k).2.1 (bdS mi mk l e k).2.2 mi).1 mk).2.1)],
    (rdB (rdB (bdS mi mk l e k).2.1 (bdS mi mk l e k).2.2 mi).2.2 (rdB (bdS mi mk l e k).2.1 (bdS mi mk l e k).2.2 mi).1 mk).2.2, (rdB (rdB (bdS mi mk l e k).2.1 (bdS mi mk l e k).2.2 mi).2.2 (rdB (bdS mi mk l e k).2.1 (bdS mi mk l e k).2.2 mi).1 mk).1)

theorem bdS_len (mi mk : Int) (l : List UInt8) (e : Int) (k : Nat) : (bdS mi mk l e k).1.length = k := by
  induction k with
  | zero => rfl
  | succ k ih => simp [bdS, ih]
theorem bdS_le (mi mk : Int) (l : List UInt8) (e : Int) (k : Nat) : (bdS mi mk l e k).2.1.length ≤ l.length := by
  induction k with
  | zero => exact Nat.le_refl _
  | succ k ih => exact Nat.le_trans (rdB_le _ _ _) (Nat.le_trans (rdB_le _ _ _) ih)

theorem rdBz {l : List UInt8} {e most : Int} (h : (rdB l e most).1 = 0) : e = 0 ∧ l = bytesL (rdB l e most).2.1 ++ (rdB l e most).2.2 := by
  unfold rdB at h ⊢
  by_cases he : e = 0
  · rw [if_pos he] at h ⊢
    exact ⟨he, (bytesF_back l most h).1⟩
  · rw [if_neg he] at h
    exact absurd h he
theorem rdUz {l : List UInt8} {e most : Int} (h : (rdU l e most).1 = 0) : e = 0 ∧ l = numL (rdU l e most).2.1 ++ (rdU l e most).2.2 := by
  unfold rdU at h ⊢
  by_cases he : e = 0
  · rw [if_pos he] at h ⊢
    exact ⟨he, (uintF_back l most h).1⟩
  · rw [if_neg he] at h
    exact absurd h he

theorem bdS_zero (mi mk : Int) (l : List UInt8) (e : Int) : ∀ k, (bdS mi mk l e k).2.2 = 0 → e = 0 ∧ ∃ pre, l = pre ++ (bdS mi mk l e k).2.1 := by
  intro k
  induction k with
  | zero => intro h; exact ⟨h, [], rfl⟩
  | succ k ih =>
    intro h
    simp only [bdS] at h ⊢
    obtain ⟨h1, h2⟩ := rdBz h
    obtain ⟨h3, h4⟩ := rdBz h1
    obtain ⟨h5, pre, h6⟩ := ih h3
    refine ⟨h5, pre ++ (bytesL (rdB (bdS mi mk l e k).2.1 (bdS mi mk l e k).2.2 mi).2.1 ++ bytesL (rdB (rdB (bdS mi mk l e k).2.1 (bdS mi mk l e k).2.2 mi).2.2 (rdB (bdS mi mk l e k).2.1 (bdS mi mk l e k).2.2 mi).1 mk).2.1), ?_⟩
    rw [List.append_assoc, List.append_assoc, ← h2, ← h4]
    exact h6

/-- What is read of a batch's bytes. -/
def crU (b : List UInt8) : Int × Nat × List UInt8 := rdU b 0 32
def crS (mi mk : Int) (b : List UInt8) : List (List UInt8 × List UInt8) × List UInt8 × Int := bdS mi mk (crU b).2.2 (crU b).1 (crU b).2.1

theorem cr_rest (mi mk : Int) (b : List UInt8) (h : (crS mi mk b).2.2 = 0) : (crS mi mk b).2.1 = b.drop (b.length - (crS mi mk b).2.1.length) ∧ (crS mi mk b).2.1.length ≤ b.length := by
  obtain ⟨h1, pre, h2⟩ := bdS_zero mi mk _ _ _ h
  obtain ⟨_, h3⟩ := rdUz (show (rdU b 0 32).1 = 0 from h1)
  change b = numL (crU b).2.1 ++ (crU b).2.2 at h3
  change (crU b).2.2 = pre ++ (crS mi mk b).2.1 at h2
  have h4 : ∃ A, b = A ++ (crS mi mk b).2.1 := by
    refine ⟨numL (crU b).2.1 ++ pre, ?_⟩
    conv => lhs; rw [h3, h2]
    simp
  obtain ⟨A, h4⟩ := h4
  clear h1 h2 h3 h
  generalize (crS mi mk b).2.1 = R at *
  subst h4
  constructor
  · simp
  · simp

theorem rdBp (s more : List UInt8) (most : Int) (h : s.length ≤ 4611686018427387904) (hm : (s.length : Int) ≤ most) : rdB (bytesL s ++ more) 0 most = (0, s, more) := by
  unfold rdB
  rw [if_pos rfl]
  exact bytesF_put s more most h hm

theorem bdS_put (mi mk : Int) (more : List UInt8) (bs : List (List UInt8 × List UInt8)) (hz : ∀ x ∈ bs, (x.1.length : Int) ≤ mi ∧ (x.2.length : Int) ≤ mk) (hb : bulkB bs ≤ 1048576) : ∀ k, k ≤ bs.length → bdS mi mk (binL bs ++ more) 0 k = (bs.take k, binL (bs.drop k) ++ more, 0) := by
  intro k
  induction k with
  | zero => intro _; simp [bdS]
  | succ k ih =>
    intro hk
    have e := ih (by omega)
    have hlt : k < bs.length := by omega
    obtain ⟨z1, z2⟩ := hz bs[k] (List.getElem_mem hlt)
    have hm := bulkB_mem (List.getElem_mem hlt)
    simp only [bdS, e]
    rw [List.drop_eq_getElem_cons hlt, binL_cons, List.append_assoc, List.append_assoc, rdBp _ _ mi (by omega) z1]
    simp only
    rw [rdBp _ _ mk (by omega) z2]
    simp only
    rw [List.take_add_one, List.getElem?_eq_getElem hlt]
    rfl

/-- What was written is read, with anything behind. -/
theorem cr_back (mi mk : Int) (bs : List (List UInt8 × List UInt8)) (more : List UInt8) (hz : ∀ x ∈ bs, (x.1.length : Int) ≤ mi ∧ (x.2.length : Int) ≤ mk) (hb : bulkB bs ≤ 1048576) (hn : bs.length ≤ 32) : crS mi mk (wrL bs ++ more) = (bs, more, 0) := by
  have hU : crU (wrL bs ++ more) = (0, bs.length, binL bs ++ more) := by
    unfold crU rdU
    rw [if_pos rfl]
    unfold wrL
    rw [List.append_assoc]
    exact uintF_put bs.length _ 32 (by omega) (by omega)
  unfold crS
  rw [hU]
  simp only
  rw [bdS_put mi mk more bs hz hb _ (Nat.le_refl _)]
  simp [binL]

end Go.Proofs.YtcgpgnajmfemhaaGreatDoor

namespace Go.Proofs.YtcgpgnajmfemhaaGreatDoor
open Go.RowKit

theorem binL_take (bs : List (List UInt8 × List UInt8)) (k : Nat) (x : List UInt8 × List UInt8) (h : bs[k]? = some x) : binL (bs.take (k + 1)) = binL (bs.take k) ++ bytesL x.1 ++ bytesL x.2 := by
  rw [List.take_add_one, h]
  show binL (bs.take k ++ [x]) = _
  rw [binL_snoc, List.append_assoc]

set_option maxRecDepth 100000 in
set_option maxHeartbeats 4000000 in
theorem cwrite_any (v u : Value) (l : List UInt8) (bs : List (List UInt8 × List UInt8)) (w : World) (hv : HB w v l) (hu : BA w u bs) (hl : l.length ≤ 1048576) (hb : bulkB bs ≤ 1048576) (hn : bs.length ≤ 40) :
    Calls Tryz.prog 86 #[v, u] w fun x w' => ∃ v', x = .returned v' ∧ w'.ownsRow w.heap.size 5 1 v' (l ++ wrL bs).length (bcs (l ++ wrL bs)) ∧ Below w.heap.size w w' := by
  obtain ⟨p, c, rfl⟩ := hu.shape
  have hU := cuint_any v l (bs.length : Int) w hv (by omega)
  rw [clampN_nat bs.length (by omega)] at hU
  have hnl : (numL bs.length).length ≤ 9 := by
    rw [numL_length]
    have := cnt_le8 bs.length (by omega)
    omega
  have HW : Hid (l ++ wrL bs = l ++ numL bs.length ++ binL (bs.take bs.length)) := by show _ = _; rw [List.take_length]; simp [wrL]
  obtain ⟨F, hF⟩ : ∃ F, F = l ++ numL bs.length := ⟨_, rfl⟩
  rw [← hF] at hU HW
  have hFl : F.length ≤ 1048585 := by rw [hF, List.length_append]; omega
  clear hF hv
  go_enter Tryz.func86, Tryz.ntmps86
  go_wp2_with fail
  refine hU.mono ?_
  rintro x w1 ⟨p1, c1, rfl, o1, b1⟩
  clear hU
  go_wp2
  go_loopw [0, 13] (fun v i wr => ∃ k : Nat, k ≤ bs.length ∧ i = .int .i64 (k : Int) ∧ wr.ownsRow w.heap.size 5 1 v (F ++ binL (bs.take k)).length (bcs (F ++ binL (bs.take k))) ∧ Below w.heap.size w wr) (fun _ i _ => bs.length - (intOf i).toNat)
  case atStart => exact ⟨0, Nat.zero_le _, rfl, by simpa [binL] using o1, b1⟩
  case round =>
    clear o1
    obtain ⟨k, hk, rfl, hown, hbe⟩ := hrel
    by_cases hlt : k < bs.length
    · obtain ⟨bl, o, rfl⟩ := hu.addr (by omega)
      obtain ⟨x, q, kc, r, d, hx, c1', c2', h1, h2⟩ := hu.get k hlt
      have hlt2 : (k : Int) < (bs.length : Int) := by omega
      have hmem := List.mem_of_getElem? hx.out
      have hxb := bulkB_mem hmem
      have hbt2 := bulkB_take bs k
      have hbt := binL_len (bs.take k) (by omega)
      have htl : (bs.take k).length ≤ 40 := by simp; omega
      have HB1 : Hid (F ++ binL (bs.take (k + 1)) = F ++ binL (bs.take k) ++ bytesL x.1 ++ bytesL x.2) := by show _ = _; rw [binL_take bs k x hx.out]; simp
      have e1 := bytesL_big x.1 (by omega)
      have e2 := bytesL_big x.2 (by omega)
      have hGl : (F ++ binL (bs.take k)).length ≤ 2200000 := by rw [List.length_append]; omega
      have x1 := cell_later hbe c1'
      have x2 := cell_later hbe c2'
      have bA := (Below.refl wr.heap.size wr).alloc (Nat.le_refl _) (.cells #[.slice q x.1.length kc, .slice r x.2.length d] 90)
      have gA := heap_alloc_new wr (.cells #[.slice q x.1.length kc, .slice r x.2.length d] 90)
      have bA0 := hbe.trans (bA.mono hbe.size)
      have hC := cbytes_any (.slice none 0 0) _ [] x.1 _ (HB.nil _) (h1.later bA0) (by simp; omega)
      rw [List.nil_append] at hC
      have hownA := owns_later hown bA
      obtain ⟨V, hV⟩ : ∃ V, V = wr.alloc (.cells #[.slice q x.1.length kc, .slice r x.2.length d] 90) := ⟨_, rfl⟩
      rw [← hV] at bA gA hC hownA bA0
      generalize hG : F ++ binL (bs.take k) = G at *
      generalize hM1 : bytesL x.1 = M1 at *
      have hgl : wr.heap.size < V.heap.size := (Array.getElem?_eq_some_iff.1 gA).1
      clear hx hbt htl hbt2 h1 hown hG hmem HW bA hM1 c1' c2'
      go_wp2_with fail
      rw [← hV]
      refine hC.mono ?_
      rintro y w2 ⟨p2, c2, rfl, o2, b2⟩
      have hownB := owns_later hownA b2
      have bB0 := bA0.trans (b2.mono bA0.size)
      have gB := (b2.block _ hgl).trans gA
      have hsB := HB.of_owns o2
      clear hC hV o2 b2 gA bA0 hownA x1 x2
      go_wp2_with (first | (at_builtin; refine wpList_append_hb rfl (.tmp 17) (.tmp 20) 37 rfl w.heap.size 5 Tryz.underlying37 i_u8 _ _ _ rfl hownB _ _ _ M1 rfl hsB ?qa ?qb ?_))
      case qa => omega
      case qb => exact bB0.size
      intro v3 w3 hown3 hgrow3
      have b30 : Below w.heap.size w w3 := bB0.grown hgrow3 bB0.size (fun k hk => (hownB.lt k hk).1)
      have g3 := (TK.of_grown hownB hgrow3) _ _ _ _ gB (by decide)
      rw [← bcs_append, ← List.length_append] at hown3
      have hGl3 : (G ++ M1).length ≤ 3300000 := by rw [List.length_append]; omega
      generalize hG3 : G ++ M1 = G3 at *
      have hC := cbytes_any (.slice none 0 0) _ [] x.2 w3 (HB.nil _) (h2.later b30) (by simp; omega)
      rw [List.nil_append] at hC
      generalize hM2 : bytesL x.2 = M2 at *
      have y2 : w3.cell? ⟨wr.heap.size, 1, none⟩ = some (.slice r x.2.length d) := by rw [cell_of_row _ _ _ _ _ _ g3]; rfl
      clear hgrow3 hownB hsB bB0 gB g3 h2 hM2 hG3
      go_wp2_with fail
      refine hC.mono ?_
      rintro y w4 ⟨p4, c4, rfl, o4, b4⟩
      have hownD := owns_later hown3 b4
      have b40 := b30.trans (b4.mono b30.size)
      have hsD := HB.of_owns o4
      clear hC o4 b4 hown3 b30 y2
      go_wp2_with (first | (at_builtin; refine wpList_append_hb rfl (.tmp 22) (.tmp 25) 37 rfl w.heap.size 5 Tryz.underlying37 i_u8 _ _ _ rfl hownD _ _ _ M2 rfl hsD ?ra ?rb ?_))
      case ra => omega
      case rb => exact b40.size
      intro v5 w5 hown5 hgrow5
      have b50 : Below w.heap.size w w5 := b40.grown hgrow5 b40.size (fun k hk => (hownD.lt k hk).1)
      rw [← bcs_append, ← List.length_append, ← HB1.out] at hown5
      clear hgrow5 hownD hsD b40
      go_wp2
      go_roundw
      case rel => first | exact ⟨k + 1, by omega, by go_num, hown5, b50⟩ | ((repeat apply Exists.intro); exact ⟨⟨k + 1, by omega, by go_num, hown5, b50⟩, rfl⟩)
      case measure => simp [intOf]; omega
    · obtain rfl : k = bs.length := by omega
      rw [← HW.out] at hown
      clear HW
      go_wp2
      go_ret
      exact ⟨_, rfl, hown, hbe⟩

end Go.Proofs.YtcgpgnajmfemhaaGreatDoor
