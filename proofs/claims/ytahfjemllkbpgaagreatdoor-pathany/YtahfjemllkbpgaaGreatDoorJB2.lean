/- What this text proves: the walk of the document's Cut over this program. What this text holds: plain facts: worlds that part in one block alone (no program). What this text proves: the walk of bytes.Clone over this program: the same bytes in new memory (nil stays nil). What this text proves: the walk of bytes.Clone over this program: the same bytes in a row that the call owns (nil stays nil). What this text proves: the walk of the document's Hash over this program. -/
import Derived.Test.YtahfjemllkbpgaaGreatDoorRSum
import Derived.Test.YtahfjemllkbpgaaGreatDoorJB1
import Derived.Test.YtahfjemllkbpgaaGreatDoorFacts
import Derived.Test.YtahfjemllkbpgaaGreatDoorEqual
import Derived.Test.YtahfjemllkbpgaaGreatDoorLaws
namespace Go.Proofs.YtahfjemllkbpgaaGreatDoor
open Go.RowKit

/-- Where v points, there is a block of bytes. -/
def TB (w : World) (v : Value) : Prop := ∀ b o n c, v = .slice (some ⟨b, o, none⟩) n c → ∃ cur fr, w.heap[b]? = some (.cells cur 5 fr)

theorem TB.of_owns {w : World} {base n : Nat} {v : Value} {xs : List Value} (h : w.ownsRow base 5 1 v n xs) : TB w v := by
  intro b o m c e
  rcases h.2 with ⟨rfl, _⟩ | ⟨g, cap, cur, rfl, _, hg, _⟩
  · cases e
  · simp only [Value.slice.injEq, Option.some.injEq, Addr.mk.injEq] at e
    obtain ⟨⟨rfl, _, _⟩, _⟩ := e
    exact ⟨cur, _, hg⟩
theorem TB.front {w : World} {p : Option Addr} {n c : Nat} (h : TB w (.slice p n c)) (m d : Nat) : TB w (.slice p m d) := by
  intro b o n' c' e
  simp only [Value.slice.injEq] at e
  obtain ⟨rfl, _⟩ := e
  exact h b o n c rfl
theorem TB.nil (w : World) (n c : Nat) : TB w (.slice none n c) := by intro b o m d e; simp at e
theorem TB.later {w w' : World} {v : Value} (h : TB w v) (hb : Below w.heap.size w w') : TB w' v := by
  intro b o n c e
  obtain ⟨cur, fr, hg⟩ := h b o n c e
  exact ⟨cur, fr, by rw [hb.block b (Array.getElem?_eq_some_iff.1 hg).1]; exact hg⟩

set_option maxRecDepth 100000 in
set_option maxHeartbeats 1000000 in
theorem rcut_ty (n : Int) (v : Value) (D : List UInt8) (w : World) (hD : D.length = 32) (hsum : Calls Tryz.prog 44 #[v] w fun e w' => ∃ v', e = .returned v' ∧ w'.ownsRow w.heap.size 5 1 v' 32 (bcs D) ∧ Below w.heap.size w w') :
    Calls Tryz.prog 19 #[.int .i64 n, v] w fun e w' => ∃ p c, e = .returned (.slice p (cutLen n) c) ∧ HB w' (.slice p (cutLen n) c) (D.take (cutLen n)) ∧ Below w.heap.size w w' ∧ TB w' (.slice p (cutLen n) c) := by
  have HS : Hid (Calls Tryz.prog 44 #[v] w fun e w' => ∃ v', e = .returned v' ∧ w'.ownsRow w.heap.size 5 1 v' 32 (bcs D) ∧ Below w.heap.size w w') := hsum
  have HD : Hid (D.length = 32) := hD
  clear hsum hD
  by_cases h : n ≤ 0
  · have hc : cutLen n = 0 := by unfold cutLen; omega
    rw [hc]
    clear hc
    by_cases h32 : 32 < n
    · omega
    · skip
      go_enter Tryz.func19, Tryz.ntmps19
      go_wp2_with fail
      refine HS.out.mono ?_
      rintro e w1 ⟨v1, rfl, hown1, hb1⟩
      have s1 := HB.of_owns hown1
      obtain ⟨p1, c1, hv1⟩ := owns_shape hown1
      subst hv1
      have t1 := TB.of_owns hown1
      have hl := s1.len.2.1
      have hmx := s1.len.2.2.1
      have s2 := s1.front 0 (by omega)
      have HS2 : Hid (HB w1 (.slice p1 0 c1) (D.take 0)) := s2
      clear hown1 HS s2 s1
      go_wp2_with fail
      go_ret
      exact ⟨_, _, rfl, HS2.out, hb1, t1.front _ _⟩
  · by_cases h32 : 32 < n
    · have hc : cutLen n = 32 := by unfold cutLen; omega
      rw [hc]
      clear hc
      go_enter Tryz.func19, Tryz.ntmps19
      go_wp2_with fail
      refine HS.out.mono ?_
      rintro e w1 ⟨v1, rfl, hown1, hb1⟩
      have s1 := HB.of_owns hown1
      obtain ⟨p1, c1, hv1⟩ := owns_shape hown1
      subst hv1
      have t1 := TB.of_owns hown1
      have hl := s1.len.2.1
      have hmx := s1.len.2.2.1
      have s2 := s1.front 32 (by omega)
      have HS2 : Hid (HB w1 (.slice p1 32 c1) (D.take 32)) := s2
      clear hown1 HS s2 s1
      go_wp2_with fail
      go_ret
      exact ⟨_, _, rfl, HS2.out, hb1, t1.front _ _⟩
    · obtain ⟨m, hm⟩ : ∃ m : Nat, (m : Int) = n := ⟨n.toNat, by omega⟩
      have hc : cutLen n = m := by unfold cutLen; omega
      rw [hc]
      subst hm
      have hle : m ≤ 32 := by omega
      have hle2 : (m : Int) ≤ 32 := by omega
      clear hc
      go_enter Tryz.func19, Tryz.ntmps19
      go_wp2_with fail
      refine HS.out.mono ?_
      rintro e w1 ⟨v1, rfl, hown1, hb1⟩
      have s1 := HB.of_owns hown1
      obtain ⟨p1, c1, hv1⟩ := owns_shape hown1
      subst hv1
      have t1 := TB.of_owns hown1
      have hl := s1.len.2.1
      have hmx := s1.len.2.2.1
      have s2 := s1.front m (by omega)
      have HS2 : Hid (HB w1 (.slice p1 m c1) (D.take m)) := s2
      clear hown1 HS s2 s1
      go_wp2_with fail
      go_ret
      exact ⟨_, _, rfl, HS2.out, hb1, t1.front _ _⟩

theorem rcut_any (n : Int) (v : Value) (D : List UInt8) (w : World) (hD : D.length = 32) (hsum : Calls Tryz.prog 44 #[v] w fun e w' => ∃ v', e = .returned v' ∧ w'.ownsRow w.heap.size 5 1 v' 32 (bcs D) ∧ Below w.heap.size w w') :
    Calls Tryz.prog 19 #[.int .i64 n, v] w fun e w' => ∃ p c, e = .returned (.slice p (cutLen n) c) ∧ HB w' (.slice p (cutLen n) c) (D.take (cutLen n)) ∧ Below w.heap.size w w' :=
  (rcut_ty n v D w hD hsum).mono fun _ _ ⟨p, c, h1, h2, h3, _⟩ => ⟨p, c, h1, h2, h3⟩

end Go.Proofs.YtahfjemllkbpgaaGreatDoor

namespace Go.Proofs.YtahfjemllkbpgaaGreatDoor
open Go.RowKit

/-- The second world grew out of the first one, and nothing that was there is changed but block g. -/
def Only (g : Nat) (w w' : World) : Prop := Below g w w' ∧ ∀ k, g < k → k < w.heap.size → w'.heap[k]? = w.heap[k]?

theorem Only.refl (g : Nat) (w : World) : Only g w w := ⟨Below.refl _ _, fun _ _ _ => rfl⟩
theorem Only.trans {g : Nat} {a b c : World} (h1 : Only g a b) (h2 : Only g b c) : Only g a c :=
  ⟨h1.1.trans h2.1, fun k hk hs => (h2.2 k hk (Nat.lt_of_lt_of_le hs h1.1.size)).trans (h1.2 k hk hs)⟩
theorem Only.of_below {g : Nat} {w w' : World} (h : Below w.heap.size w w') (hg : g ≤ w.heap.size) : Only g w w' := ⟨h.mono hg, fun k _ hs => h.block k hs⟩
theorem Only.setCell {g : Nat} {w w' : World} (h : Only g w w') (i : Nat) (u : Value) : Only g w (w'.setCell ⟨g, i, none⟩ u) :=
  ⟨h.1.setCell (Nat.le_refl _) _, fun k hk hs => by rw [heap_setCell_other w' ⟨g, i, none⟩ k u (by simp; omega)]; exact h.2 k hk hs⟩
theorem Only.drewN {g : Nat} {w w' : World} (h : Only g w w') (n : Nat) : Only g w (w'.drewN n) := ⟨below_drewN h.1 n, fun k hk hs => h.2 k hk hs⟩
theorem Only.below {g B : Nat} {w w' : World} (h : Only g w w') (hB : B ≤ g) : Below B w w' := h.1.mono hB
theorem Only.size {g : Nat} {w w' : World} (h : Only g w w') : w.heap.size ≤ w'.heap.size := h.1.size
theorem Only.block {g : Nat} {w w' : World} (h : Only g w w') (k : Nat) (hk : k ≠ g) (hs : k < w.heap.size) : w'.heap[k]? = w.heap[k]? := by
  rcases Nat.lt_or_gt_of_ne hk with h1 | h1
  · exact h.1.block k h1
  · exact h.2 k h1 hs

theorem cell_lt {w : World} {b o : Nat} {v : Value} (h : w.cell? ⟨b, o, none⟩ = some v) : b < w.heap.size := by
  rcases Nat.lt_or_ge b w.heap.size with h1 | h1
  · exact h1
  · exfalso
    have e : w.heap[b]? = none := Array.getElem?_eq_none h1
    simp [World.cell?, e] at h

theorem HB.only {w w' : World} {g : Nat} {v : Value} {l : List UInt8} (h : HB w v l) (hn : ∀ a n c, v = .slice (some a) n c → a.block ≠ g) (ho : Only g w w') : HB w' v l := by
  obtain ⟨p, cap, e, h1, h2, h3, h4⟩ := h
  refine ⟨p, cap, e, h1, h2, h3, fun hne => ?_⟩
  obtain ⟨b, o, e1, e2⟩ := h4 hne
  refine ⟨b, o, e1, fun i x hx => ?_⟩
  have hc := e2 i x hx
  have hb : b ≠ g := hn ⟨b, o, none⟩ l.length cap (by rw [e, e1])
  have hlt : b < w.heap.size := cell_lt hc
  rw [World.cell?_of_block (w := w) (ho.block b hb hlt)]
  exact hc

end Go.Proofs.YtahfjemllkbpgaaGreatDoor

namespace Go.Proofs.YtahfjemllkbpgaaGreatDoor
open Go.RowKit

set_option maxRecDepth 100000 in
set_option maxHeartbeats 1000000 in
theorem clone_any (v : Value) (l : List UInt8) (w : World) (h : HB w v l) (hbig : l.length ≤ 140737488355328) :
    Calls Tryz.prog 18 #[v] w fun e w' => ∃ p c, e = .returned (.slice p l.length c) ∧ HB w' (.slice p l.length c) l ∧ Below w.heap.size w w' := by
  have q22 : ∀ (w : World) (a : Option Addr) (n c n' c' : Nat), (binOp .eql 22 (.slice a n c) (.slice none n' c')).run Tryz.prog w = .ok (.bool a.isNone) w := fun w a n c n' c' => Lib.run_eql_slice_nil w _ _ a n c n' c' Tryz.underlying22
  obtain ⟨p, c, rfl⟩ := h.shape
  cases p with
  | none =>
    have hc := h.len.2.2.2 rfl
    have hl := h.len.2.1
    subst hc
    have e : l = [] := List.eq_nil_of_length_eq_zero (by omega)
    subst e
    clear h hl hbig
    go_enter Tryz.func18, Tryz.ntmps18
    go_wp2
    go_ret
    exact ⟨none, 0, rfl, HB.nil _, Below.refl _ _⟩
  | some a =>
    have h2 : HB (w.alloc (.cells #[] 5)) (.slice (some a) l.length c) l := h.later ((Below.refl _ w).alloc (Nat.le_refl _) _)
    clear h
    go_enter Tryz.func18, Tryz.ntmps18
    go_wp2_with (at_builtin; refine wpList_append_hb rfl (.tmp 5) (.tmp 6) 22 rfl w.heap.size 5 Tryz.underlying22 i_u8 _ 0 [] rfl (World.ownsRow_made w #[] 0 (Nat.le_refl _) (Nat.zero_le _) rfl) _ _ _ l rfl h2 ?qa ?qb ?_)
    case qa => omega
    case qb => simp
    intro v1 w1 hown1 hgrow1
    have hb1 : Below w.heap.size w w1 := ((Below.refl _ w).alloc (Nat.le_refl _) _).grown hgrow1 (by simp) (by intro k hk; cases hk; exact Nat.le_refl _)
    have hh := HB.of_owns (by simpa using hown1 : w1.ownsRow w.heap.size 5 1 v1 l.length (bcs l))
    obtain ⟨p1, c1, hv⟩ := hh.shape
    rw [hv] at hh ⊢
    clear hv hown1 hgrow1 h2
    go_wp2
    go_ret
    exact ⟨_, _, rfl, hh, hb1⟩

end Go.Proofs.YtahfjemllkbpgaaGreatDoor

namespace Go.Proofs.YtahfjemllkbpgaaGreatDoor
open Go.RowKit

/-- bytes.Clone: a row that the call owns. -/
theorem clone_own (v : Value) (l : List UInt8) (w : World) (h : HB w v l) (hbig : l.length ≤ 140737488355328) :
    Calls Tryz.prog 18 #[v] w fun e w' => ∃ p c, e = .returned (.slice p l.length c) ∧ w'.ownsRow w.heap.size 5 1 (.slice p l.length c) l.length (bcs l) ∧ Below w.heap.size w w' := by
  have q22 : ∀ (w : World) (a : Option Addr) (n c n' c' : Nat), (binOp .eql 22 (.slice a n c) (.slice none n' c')).run Tryz.prog w = .ok (.bool a.isNone) w := fun w a n c n' c' => Lib.run_eql_slice_nil w _ _ a n c n' c' Tryz.underlying22
  obtain ⟨p, c, rfl⟩ := h.shape
  cases p with
  | none =>
    have hc := h.len.2.2.2 rfl
    have hl := h.len.2.1
    subst hc
    have e : l = [] := List.eq_nil_of_length_eq_zero (by omega)
    subst e
    clear h hl hbig
    go_enter Tryz.func18, Tryz.ntmps18
    go_wp2
    go_ret
    exact ⟨none, 0, rfl, World.ownsRow_nil _ _ _ _, Below.refl _ _⟩
  | some a =>
    have h2 : HB (w.alloc (.cells #[] 5)) (.slice (some a) l.length c) l := h.later ((Below.refl _ w).alloc (Nat.le_refl _) _)
    clear h
    go_enter Tryz.func18, Tryz.ntmps18
    go_wp2_with (at_builtin; refine wpList_append_hb rfl (.tmp 5) (.tmp 6) 22 rfl w.heap.size 5 Tryz.underlying22 i_u8 _ 0 [] rfl (World.ownsRow_made w #[] 0 (Nat.le_refl _) (Nat.zero_le _) rfl) _ _ _ l rfl h2 ?qa ?qb ?_)
    case qa => omega
    case qb => simp
    intro v1 w1 hown1 hgrow1
    have hb1 : Below w.heap.size w w1 := ((Below.refl _ w).alloc (Nat.le_refl _) _).grown hgrow1 (by simp) (by intro k hk; cases hk; exact Nat.le_refl _)
    have hown2 : w1.ownsRow w.heap.size 5 1 v1 l.length (bcs l) := by simpa using hown1
    obtain ⟨p1, c1, rfl⟩ := owns_shape hown2
    clear hown1 hgrow1 h2
    go_wp2
    go_ret
    exact ⟨_, _, rfl, hown2, hb1⟩

end Go.Proofs.YtahfjemllkbpgaaGreatDoor

namespace Go.Proofs.YtahfjemllkbpgaaGreatDoor
open Go.RowKit

set_option maxRecDepth 100000 in
set_option maxHeartbeats 1000000 in
theorem rhash_ty (size tag er : Int) (v : Value) (L D : List UInt8) (w : World) (hv : ∃ p n c, v = .slice p n c) (hD : D.length = 32)
    (ht : Calls Tryz.prog 56 #[.int .i64 tag, v] w fun e w' => ∃ p c, e = .returned (.tuple #[.slice p L.length c, .int .i64 er]) ∧ HB w' (.slice p L.length c) L ∧ Below w.heap.size w w')
    (hs : ∀ v w', HB w' v L → Below w.heap.size w w' → Calls Tryz.prog 44 #[v] w' fun e w'' => ∃ v', e = .returned v' ∧ w''.ownsRow w'.heap.size 5 1 v' 32 (bcs D) ∧ Below w'.heap.size w' w'') :
    Calls Tryz.prog 112 #[.int .i64 size, .int .i64 tag, v] w fun e w' => ∃ p c, e = .returned (.slice p (hashL size er D).length c) ∧ HB w' (.slice p (hashL size er D).length c) (hashL size er D) ∧ Below w.heap.size w w' ∧ TB w' (.slice p (hashL size er D).length c) := by
  obtain ⟨p, n, c, rfl⟩ := hv
  have HT : Hid (Calls Tryz.prog 56 #[.int .i64 tag, .slice p n c] w fun e w' => ∃ p c, e = .returned (.tuple #[.slice p L.length c, .int .i64 er]) ∧ HB w' (.slice p L.length c) L ∧ Below w.heap.size w w') := ht
  have HS : Hid _ := hs
  have HD : Hid (D.length = 32) := hD
  clear ht hs hD
  by_cases h0 : er = 0
  · subst h0
    have hl : hashL size 0 D = D.take (cutLen size) := by simp [hashL]
    rw [hl]
    clear hl
    have HL : Hid ((D.take (cutLen size)).length = cutLen size) := by
      have := cutLen_le size
      show _ = _
      rw [List.length_take, HD.out]
      omega
    go_enter Tryz.func112, Tryz.ntmps112
    go_wp2_with fail
    refine HT.out.mono ?_
    rintro e w1 ⟨p1, c1, rfl, h1, hb1⟩
    go_wp2_with fail
    refine (rcut_ty _ _ _ _ HD.out (HS.out _ _ h1 hb1)).mono ?_
    rintro e w2 ⟨p2, c2, rfl, h2, hb2, t2⟩
    have HH : Hid (HB w2 (.slice p2 (cutLen size) c2) (D.take (cutLen size))) := h2
    clear h1 h2 HT HS
    go_wp2
    go_ret
    refine ⟨p2, c2, ?_, ?_, hb1.trans (hb2.mono hb1.size), t2.front _ _⟩
    · rw [HL.out]; rfl
    · rw [HL.out]; exact HH.out
  · have hl : hashL size er D = [] := by simp [hashL, h0]
    rw [hl]
    clear hl HS HD
    go_enter Tryz.func112, Tryz.ntmps112
    go_wp2_with fail
    refine HT.out.mono ?_
    rintro e w1 ⟨p1, c1, rfl, h1, hb1⟩
    clear HT h1
    go_wp2
    go_ret
    exact ⟨none, 0, rfl, HB.nil _, hb1, TB.nil _ _ _⟩

theorem rhash_toT (size : Int) (tag : Nat) (v : Value) (ls : List (List UInt8)) (w : World) (hn : ls.length ≤ 10) (ht : tag ≤ 255) (h : PA w v ls) :
    Calls Tryz.prog 112 #[.int .i64 size, .int .i64 (tag : Int), v] w fun e w' => ∃ p c, e = .returned (.slice p (hashF size tag ls).length c) ∧ HB w' (.slice p (hashF size tag ls).length c) (hashF size tag ls) ∧ Below w.heap.size w w' ∧ TB w' (.slice p (hashF size tag ls).length c) := by
  obtain ⟨p, c, hv⟩ := h.shape
  by_cases hf : fits ls
  · have hle := body_le ls hf
    have e1 : hashF size tag ls = hashL size 0 (sha (UInt8.ofNat tag :: body ls)) := by
      unfold hashF hashL
      rw [if_pos (show ∀ p ∈ ls, p.length ≤ 65535 from hf), if_pos rfl]
    rw [e1]
    have hl : (UInt8.ofNat tag :: body ls).length ≤ 140737488351232 := by simp; omega
    refine rhash_ty size tag 0 v (UInt8.ofNat tag :: body ls) _ w ⟨p, _, c, hv⟩ (sha_length _) ?_ ?_
    · refine (rtext_in tag v ls w (by omega) (by omega) h (by omega)).mono fun e w' ⟨h1, _, hb⟩ => ?_
      obtain ⟨v', he, ho⟩ := h1 hf
      have hh := HB.of_owns ho
      obtain ⟨p, c, hv⟩ := hh.shape
      subst hv
      exact ⟨p, c, he, hh, hb⟩
    · intro v w' hv _
      exact rsum_any v _ w' hv hl
  · have e1 : hashF size tag ls = hashL size 4 (sha []) := by
      unfold hashF hashL
      rw [if_neg (show ¬ ∀ p ∈ ls, p.length ≤ 65535 from hf), if_neg (by decide)]
    rw [e1]
    refine rhash_ty size tag 4 v [] _ w ⟨p, _, c, hv⟩ (sha_length _) ?_ ?_
    · exact (rtext_in tag v ls w (by omega) (by omega) h (by omega)).mono fun e w' ⟨_, h2, hb⟩ => ⟨none, 0, h2 hf, HB.nil _, hb⟩
    · intro v w' hv _
      exact rsum_any v _ w' hv (by simp)

theorem rhash_any (size tag er : Int) (v : Value) (L D : List UInt8) (w : World) (hv : ∃ p n c, v = .slice p n c) (hD : D.length = 32)
    (ht : Calls Tryz.prog 56 #[.int .i64 tag, v] w fun e w' => ∃ p c, e = .returned (.tuple #[.slice p L.length c, .int .i64 er]) ∧ HB w' (.slice p L.length c) L ∧ Below w.heap.size w w')
    (hs : ∀ v w', HB w' v L → Below w.heap.size w w' → Calls Tryz.prog 44 #[v] w' fun e w'' => ∃ v', e = .returned v' ∧ w''.ownsRow w'.heap.size 5 1 v' 32 (bcs D) ∧ Below w'.heap.size w' w'') :
    Calls Tryz.prog 112 #[.int .i64 size, .int .i64 tag, v] w fun e w' => ∃ p c, e = .returned (.slice p (hashL size er D).length c) ∧ HB w' (.slice p (hashL size er D).length c) (hashL size er D) ∧ Below w.heap.size w w' :=
  (rhash_ty size tag er v L D w hv hD ht hs).mono fun _ _ ⟨p, c, h1, h2, h3, _⟩ => ⟨p, c, h1, h2, h3⟩

theorem rhash_to (size : Int) (tag : Nat) (v : Value) (ls : List (List UInt8)) (w : World) (hn : ls.length ≤ 10) (ht : tag ≤ 255) (h : PA w v ls) :
    Calls Tryz.prog 112 #[.int .i64 size, .int .i64 (tag : Int), v] w fun e w' => ∃ p c, e = .returned (.slice p (hashF size tag ls).length c) ∧ HB w' (.slice p (hashF size tag ls).length c) (hashF size tag ls) ∧ Below w.heap.size w w' :=
  (rhash_toT size tag v ls w hn ht h).mono fun _ _ ⟨p, c, h1, h2, h3, _⟩ => ⟨p, c, h1, h2, h3⟩

end Go.Proofs.YtahfjemllkbpgaaGreatDoor
