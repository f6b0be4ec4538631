/- What this text proves: for the statement CodecReads: one reader's step leaves the other one as it was; bytes.Clone as a row that the call owns; Open with what is left in new memory; stores into a row of bytes. -/
import Derived.Test.YtpnginemjcphcaaXText
import Derived.Test.YtpnginemjcphcaaClone
namespace Go.Proofs.Ytpnginemjcphcaa
open Go.RowKit

/-- A block that holds a reader has no byte cell. -/
theorem HB.only_rd {w w' : World} {g : Nat} {v : Value} {l : List UInt8} {p' : Option Addr} {n' c' : Nat} {e : Int} {b' : Bool} (h : HB w v l) (hr : RD w g (.slice p' n' c') e b') (ho : Only g w w') : HB w' v l := by
  obtain ⟨p, cap, e1, h1, h2, h3, h4⟩ := h
  refine ⟨p, cap, e1, h1, h2, h3, fun hne => ?_⟩
  obtain ⟨b, o, e2, hc⟩ := h4 hne
  refine ⟨b, o, e2, fun i x hx => ?_⟩
  have c := hc i x hx
  have hb : b ≠ g := by
    intro eb
    subst eb
    have c2 := c
    rw [cell_of_row w b _ _ _ _ hr] at c2
    generalize o + i = j at c2
    match j, c2 with
    | 0, c2 => simp [bc] at c2
    | 1, c2 => simp [bc] at c2
    | 2, c2 => simp [bc] at c2
    | n + 3, c2 => simp at c2
  rw [World.cell?_of_block (w := w) (ho.block b hb (cell_lt c))]
  exact c

theorem HB.only_xd {w w' : World} {g : Nat} {v : Value} {l : List UInt8} {p' : Option Addr} {n' c' : Nat} {e : Int} (h : HB w v l) (hr : XD w g (.slice p' n' c') e) (ho : Only g w w') : HB w' v l := by
  obtain ⟨p, cap, e1, h1, h2, h3, h4⟩ := h
  refine ⟨p, cap, e1, h1, h2, h3, fun hne => ?_⟩
  obtain ⟨b, o, e2, hc⟩ := h4 hne
  refine ⟨b, o, e2, fun i x hx => ?_⟩
  have c := hc i x hx
  have hb : b ≠ g := by
    intro eb
    subst eb
    have c2 := c
    rw [cell_of_row w b _ _ _ _ hr] at c2
    generalize o + i = j at c2
    match j, c2 with
    | 0, c2 => simp [bc] at c2
    | 1, c2 => simp [bc] at c2
    | n + 2, c2 => simp at c2
  rw [World.cell?_of_block (w := w) (ho.block b hb (cell_lt c))]
  exact c

/-- What the other reader does leaves this one. -/
theorem RR.only_x {w w' : World} {g gx : Nat} {l m : List UInt8} {e e' : Int} (h : RR w g l e) (hx : XR w gx m e') (ho : Only gx w w') (hne : g ≠ gx) : RR w' g l e := by
  obtain ⟨p, c, h1, h2, h3⟩ := h
  obtain ⟨p', c', x1, _⟩ := hx
  exact ⟨p, c, h1.only ho hne, h2.only_xd x1 ho, h3⟩
theorem XR.only_r {w w' : World} {g gx : Nat} {l m : List UInt8} {e e' : Int} (h : XR w gx l e) (hr : RR w g m e') (ho : Only g w w') (hne : gx ≠ g) : XR w' gx l e := by
  obtain ⟨p, c, h1, h2, h3⟩ := h
  obtain ⟨p', c', x1, _⟩ := hr
  exact ⟨p, c, h1.only ho hne, h2.only_rd x1 ho, h3⟩
theorem HB.only_x {w w' : World} {gx : Nat} {v : Value} {l m : List UInt8} {e' : Int} (h : HB w v l) (hx : XR w gx m e') (ho : Only gx w w') : HB w' v l := by
  obtain ⟨p', c', x1, _⟩ := hx
  exact h.only_xd x1 ho

/-- bytes.Clone: a row that the call owns. -/
theorem clone_own (v : Value) (l : List UInt8) (w : World) (h : HB w v l) (hbig : l.length ≤ 140737488355328) :
    Calls Try.prog 5 #[v] w fun e w' => ∃ p c, e = .returned (.slice p l.length c) ∧ w'.ownsRow w.heap.size 5 1 (.slice p l.length c) l.length (bcs l) ∧ Below w.heap.size w w' := by
  have q22 : ∀ (w : World) (a : Option Addr) (n c n' c' : Nat), (binOp .eql 22 (.slice a n c) (.slice none n' c')).run Try.prog w = .ok (.bool a.isNone) w := fun w a n c n' c' => Lib.run_eql_slice_nil w _ _ a n c n' c' Try.underlying22
  obtain ⟨p, c, rfl⟩ := h.shape
  cases p with
  | none =>
    have hc := h.len.2.2.2 rfl
    have hl := h.len.2.1
    subst hc
    have e : l = [] := List.eq_nil_of_length_eq_zero (by omega)
    subst e
    clear h hl hbig
    go_enter Try.func5, Try.ntmps5
    go_wp2
    go_ret
    exact ⟨none, 0, rfl, World.ownsRow_nil _ _ _ _, Below.refl _ _⟩
  | some a =>
    have h2 : HB (w.alloc (.cells #[] 5)) (.slice (some a) l.length c) l := h.later ((Below.refl _ w).alloc (Nat.le_refl _) _)
    clear h
    go_enter Try.func5, Try.ntmps5
    go_wp2_with (at_builtin; refine wpList_append_hb rfl (.tmp 5) (.tmp 6) 22 rfl w.heap.size 5 Try.underlying22 i_u8 _ 0 [] rfl (World.ownsRow_made w #[] 0 (Nat.le_refl _) (Nat.zero_le _) rfl) _ _ _ l rfl h2 ?qa ?qb ?_)
    case qa => omega
    case qb => simp
    intro v1 w1 hown1 hgrow1
    have hb1 : Below w.heap.size w w1 := ((Below.refl _ w).alloc (Nat.le_refl _) _).grown hgrow1 (by simp) (by intro k hk; cases hk; exact Nat.le_refl _)
    have hown2 : w1.ownsRow w.heap.size 5 1 v1 l.length (bcs l) := by simpa using hown1
    obtain ⟨p1, c1, rfl⟩ := owns_shape hown2
    clear hown1 hgrow1 h2
    go_wp2
    go_ret
    exact ⟨_, _, rfl, hown2, hb1⟩

set_option maxHeartbeats 1000000 in
/-- Open: the reader, and what is left of it, lie in new memory. -/
theorem open_new (v : Value) (l : List UInt8) (w : World) (h : HB w v l) (hsz : l.length ≤ 140737488355328) :
    Calls Try.prog 6 #[v] w fun x w' => ∃ g p c, w.heap.size ≤ g ∧ x = .returned (.pointer (some ⟨g, 0, none⟩)) ∧ RD w' g (.slice p l.length c) 0 true ∧ HBN w' g (.slice p l.length c) l ∧ (∀ a, p = some a → w.heap.size ≤ a.block) ∧ Below w.heap.size w w' := by
  obtain ⟨p, c, rfl⟩ := h.shape
  go_enter Try.func6, Try.ntmps6
  go_wp2_with (first | (at_builtin; refine wpList_append_hb rfl (.const (.slice none 0 0)) (.tmp 3) 22 rfl w.heap.size 5 Try.underlying22 i_u8 _ 0 [] rfl (World.ownsRow_nil w _ _ _) _ _ _ l rfl h ?qa ?qb ?_))
  case qa => omega
  case qb => exact Nat.le_refl _
  intro v1 w1 hown1 hgrow1
  have hb1 : Below w.heap.size w w1 := (Below.refl _ w).grown hgrow1 (Nat.le_refl _) (by intro k hk; cases hk)
  have hown1' : w1.ownsRow w.heap.size 5 1 v1 l.length (bcs l) := by simpa using hown1
  have hlt := hown1'.lt
  obtain ⟨p1, c1, rfl⟩ := owns_shape hown1'
  have hh := HB.of_owns hown1'
  clear hgrow1 hown1 hown1'
  go_wp2
  go_ret
  refine ⟨w1.heap.size, p1, c1, hb1.size, rfl, heap_alloc_new w1 _, ⟨hh.later ((Below.refl _ w1).alloc (Nat.le_refl _) _), fun a n c e => ?_⟩, fun a e => (hlt a.block (by rw [e]; rfl)).1, hb1.alloc hb1.size _⟩
  have := (hlt a.block (by rw [e]; rfl)).2
  omega

/-- Block g holds n bytes or more that may be written. -/
def GB (w : World) (g n : Nat) : Prop := ∃ cur : Array Value, w.heap[g]? = some (.cells cur 5 (0, 0)) ∧ ∀ i, i < n → ∃ y : UInt8, cur[i]? = some (bc y)

theorem GB.get {w : World} {g n : Nat} (h : GB w g n) (i : Nat) (hi : i < n) : ∃ y : UInt8, w.cell? ⟨g, i, none⟩ = some (.int .u8 (y.toNat : Int)) ∧ w.frozen? ⟨g, i, none⟩ = false := by
  obtain ⟨cur, h1, h2⟩ := h
  obtain ⟨y, hy⟩ := h2 i hi
  refine ⟨y, ?_, by simp [World.frozen?, h1]⟩
  rw [cell_of_row w g i _ _ _ h1, hy]
  rfl

theorem GB.put {w : World} {g n : Nat} (h : GB w g n) (i : Nat) (y : UInt8) (v : Value) (hv : v = bc y) : GB (w.setCell ⟨g, i, none⟩ v) g n := by
  obtain ⟨cur, h1, h2⟩ := h
  subst hv
  refine ⟨_, heap_setCell_same w g i cur _ _ h1, fun j hj => ?_⟩
  obtain ⟨z, hz⟩ := h2 j hj
  have hlt : j < cur.size := (Array.getElem?_eq_some_iff.1 hz).1
  by_cases e : i = j
  · subst e
    exact ⟨y, by simp [hlt]⟩
  · exact ⟨z, by simp [e, hz]⟩

theorem GB.of_owns {w : World} {base n g c : Nat} {l : List UInt8} (h : w.ownsRow base 5 1 (.slice (some ⟨g, 0, none⟩) n c) n (bcs l)) : GB w g n ∧ base ≤ g := by
  obtain ⟨q1, q2⟩ := h
  rcases q2 with ⟨q3, _⟩ | ⟨g', cap, cur, q3, hb, hg, hle, hmx, hcs, htk⟩
  · cases q3
  · simp only [Value.slice.injEq, Option.some.injEq, Addr.mk.injEq, and_true, true_and] at q3
    obtain ⟨rfl, rfl⟩ := q3
    refine ⟨⟨cur, hg, fun i hi => ?_⟩, hb⟩
    rw [bcs_length] at q1
    have hi2 : i < l.length := by omega
    refine ⟨l[i], ?_⟩
    have : (bcs l)[i]? = some (bc l[i]) := by rw [bcs_get, List.getElem?_eq_getElem hi2]; rfl
    rw [← htk, List.getElem?_take, if_pos (by omega)] at this
    simpa using this

end Go.Proofs.Ytpnginemjcphcaa
