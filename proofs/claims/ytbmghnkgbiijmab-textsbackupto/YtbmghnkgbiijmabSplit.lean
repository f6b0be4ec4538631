/- What this text proves: the walk of texts.Split over this program: any bytes (no more than 4294967296 of them) taken apart into a tag and parts, each in new memory, or the error where they end too early. -/
import Derived.Test.YtbmghnkgbiijmabTake
namespace Go.Proofs.Ytbmghnkgbiijmab
open Go.RowKit

/-- How long a slice is: the loop's measure. -/
def lenOf : Value → Nat | .slice _ n _ => n | _ => 0

/-- What Split answers, and the world behind it. -/
def SplitSaid (w : World) (l : List UInt8) (e : Ending) (w' : World) : Prop :=
  (splitF l = none ∧ e = .returned (.tuple #[.int .i64 0, .slice none 0 0, .int .i64 3]) ∧ Below w.heap.size w w') ∨
  ∃ t ps v, splitF l = some (t, ps) ∧ e = .returned (.tuple #[.int .i64 (t.toNat : Int), v, .int .i64 0]) ∧ OP w' w.heap.size 23 5 v ps ∧ Below w.heap.size w w'

set_option maxHeartbeats 400000 in
theorem split_nil (v : Value) (w : World) (h : HB w v []) : Calls Try.prog 7 #[v] w (SplitSaid w []) := by
  obtain ⟨p, c, rfl⟩ := h.shape
  clear h
  go_enter Try.func7, Try.ntmps7
  go_wp2
  go_ret3
  exact .inl ⟨rfl, rfl, Below.refl _ _⟩

theorem op_alloc {w w' : World} {base : Nat} {rt bt : TypeId} {v v' x : Value} {ls : List (List UInt8)} {l : List UInt8} {vs : List Value} {o : Obj} (hrb : bt ≠ rt) (h1 : vs.length = ls.length)
    (h3 : ∀ (i : Nat) x l, vs[i]? = some x → ls[i]? = some l → w.ownsRow base bt 1 x l.length (bcs l)) (h2 : w.ownsRow base rt 1 v ls.length vs) (hx : w.ownsRow base bt 1 x l.length (bcs l))
    (hg : (w.alloc o).grownBy w' v.ownBlock) (hown : w'.ownsRow base rt 1 v' (ls.length + 1) (vs ++ [x])) : OP w' base rt bt v' (ls ++ [l]) :=
  OP.snoc hrb h1 (fun i x l a b => (h3 i x l a b).alloc o) (h2.alloc o) (hx.alloc o) hg hown

set_option maxHeartbeats 2000000 in
theorem split_cons (v : Value) (t : UInt8) (r : List UInt8) (w : World) (h : HB w v (t :: r)) (hsz : r.length ≤ 4294967296) : Calls Try.prog 7 #[v] w (SplitSaid w (t :: r)) := by
  obtain ⟨p, c, rfl⟩ := h.shape
  obtain ⟨b, o, rfl, hc⟩ := h.addr (by simp)
  have hlen := h.len.2.1
  have hm := h.len.2.2.1
  unfold maxLen at hm
  simp only [List.length_cons] at hlen
  have c0 := hc 0 t rfl
  unfold bc at c0
  simp only [Nat.add_zero] at c0
  have ht := t.toNat_lt
  obtain ⟨i0, hi, hz0, hz1, hz2⟩ := info_parts i_bytes
  have k1 : ∀ w, (Instr.slice 23 (.slice (some ⟨b, o, none⟩) (r.length + 1) c) (some (.int .i64 1)) none none).run Try.prog w = .ok (.slice (cutP (some ⟨b, o, none⟩) c 1) r.length (c - 1)) w := by
    intro w
    have := run_cut (P := Try.prog) Try.underlying23 s_u8 (some ⟨b, o, none⟩) (r.length + 1) c 1 1 rfl (by omega) w
    simpa using this
  have hrest : HB w (.slice (cutP (some ⟨b, o, none⟩) c 1) r.length (c - 1)) r := by
    have := h.behind 1 (by simp)
    simpa using this
  clear hc h
  go_enter Try.func7, Try.ntmps7
  go_wp2
  go_loopw [5, 6] (fun v q wr => ∃ (acc : List (List UInt8)) (rest : List UInt8) (p' : Option Addr) (c' : Nat), q = .slice p' rest.length c' ∧ HB w (.slice p' rest.length c') rest ∧ OP wr w.heap.size 23 5 v acc ∧ going r acc rest ∧ Below w.heap.size w wr)
    (fun _ q _ => lenOf q)
  case atStart => exact ⟨[], r, _, _, rfl, hrest, OP.nil _ _ _ _, going_start r, Below.refl _ _⟩
  case round =>
    obtain ⟨acc, rest, p', c', rfl, hh, hop, hgo, hbe⟩ := hrel
    clear hrest
    have hhr := hh.later hbe
    have hgl := hgo.2
    have hrm := hh.len.2
    unfold maxLen at hrm
    by_cases hne : rest = []
    · subst hne
      have hfin : splitF (t :: r) = some (t, acc) := by simp [splitF, going_end hgo]
      have HF : Hid (splitF (t :: r) = some (t, acc)) := hfin
      have hc0 : wr.cell? ⟨b, o, none⟩ = some (.int .u8 (t.toNat : Int)) := cell_later hbe c0
      clear hfin c0 hgo hh hhr
      go_wp2
      go_ret3
      exact .inr ⟨t, acc, _, HF.out, rfl, hop, hbe⟩
    · have hpos : 0 < rest.length := List.length_pos_iff.2 hne
      match htk : takeF rest with
      | none =>
        have HF : Hid (splitF (t :: r) = none) := by show splitF (t :: r) = none; simp [splitF, going_none hgo hne htk]
        clear hgo
        have HT : Hid (takeF rest = none) := htk
        clear htk hne
        go_wp2_with (go_at_call 11; refine (take_none _ rest _ hhr HT.out).mono ?_; rintro e w1 ⟨rfl, hb1⟩)
        go_ret3
        exact .inl ⟨HF.out, rfl, hbe.trans (hb1.mono hbe.size)⟩
      | some (p1, r1) =>
        have hgo1 := going_some hgo htk
        have hlt := takeF_lt htk
        have HT : Hid (takeF rest = some (p1, r1)) := htk
        clear htk hne hgo
        obtain ⟨vs, hv1, hv2, hv3⟩ := hop
        have hal : acc.length ≤ 4294967296 := by omega
        go_wp2_with (first | (go_at_call 11; refine (take_some _ rest p1 r1 _ hhr HT.out).mono ?_; rintro e w1 ⟨q1, d1, q2, d2, rfl, ho, hh1, hb1⟩; have hv4 := owns_later hv2 hb1) | (at_builtin; refine wpList_append_own _ rfl _ _ 22 rfl w.heap.size 23 i0 (.slice none 0 0) 1 24 Try.underlying22 hi hz0 hz1 hz2 rfl (by decide) _ _ _ rfl (hv4.alloc _) ⟨w1.heap.size, 0, none⟩ 1 1 [.slice q1 p1.length d1] rfl rfl ?qa ?qb ?qc ?qd ?qe ?_))
        case qa => exact cell_one_new _ _ _
        case qb => intro u hu; simp at hu; subst hu; rfl
        case qc => unfold maxLen; omega
        case qd => omega
        case qe => have := hbe.size; have := hb1.size; simp; omega
        intro v' w2 hown2 hgrow2 _
        have hb2 : Below w.heap.size w w2 := by
          have q1 := hbe.size
          have q2 := hb1.size
          exact ((hbe.trans (hb1.mono q1)).alloc (by omega) _).grown hgrow2 (by simp; omega) (fun k hk => (hv4.lt k hk).1)
        have hop2 := op_alloc (by decide) hv1 (fun i x l a b => owns_later (hv3 i x l a b) hb1) hv4 (owns_mono ho hbe.size) hgrow2 hown2
        have hh2 := hh1 w hh
        clear hown2 hgrow2 hv4 hv3 hv2 hv1 ho hb1 hh1 hhr hh
        go_wp2
        go_roundw
        case rel => first | exact ⟨acc ++ [p1], r1, q2, d2, rfl, hh2, hop2, hgo1, hb2⟩ | ((repeat apply Exists.intro); exact ⟨⟨acc ++ [p1], r1, q2, d2, rfl, hh2, hop2, hgo1, hb2⟩, rfl⟩)
        case measure => simp [lenOf]; omega

theorem split_any (v : Value) (l : List UInt8) (w : World) (h : HB w v l) (hsz : l.length ≤ 4294967296) : Calls Try.prog 7 #[v] w (SplitSaid w l) := by
  cases l with
  | nil => exact split_nil v w h
  | cons t r => exact split_cons v t r w h (by simp at hsz; omega)

theorem SplitSaid.err {w : World} {l : List UInt8} {e : Ending} {w' : World} (h : SplitSaid w l e w') (hn : splitF l = none) : e = .returned (.tuple #[.int .i64 0, .slice none 0 0, .int .i64 3]) ∧ Below w.heap.size w w' := by
  rcases h with ⟨_, he, hb⟩ | ⟨t, ps, v, he, _⟩
  · exact ⟨he, hb⟩
  · rw [hn] at he
    cases he

theorem SplitSaid.fine {w : World} {l : List UInt8} {e : Ending} {w' : World} {t : UInt8} {ps : List (List UInt8)} (h : SplitSaid w l e w') (hs : splitF l = some (t, ps)) :
    ∃ p c, e = .returned (.tuple #[.int .i64 (t.toNat : Int), .slice p ps.length c, .int .i64 0]) ∧ PA w' (.slice p ps.length c) ps ∧ Below w.heap.size w w' := by
  rcases h with ⟨he, _⟩ | ⟨t', ps', v, he, e1, ho, hb⟩
  · rw [hs] at he
    cases he
  · rw [hs] at he
    cases he
    have hp := ho.pa
    obtain ⟨p, c, hv⟩ := hp.shape
    subst hv
    exact ⟨p, c, e1, hp, hb⟩

end Go.Proofs.Ytbmghnkgbiijmab
