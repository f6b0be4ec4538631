/- What this text proves: the walk of the document's Split (annalsref02) over this program: any bytes (no more than 4294967296 of them) taken apart into a tag and parts, or the error; the same answer as that of texts.Split. -/
import Derived.Test.YtbmghnkgbiijmaaSplit
import Derived.Deep.QuietTactic
namespace Go.Proofs.Ytbmghnkgbiijmaa
open Go.RowKit

set_option maxHeartbeats 400000 in
theorem rsplit_nil (v : Value) (w : World) (h : HB w v []) : Calls Try.prog 6 #[v] w (SplitSaid w []) := by
  obtain ⟨p, c, rfl⟩ := h.shape
  clear h
  go_enter Try.func6, Try.ntmps6
  go_wp2
  go_ret3
  exact .inl ⟨rfl, rfl, Below.refl _ _⟩

set_option maxHeartbeats 2000000 in
theorem rsplit_cons (v : Value) (t : UInt8) (r : List UInt8) (w : World) (h : HB w v (t :: r)) (hsz : r.length ≤ 4294967296) : Calls Try.prog 6 #[v] w (SplitSaid w (t :: r)) := by
  obtain ⟨p, c, rfl⟩ := h.shape
  obtain ⟨b, o, rfl, hc⟩ := h.addr (by simp)
  have hlen := h.len.2.1
  have hm := h.len.2.2.1
  unfold maxLen at hm
  simp only [List.length_cons] at hlen
  have c0 := hc 0 t rfl
  unfold bc at c0
  simp only [Nat.add_zero] at c0
  have ht := t.toNat_lt
  obtain ⟨i0, hi, hz0, hz1, hz2⟩ := info_parts i_bytes
  have k1 : ∀ w, (Instr.slice 22 (.slice (some ⟨b, o, none⟩) (r.length + 1) c) (some (.int .i64 1)) none none).run Try.prog w = .ok (.slice (cutP (some ⟨b, o, none⟩) c 1) r.length (c - 1)) w := by
    intro w
    have := run_cut (P := Try.prog) Try.underlying22 s_u8 (some ⟨b, o, none⟩) (r.length + 1) c 1 1 rfl (by omega) w
    simpa using this
  have hrest : HB w (.slice (cutP (some ⟨b, o, none⟩) c 1) r.length (c - 1)) r := by
    have := h.behind 1 (by simp)
    simpa using this
  clear hc h
  go_enter Try.func6, Try.ntmps6
  go_wp2
  go_loopw [5, 6] (fun v q wr => ∃ (acc : List (List UInt8)) (rest : List UInt8) (p' : Option Addr) (c' : Nat), q = .slice p' rest.length c' ∧ HB w (.slice p' rest.length c') rest ∧ OP wr w.heap.size 22 5 v acc ∧ going r acc rest ∧ Below w.heap.size w wr)
    (fun _ q _ => lenOf q)
  case atStart => exact ⟨[], r, _, _, rfl, hrest, OP.nil _ _ _ _, going_start r, Below.refl _ _⟩
  case round =>
    obtain ⟨acc, rest, p', c', rfl, hh, hop, hgo, hbe⟩ := hrel
    clear hrest k1
    have hgl := hgo.2
    have hrm := hh.len.2.1
    have hrm2 := hh.len.2.2.1
    unfold maxLen at hrm2
    match rest, hh, hgo, hgl, hrm with
    | [], hh, hgo, hgl, hrm =>
      have HF : Hid (splitF (t :: r) = some (t, acc)) := by show splitF (t :: r) = some (t, acc); simp [splitF, going_end hgo]
      have hc0 : wr.cell? ⟨b, o, none⟩ = some (.int .u8 (t.toNat : Int)) := cell_later hbe c0
      clear c0 hgo hh
      go_wp2
      go_ret3
      exact .inr ⟨t, acc, _, HF.out, rfl, hop, hbe⟩
    | [x], hh, hgo, hgl, hrm =>
      have HF : Hid (splitF (t :: r) = none) := by show splitF (t :: r) = none; simp [splitF, going_none hgo (by simp) rfl]
      clear c0 hgo hh
      go_wp2
      go_quiet (fail)
      go_wp2
      go_ret3
      exact .inl ⟨HF.out, rfl, below_drewN hbe _⟩
    | x :: y :: s, hh, hgo, hgl, hrm =>
      obtain ⟨b1, o1, rfl, hcc⟩ := hh.addr (by simp)
      have q0 := hcc 0 x rfl
      have q1 := hcc 1 y rfl
      unfold bc at q0 q1
      simp only [Nat.add_zero] at q0
      have q0' : wr.cell? ⟨b1, o1, none⟩ = some (.int .u8 (x.toNat : Int)) := cell_later hbe q0
      have q1' : wr.cell? ⟨b1, o1 + 1, none⟩ = some (.int .u8 (y.toNat : Int)) := cell_later hbe q1
      simp only [List.length_cons] at hgl hrm
      have hx := x.toNat_lt
      have hy := y.toNat_lt
      have hd : decide ((s.length : Int) + 1 + 1 < 2) = false := by simp; omega
      clear hcc q0 q1
      by_cases hle : x.toNat * 256 + y.toNat ≤ s.length
      · obtain ⟨n, hn⟩ : ∃ n, n = x.toNat * 256 + y.toNat := ⟨_, rfl⟩
        have hgo1 : going r (acc ++ [s.take n]) (s.drop n) := going_some hgo (by simp only [takeF]; rw [if_pos hle, ← hn])
        have hns : n ≤ s.length := by omega
        have hk : n ≤ 65535 := by omega
        have k3 : ∀ w, (Instr.slice 22 (.slice (some ⟨b1, o1, none⟩) (s.length + 1 + 1) c') (some (.int .i64 2)) (some (.int .i64 (2 + (x.toNat : Int) * 256 + (y.toNat : Int)))) none).run Try.prog w = .ok (.slice (cutP (some ⟨b1, o1, none⟩) c' 2) n (c' - 2)) w := by
          intro w
          have := run_cut2 (P := Try.prog) Try.underlying22 s_u8 (some ⟨b1, o1, none⟩) (s.length + 1 + 1) c' 2 (n + 2) 2 (2 + (x.toNat : Int) * 256 + (y.toNat : Int)) rfl (by omega) (by omega) (by omega) w
          simpa using this
        have k1 : ∀ w, (Instr.slice 22 (.slice (some ⟨b1, o1, none⟩) (s.length + 1 + 1) c') (some (.int .i64 (2 + (x.toNat : Int) * 256 + (y.toNat : Int)))) none none).run Try.prog w = .ok (.slice (cutP (some ⟨b1, o1, none⟩) c' (n + 2)) (s.length - n) (c' - (n + 2))) w := by
          intro w
          have := run_cut (P := Try.prog) Try.underlying22 s_u8 (some ⟨b1, o1, none⟩) (s.length + 1 + 1) c' (n + 2) (2 + (x.toNat : Int) * 256 + (y.toNat : Int)) (by omega) (by omega) w
          rw [this, show s.length + 1 + 1 - (n + 2) = s.length - n by omega]
        have hsrc : HB w (.slice (cutP (some ⟨b1, o1, none⟩) c' 2) n (c' - 2)) (s.take n) := by
          have := hh.cut 2 (n + 2) c' (by omega) (by simp; omega) (by omega) (Nat.le_refl _)
          simpa using this
        have hrest : HB w (.slice (cutP (some ⟨b1, o1, none⟩) c' (n + 2)) (s.length - n) (c' - (n + 2))) (s.drop n) := by
          have := hh.behind (n + 2) (by simp; omega)
          simpa using this
        have hle2 : ¬ ((s.length : Int) + 1 + 1 - 2 < (x.toNat : Int) * 256 + (y.toNat : Int)) := by omega
        have HN : Hid (n = x.toNat * 256 + y.toNat) := hn
        have hal : acc.length ≤ 4294967296 := by omega
        clear c0 hgo hh hn hle
        go_wp2
        go_quiet (fail)
        have hbW1 : Below wr.heap.size wr (wr.drewN nq) := below_drewN (Below.refl _ _) _
        have q0W : (wr.drewN nq).cell? ⟨b1, o1, none⟩ = some (.int .u8 (x.toNat : Int)) := cell_later hbW1 q0'
        have q1W : (wr.drewN nq).cell? ⟨b1, o1 + 1, none⟩ = some (.int .u8 (y.toNat : Int)) := cell_later hbW1 q1'
        clear q0' q1'
        generalize wr.drewN nq = W1 at *
        go_wp2
        go_quiet (fail)
        have hbW : Below wr.heap.size wr (W1.drewN nq) := below_drewN hbW1 _
        clear hbW1 q0W q1W
        generalize W1.drewN nq = W at *
        obtain ⟨vs, hv1, hv2, hv3⟩ := hop
        have hbw : Below w.heap.size w W := hbe.trans (hbW.mono hbe.size)
        have hv2W := owns_later hv2 hbW
        have hszW := hbw.size
        clear hv2
        go_wp2_with (first | (at_builtin; refine wpList_append_hb rfl (.tmp 47) (.tmp 50) 22 rfl w.heap.size 5 Try.underlying22 i_u8 _ 0 [] rfl (World.ownsRow_made W #[] 0 hszW (Nat.zero_le _) rfl) _ _ _ (s.take n) rfl (hsrc.later (hbw.alloc hszW _)) ?qa ?qb ?_))
        case qa => omega
        case qb => simp; omega
        intro v1 w1 hown1 hgrow1
        have hb1 : Below W.heap.size W w1 := ((Below.refl _ W).alloc (Nat.le_refl _) _).grown hgrow1 (by simp) (by intro k hk; cases hk; exact Nat.le_refl _)
        obtain ⟨p1, c1, hv⟩ := owns_shape hown1
        rw [hv] at hown1 ⊢
        clear hv hgrow1 v1
        have hv4 := owns_later hv2W hb1
        have hv5 : ∀ (i : Nat) x l, vs[i]? = some x → acc[i]? = some l → w1.ownsRow w.heap.size 5 1 x l.length (bcs l) := fun i x l a b => owns_later (owns_later (hv3 i x l a b) hbW) hb1
        have HV5 : Hid (∀ (i : Nat) x l, vs[i]? = some x → acc[i]? = some l → w1.ownsRow w.heap.size 5 1 x l.length (bcs l)) := hv5
        have hbw1 : Below w.heap.size w w1 := hbw.trans (hb1.mono hszW)
        have hsz1 := hbw1.size
        have HL : Hid ((s.take n).length = n) := by show (s.take n).length = n; simp; omega
        clear hv2W hv3 hv5
        go_wp2_with (first | (at_builtin; refine wpList_append_own _ rfl (.tmp 46) (.tmp 52) 24 rfl w.heap.size 22 i0 (.slice none 0 0) 1 24 Try.underlying24 hi hz0 hz1 hz2 rfl (by decide) _ _ _ rfl (hv4.alloc _) ⟨w1.heap.size, 0, none⟩ 1 1 [.slice p1 n c1] rfl rfl ?qc ?qd ?qe ?qf ?qg ?_))
        case qc => exact cell_one_new _ _ _
        case qd => intro u hu; simp at hu; subst hu; rfl
        case qe => unfold maxLen; omega
        case qf => omega
        case qg => simp; omega
        intro v' w2 hown2 hgrow2 _
        have hb2 : Below w.heap.size w w2 := (hbw1.alloc hsz1 _).grown hgrow2 (by simp; omega) (fun k hk => (hv4.lt k hk).1)
        have hop2 : OP w2 w.heap.size 22 5 v' (acc ++ [s.take n]) := op_alloc (by decide) hv1 HV5.out hv4 (by rw [HL.out]; exact hown1) hgrow2 hown2
        clear hown2 hgrow2 hv4 HV5 hv1 hown1 hbw1 hb1 hbW hbw hsrc k3
        go_wp2
        have HR : Hid ((s.drop n).length = s.length - n) := by show (s.drop n).length = s.length - n; simp
        go_roundw
        case rel => first | exact ⟨acc ++ [s.take n], s.drop n, _, _, by rw [HR.out], by rw [HR.out]; exact hrest, hop2, hgo1, hb2⟩ | ((repeat apply Exists.intro); exact ⟨⟨acc ++ [s.take n], s.drop n, _, _, by rw [HR.out], by rw [HR.out]; exact hrest, hop2, hgo1, hb2⟩, rfl⟩)
        case measure => simp [lenOf]; omega
      · have HF : Hid (splitF (t :: r) = none) := by show splitF (t :: r) = none; simp [splitF, going_none hgo (by simp) (by simp only [takeF]; rw [if_neg hle])]
        have hle2 : (s.length : Int) + 1 + 1 - 2 < (x.toNat : Int) * 256 + (y.toNat : Int) := by omega
        clear c0 hgo hh
        go_wp2
        go_quiet (fail)
        go_wp2
        go_ret3
        exact .inl ⟨HF.out, rfl, below_drewN hbe _⟩

theorem rsplit_any (v : Value) (l : List UInt8) (w : World) (h : HB w v l) (hsz : l.length ≤ 4294967296) : Calls Try.prog 6 #[v] w (SplitSaid w l) := by
  cases l with
  | nil => exact rsplit_nil v w h
  | cons t r => exact rsplit_cons v t r w h (by simp at hsz; omega)

end Go.Proofs.Ytbmghnkgbiijmaa
