/- What this text proves: the walk of annalsref07.Of over this program: a device of an image, or the error. -/
import Derived.Test.YtmikhebbcmniaaaXDOf9
import Derived.Test.YtmikhebbcmniaaaXDWrite
import Derived.Test.YtmikhebbcmniaaaDStays
namespace Go.Proofs.Ytmikhebbcmniaaa
open Go.RowKit

/-- An image that may be. -/
def goodImg (ls : List (List UInt8)) : Prop := 1 ≤ ls.length ∧ ls.length ≤ 16384 ∧ ∀ r ∈ ls, r.length = 64
def sigOf (ls : List (List UInt8)) : Nat → List UInt8 := fun j => (ls[j]?).getD nulls

theorem RO.rr {W : World} {base k : Nat} {v : Value} {sig : Nat → List UInt8} (h : RO W base v k sig) (hk : 0 < k) : ∃ g c, v = .slice (some ⟨g, 0, none⟩) k c ∧ base ≤ g ∧ RR W g k sig ∧ k ≤ c ∧ c ≤ maxLen := by
  obtain ⟨vs, ⟨h1, h2⟩, h3⟩ := h
  rw [Nat.mul_one] at h1
  rcases h2 with ⟨_, h0⟩ | ⟨g, cap, cur, rfl, hb, hg, hle, hm, hs, ht⟩
  · omega
  · refine ⟨g, cap, rfl, hb, ⟨cur, hg, by omega, fun j hj => ?_⟩, hle, hm⟩
    obtain ⟨x, hj2⟩ : ∃ x, vs[j]? = some x := ⟨_, List.getElem?_eq_getElem (by omega)⟩
    refine ⟨x, ?_, h3 j x hj2⟩
    rw [← ht, List.getElem?_take, if_pos (by omega)] at hj2
    simpa using hj2
theorem owns_rw {W : World} {base k : Nat} {v : Value} (h : W.ownsRow base 4 1 v k (List.replicate k (.bool false))) (hk : 0 < k) : ∃ g c, v = .slice (some ⟨g, 0, none⟩) k c ∧ base ≤ g ∧ RW W g k (fun _ => false) := by
  obtain ⟨h1, h2⟩ := h
  rw [Nat.mul_one] at h1
  rcases h2 with ⟨_, h0⟩ | ⟨g, cap, cur, rfl, hb, hg, hle, hm, hs, ht⟩
  · omega
  · refine ⟨g, cap, rfl, hb, cur, hg, by omega, fun j hj => ?_⟩
    have hj2 : (List.replicate k (Value.bool false))[j]? = some (.bool false) := by rw [List.getElem?_replicate, if_pos hj]
    rw [← ht, List.getElem?_take, if_pos (by omega)] at hj2
    simpa using hj2

theorem made_x {ls : List (List UInt8)} (hg : goodImg ls) {W : World} {base bx : Nat} {vl vk vw : Value}
    (hx : W.heap[bx]? = some (.cells #[vl, vk, vw, .int .i64 (-1), .bool false, .int .i64 0] 74 (0, 0))) (hl : RO W base vl ls.length (sigOf ls)) (hk : RO W base vk ls.length (sigOf ls)) (hw : W.ownsRow base 4 1 vw ls.length (List.replicate ls.length (.bool false))) (hne : ∀ g, vl.ownBlock = some g → vk.ownBlock ≠ some g) :
    ∃ bl bk bw cl ck cw, XDev W bx bl bk bw cl ck cw (DevS.made ls) ∧ base ≤ bl ∧ base ≤ bk ∧ base ≤ bw := by
  obtain ⟨g1, g2, g3⟩ := hg
  obtain ⟨bl, cl, rfl, e1, r1, k1⟩ := hl.rr g1
  obtain ⟨bk, ck, rfl, e2, r2, _⟩ := hk.rr g1
  obtain ⟨bw, cw, rfl, e3, r3⟩ := owns_rw hw g1
  have hn : bl ≠ bk := fun e => hne bl rfl (by rw [e]; rfl)
  refine ⟨bl, bk, bw, cl, ck, cw, ⟨DevS.Ok.made ls g1 g2 g3, ?_⟩, e1, e2, e3⟩
  have q : XG W bx bl bk bw cl ck cw ls.length (sigOf ls) (sigOf ls) (fun _ => false) (-1) false 0 := ⟨hx, r1, r2, r3, hn, k1⟩
  refine XG.congr q (fun j hj => ?_) (fun j hj => ?_) (fun j _ => rfl)
  · have hj' : j < ls.length := hj
    show (ls[j]?).getD nulls = ls.getD j []
    rw [List.getD_eq_getElem?_getD, List.getElem?_eq_getElem hj']; rfl
  · have hj' : j < ls.length := hj
    show (ls[j]?).getD nulls = ls.getD j []
    rw [List.getD_eq_getElem?_getD, List.getElem?_eq_getElem hj']; rfl

set_option maxRecDepth 100000 in
set_option maxHeartbeats 3200000 in
theorem rof_any (v : Value) (ls : List (List UInt8)) (w : World) (h : PA w v ls) :
    Calls Try.prog 14 #[v] w fun e w' => Below w.heap.size w w' ∧ ((goodImg ls ∧ ∃ bx bl bk bw cl ck cw, e = .returned (.tuple #[.pointer (some ⟨bx, 0, none⟩), .int .i64 0]) ∧ XDev w' bx bl bk bw cl ck cw (DevS.made ls) ∧ w.heap.size ≤ bx ∧ w.heap.size ≤ bl ∧ w.heap.size ≤ bk ∧ w.heap.size ≤ bw) ∨ (¬ goodImg ls ∧ e = .returned (.tuple #[.pointer none, .int .i64 1]))) := by
  obtain ⟨pv, cv, rfl⟩ := h.shape
  have hml := h.len.2
  unfold maxLen at hml
  by_cases h1 : (ls.length : Int) < 1
  · have hbad : Hid (¬ goodImg ls) := fun g => by have := g.1; omega
    clear h
    go_enter Try.func14, Try.ntmps14
    go_wp2
    go_ret2
    exact ⟨Below.refl _ _, .inr ⟨hbad.out, rfl⟩⟩
  · by_cases h2 : (16384 : Int) < (ls.length : Int)
    · have hbad : Hid (¬ goodImg ls) := fun g => by have := g.2.1; omega
      clear h
      go_enter Try.func14, Try.ntmps14
      go_wp2
      go_ret2
      exact ⟨Below.refl _ _, .inr ⟨hbad.out, rfl⟩⟩
    · have bA := (Below.refl w.heap.size w).alloc (Nat.le_refl _) (.cells #[.slice none 0 0, .slice none 0 0, .slice none 0 0, .int .i64 (-1), .bool false, .int .i64 0] 74)
      have gA := heap_alloc_new w (.cells #[.slice none 0 0, .slice none 0 0, .slice none 0 0, .int .i64 (-1), .bool false, .int .i64 0] 74)
      go_enter Try.func14, Try.ntmps14
      go_wp2
      go_loopw [19] (fun i wr => ∃ (k : Nat) (vl vk vw : Value), k ≤ ls.length ∧ i = .int .i64 k ∧ wr.heap[w.heap.size]? = some (.cells #[vl, vk, vw, .int .i64 (-1), .bool false, .int .i64 0] 74 (0, 0)) ∧ RO wr w.heap.size vl k (sigOf ls) ∧ RO wr w.heap.size vk k (sigOf ls) ∧ wr.ownsRow w.heap.size 4 1 vw k (List.replicate k (.bool false)) ∧ (∀ g, vl.ownBlock = some g → vk.ownBlock ≠ some g) ∧ (∀ r ∈ ls.take k, r.length = 64) ∧ Below w.heap.size w wr) (fun i _ => ls.length - (RowKit.intOf i).toNat)
      case atStart => exact ⟨0, _, _, _, Nat.zero_le _, rfl, gA, ⟨[], World.ownsRow_nil _ _ _ _, fun j u hu => by simp at hu⟩, ⟨[], World.ownsRow_nil _ _ _ _, fun j u hu => by simp at hu⟩, World.ownsRow_nil _ _ _ _, fun g e => by simp [Value.ownBlock] at e, by simp, bA⟩
      case round =>
        obtain ⟨k, vl, vk, vw, hk, rfl, hx, hl, hkk, hw, hne, hall, hbe⟩ := hrel
        clear bA gA
        by_cases hlt : k < ls.length
        · have hlt2 : (k : Int) < (ls.length : Int) := by omega
          obtain ⟨b0, o0, rfl⟩ := h.addr (by omega)
          obtain ⟨q, qc, l, hgl, c1, hb1⟩ := (h.later hbe).get k hlt
          have hbw := (h.get k hlt)
          have hmem : l ∈ ls := List.mem_of_getElem? hgl.out
          by_cases hl64 : l.length = 64
          · rw [hl64] at c1 hb1
            have hlen : sigOf ls k = l := by unfold sigOf; rw [hgl.out]; rfl
            have hall' : ∀ r ∈ ls.take (k + 1), r.length = 64 := by
              intro r hr
              rw [List.take_add_one, hgl.out] at hr
              rcases List.mem_append.1 hr with hr | hr
              · exact hall r hr
              · simp at hr; exact hr ▸ hl64
            have hsig : ∀ j, j ≤ k → (sigOf ls j).length = 64 := by
              intro j hj
              have hj' : (ls.take (k + 1))[j]? = ls[j]? := by rw [List.getElem?_take, if_pos (by omega)]
              have e : ls[j]? = some (ls[j]'(by omega)) := List.getElem?_eq_getElem _
              unfold sigOf
              rw [e]
              rw [e] at hj'
              exact hall' _ (List.mem_of_getElem? hj')
            have hpb : ∀ a, q = some a → a.block < w.heap.size := by
              obtain ⟨q', k', l', e1, e2, e3⟩ := hbw
              have e4 : l' = l := Option.some.inj (e1.out.symm.trans hgl.out)
              subst e4
              rw [hl64] at e2 e3
              have e5 := cell_later hbe e2
              rw [c1] at e5
              simp only [Option.some.injEq, Value.slice.injEq, true_and] at e5
              obtain ⟨rfl, rfl⟩ := e5
              rintro a rfl
              exact e3.blk (fun e => by rw [e] at hl64; cases hl64) a _ _ rfl
            clear hbw hgl hl64 hall hmem
            go_wp2
            refine of9 wr w.heap.size w.heap.size k qc q vl vk vw l (sigOf ls) _ _ _ _ _ _ _ _ _ _ _ _ _ _ _ _ _ _ _ _ _ _ _ _ _ _ _ _ _ _ _ _ _ _ _ _ _ _ _ _ _ _ _ _ _ _ _ _ _ _ _ _ _ _ _ _ _ _ _ _ _ hx hbe.size (Nat.le_refl _) hl hkk hw hne hb1 hpb hlen hsig (by omega) ?_
            clear hx hl hkk hw hne hb1 hpb hlen
            intro _ _ _ _ _ _ _ _ _ _ _ _ _ _ _ _ _ _ _ _ _ _ _ _ _ _ _ _ _ _ _ _ _ g1 g2 g3 c1' c2' c3' W q1 q2 q3 q4 q5 q6
            have b6 : Below w.heap.size w W := hbe.trans q6
            have ne6 : ∀ g, (Value.slice (some ⟨g1, 0, none⟩) (k + 1) c1').ownBlock = some g → (Value.slice (some ⟨g2, 0, none⟩) (k + 1) c2').ownBlock ≠ some g := by
              intro g e1 e2
              simp only [Value.ownBlock, Option.some.injEq] at e1 e2
              omega
            clear q6 q4
            go_wp2
            go_roundw
            case rel => first | exact ⟨k + 1, _, _, _, by omega, by go_num, q5, q1, q2, q3, ne6, hall', b6⟩ | ((repeat apply Exists.intro); exact ⟨⟨k + 1, _, _, _, by omega, by go_num, q5, q1, q2, q3, ne6, hall', b6⟩, rfl⟩)
            case measure => simp [RowKit.intOf]; omega
          · have hbad : Hid (¬ goodImg ls) := fun g => hl64 (g.2.2 l hmem)
            have hn64 : ¬ (l.length : Int) = 64 := by omega
            clear hbw hgl hall hmem hx hl hkk hw hne hb1 hl64
            go_wp2
            go_ret2
            exact ⟨hbe, .inr ⟨hbad.out, rfl⟩⟩
        · obtain rfl : k = ls.length := by omega
          rw [List.take_length] at hall
          have hg : goodImg ls := ⟨by omega, by omega, hall⟩
          obtain ⟨bl, bk, bw, cl, ck, cw, r1, r2, r3, r4⟩ := made_x hg hx hl hkk hw hne
          clear hx hl hkk hw hne hall
          go_wp2
          go_ret2
          exact ⟨hbe, .inl ⟨hg, _, bl, bk, bw, cl, ck, cw, rfl, r1, Nat.le_refl _, r2, r3, r4⟩⟩

end Go.Proofs.Ytmikhebbcmniaaa
