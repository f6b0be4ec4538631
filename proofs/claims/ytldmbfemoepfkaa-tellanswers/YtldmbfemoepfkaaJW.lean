/- What this text proves: the walk of tell.throughAnswer with a writer over this program. What this text proves: the walk of tell.throughAnswer with a writer over this program: lists, and the kinds. What this text proves: the walk of tell.Answer over this program: any answer's bytes behind any bytes. -/
import Derived.Test.YtldmbfemoepfkaaTlVoc
import Derived.Test.YtldmbfemoepfkaaTlList
import Derived.Test.YtldmbfemoepfkaaCloneO
namespace Go.Proofs.Ytldmbfemoepfkaa
open Go.RowKit

theorem Then.of {P : Program} {f : FuncId} {args : Array Value} {w : World} {r : Value} {R : World → Prop} {K : Value → World → Prop} {E : List PanicEntry → World → Prop} (h : Calls P f args w fun e w' => e = .returned r ∧ R w') (hK : ∀ w', R w' → K r w') : Then P f args w K E := by
  refine Calls.mono h ?_
  rintro e w' ⟨rfl, k⟩
  exact .inl ⟨r, rfl, hK w' k⟩

/-- A writer shows fields. -/
def showsW (g : Nat) : Shows where
  T := 53
  v := .pointer (some ⟨g, 0, none⟩)
  fN := 68
  uN := .pointer (some ⟨g, 0, none⟩)
  fT := 70
  uT := .pointer (some ⟨g, 0, none⟩)
  fF := 67
  uF := .pointer (some ⟨g, 0, none⟩)
  mN := ⟨fun _ => by kernel_rfl, fun _ => by kernel_rfl, fun _ _ => by kernel_rfl⟩
  mT := ⟨fun _ => by kernel_rfl, fun _ => by kernel_rfl, fun _ _ => by kernel_rfl⟩
  mF := ⟨fun _ => by kernel_rfl, fun _ => by kernel_rfl, fun _ _ => by kernel_rfl⟩

/-- The world while an answer is written: the writer, the answer's box, the box of who shows. -/
def WI (w0 : World) (g gA gb : Nat) (cs : Array Value) (l : List UInt8) (w : World) : Prop :=
  WRT 51 w g w0.heap.size l ∧ Below w0.heap.size w0 w ∧ CB 27 w gA cs ∧ CB 65 w gb #[.iface (showsW g).T (showsW g).v] ∧ w0.heap.size ≤ g

section
variable {w0 : World} {g gA gb : Nat} {cs : Array Value} {l l' : List UInt8} {w w' : World}
theorem WI.step (h : WI w0 g gA gb cs l w) (k : Wrote 51 g w0.heap.size l' w w') : WI w0 g gA gb cs l' w' :=
  ⟨k.1, h.2.1.trans k.2.1, k.2.2 _ _ _ _ h.2.2.1 (by decide) (by decide), k.2.2 _ _ _ _ h.2.2.2.1 (by decide) (by decide), h.2.2.2.2⟩
theorem WI.drew (h : WI w0 g gA gb cs l w) : WI w0 g gA gb cs l w.drew := ⟨h.1, Below.drew h.2.1, h.2.2⟩
theorem WI.later (h : WI w0 g gA gb cs l w) (hb : Below w.heap.size w w') : WI w0 g gA gb cs l w' :=
  ⟨h.1.later hb, h.2.1.trans (hb.mono h.2.1.size), h.2.2.1.later hb, h.2.2.2.1.later hb, h.2.2.2.2⟩
theorem WI.bx (h : WI w0 g gA gb cs l w) : BX (showsW g) gb w := h.2.2.2.1.cell rfl
theorem WI.cell (h : WI w0 g gA gb cs l w) {i : Nat} {v : Value} (hv : cs[i]? = some v) : w.cell? ⟨gA, i, none⟩ = some v := h.2.2.1.cell hv

theorem WI.num (h : WI w0 g gA gb cs l w) {a : Addr} {n most : Int} (ha : w.cell? a = some (.int .i64 n)) (hbig : l.length ≤ 140737488355100) {K : World → Prop} {E : List PanicEntry → World → Prop}
    (hK : ∀ w', WI w0 g gA gb cs (l ++ numL (clampN n)) w' → TKB 51 w w' → K w') : Then Try.prog 68 #[.pointer (some ⟨g, 0, none⟩), .pointer (some a), .int .i64 most] w (fun _ => K) E :=
  Then.of (wnumber_any 51 (by decide) g w0.heap.size a n most l w h.1 h.2.2.2.2 ha hbig) fun w' k => hK w' (h.step k) k.2.2
theorem WI.text (h : WI w0 g gA gb cs l w) {a : Addr} {v : Value} {s : List UInt8} {most : Int} (ha : w.cell? a = some v) (hv : HB w v s) (hbig : l.length + s.length ≤ 140737488355100) {K : World → Prop} {E : List PanicEntry → World → Prop}
    (hK : ∀ w', WI w0 g gA gb cs (l ++ bytesL s) w' → K w') : Then Try.prog 70 #[.pointer (some ⟨g, 0, none⟩), .pointer (some a), .int .i64 most] w (fun _ => K) E :=
  Then.of (wtext_any 51 (by decide) g w0.heap.size a v s most l w h.1 h.2.2.2.2 ha hv hbig) fun w' k => hK w' (h.step k)
theorem WI.flag (h : WI w0 g gA gb cs l w) {i : Nat} {b : Bool} (hc : cs[i]? = some (.bool b)) (hbig : l.length ≤ 140737488355100) {K : Value → World → Prop} {E : List PanicEntry → World → Prop}
    (hK : ∀ w', WI w0 g gA gb cs (l ++ flagL b) w' → K (.bool b) w') : Then Try.prog 67 #[.pointer (some ⟨g, 0, none⟩), .pointer (some ⟨gA, i, none⟩)] w K E :=
  Then.of (wflag_any 51 (by decide) g w0.heap.size ⟨gA, i, none⟩ b l w h.1 h.2.2.2.2 (h.cell hc) (fun w' _ t => CB.cell (t _ _ _ _ h.2.2.1 (by decide) (by decide)) hc) hbig) fun w' k => hK w' (h.step k)

/-- Some numbers, one behind the other. -/
theorem WI.nums (most : Int) (lb : Nat) (o : Obj) (cc : Array Value) (ho : o = .cells cc 67 (0, 0)) (K : World → Prop) (E : List PanicEntry → World → Prop) : ∀ (ns : List (Addr × Int)) (l : List UInt8) (w : World), WI w0 g gA gb cs l w → (∀ x ∈ ns, ∀ W, Below w0.heap.size w0 W → CB 27 W gA cs → W.cell? x.1 = some (.int .i64 x.2)) → w.heap[lb]? = some o → l.length + 9 * ns.length ≤ 140737488355000 →
    (∀ w', WI w0 g gA gb cs (ns.foldl (fun l x => l ++ numL (clampN x.2)) l) w' → K w') →
    NumsT 68 (.pointer (some ⟨g, 0, none⟩)) most lb o K E (ns.map fun x => x.1) w
  | [], l, w, hW, _, _, _, hK => hK w hW
  | x :: ns, l, w, hW, hv, hob, hl, hK => by
    have h9 := numL9 x.2
    simp only [List.length_cons] at hl
    refine WI.num hW (hv x (by simp) w hW.2.1 hW.2.2.1) (by omega) fun w' k t => ?_
    have ho' : w'.heap[lb]? = some o := by rw [ho] at hob ⊢; exact t _ _ _ _ hob (by decide) (by decide)
    exact ⟨ho', WI.nums most lb o cc ho K E ns _ w' k (fun y hy => hv y (by simp [hy])) ho' (by rw [List.length_append]; omega) hK⟩
theorem WI.shns (h : WI w0 g gA gb cs l w) (most : Int) (ns : List (Addr × Int)) (hv : ∀ x ∈ ns, ∀ W, Below w0.heap.size w0 W → CB 27 W gA cs → W.cell? x.1 = some (.int .i64 x.2)) (hl : l.length + 9 * ns.length ≤ 140737488355000) {K : World → Prop} {E : List PanicEntry → World → Prop}
    (hK : ∀ w', WI w0 g gA gb cs (ns.foldl (fun l x => l ++ numL (clampN x.2)) l) w' → K w') : ShNs (showsW g) (ns.map fun x => x.1) most w K E :=
  WI.nums most w.heap.size _ _ rfl K E ns l _ (h.later ((Below.refl w.heap.size w).alloc (Nat.le_refl _) _)) hv (heap_alloc_new w _) hl hK

theorem WI.state (h : WI w0 g gA gb cs l w) {a : AA} {kv iv ev : Value} (hcs : cs = ansC a kv iv ev) (hb : HB w0 kv a.key) (hbig : l.length + (wrS a).length ≤ 140737488355000) {K : World → Prop} {E : List PanicEntry → World → Prop}
    (hK : ∀ w', WI w0 g gA gb cs (l ++ wrS a) w' → K w') : StT (showsW g) gA w K E := by
  unfold StT ShF
  unfold wrS at hbig hK
  have c2 : cs[2]? = some (.bool a.pr) := by rw [hcs]; rfl
  have c4 : cs[4]? = some kv := by rw [hcs]; rfl
  have c5 : cs[5]? = some (.int .i64 a.si) := by rw [hcs]; rfl
  have f1 := flagL1 a.pr
  refine WI.flag h.drew c2 (by omega) fun w1 h1 => ⟨a.pr, rfl, fun e => ?_, fun e => ?_⟩
  · rw [if_pos e] at hbig hK
    have hs9 : a.key.length ≤ (bytesL a.key).length := by unfold bytesL; simp
    simp only [List.length_append] at hbig
    refine WI.text h1.drew (h1.drew.cell c4) (hb.later h1.drew.2.1) (by rw [List.length_append]; omega) fun w2 h2 => ?_
    refine WI.num h2.drew (h2.drew.cell c5) (by simp only [List.length_append]; omega) fun w3 h3 _ => ?_
    refine hK w3 ?_
    simpa [List.append_assoc] using h3
  · rw [if_neg (by rw [e]; decide), List.append_nil] at hK
    exact hK w1 h1
end

end Go.Proofs.Ytldmbfemoepfkaa

namespace Go.Proofs.Ytldmbfemoepfkaa
open Go.RowKit

theorem setCell_self {w : World} {g i : Nat} {cs : Array Value} {T : TypeId} {v : Value} (hg : w.heap[g]? = some (.cells cs T (0, 0))) (hv : cs[i]? = some v) : w.setCell ⟨g, i, none⟩ v = w := by
  have hc : cs.setIfInBounds i v = cs := by
    apply Array.ext_getElem?
    intro j
    rw [Array.getElem?_setIfInBounds]
    split
    · rename_i h
      subst h
      split
      · exact hv.symm
      · rename_i h; rw [Array.getElem?_eq_none (by omega)] at hv; cases hv
    · rfl
  have hh : (w.setCell ⟨g, i, none⟩ v).heap = w.heap := by
    apply Array.ext_getElem?
    intro k
    by_cases hk : k = g
    · subst hk
      rw [heap_setCell_same w k i cs T v hg, hc, hg]
    · exact Below.heap_setCell w ⟨g, i, none⟩ v k hk
  show { w with heap := (w.setCell ⟨g, i, none⟩ v).heap } = w
  rw [hh]

section
variable {w0 : World} {g gA gb : Nat} {cs : Array Value}

theorem WI.items {b o : Nat} {sv : Value} (h6 : cs[6]? = some sv) (its : List It) (hi : ∀ (k : Nat) x, its[k]? = some x → ∃ q c r d, ICells w0 b (o + k * 3) x q c r d) (K : World → Prop) (E : List PanicEntry → World → Prop) : ∀ (n k : Nat) (l : List UInt8) (w : World), WI w0 g gA gb cs l w → n + k = its.length → l.length + (wrIs (its.drop k)).length ≤ 140737488355000 → (∀ w', WI w0 g gA gb cs (l ++ wrIs (its.drop k)) w' → K w') →
    LpI (showsW g) gb gA 6 b o sv K E n k w
  | 0, k, l, w, h, hn, _, hK => by
    rw [List.drop_eq_nil_of_le (by omega)] at hK
    exact hK w (by simpa [wrIs] using h)
  | n + 1, k, l, w, h, hn, hbig, hK => by
    have hk : k < its.length := by omega
    rw [List.drop_eq_getElem_cons hk] at hbig hK
    obtain ⟨q, c, r, d, hc⟩ := hi k its[k] (List.getElem?_eq_getElem hk)
    generalize its[k] = x at *
    simp only [wrIs, wrI, List.length_append] at hbig
    have hx1 : x.id.length ≤ (bytesL x.id).length := by unfold bytesL; simp
    have hx2 : x.key.length ≤ (bytesL x.key).length := by unfold bytesL; simp
    refine ⟨h.cell h6, h.bx, ?_⟩
    have d0 := hc.later h.drew.2.1
    refine WI.text h.drew d0.1.1 d0.2.1 (by omega) fun w1 h1 => ⟨h1.bx, ?_⟩
    have d1 := hc.later h1.drew.2.1
    refine WI.text h1.drew d1.1.2.1 d1.2.2 (by simp only [List.length_append]; omega) fun w2 h2 => ⟨h2.bx, ?_⟩
    have d2 := hc.later h2.drew.2.1
    refine WI.num h2.drew d2.1.2.2 (by simp only [List.length_append]; omega) fun w3 h3 _ => ?_
    refine WI.items h6 its hi K E n (k + 1) _ w3 h3 (by omega) (by simp only [List.length_append]; omega) fun w' h' => hK w' ?_
    simpa [wrIs, wrI, List.append_assoc] using h'

theorem WI.events {b o : Nat} {sv : Value} (h7 : cs[7]? = some sv) (evs : List Ev) (hi : ∀ (k : Nat) x, evs[k]? = some x → ∃ q c r d, ECells w0 b (o + k * 4) x q c r d) (K : World → Prop) (E : List PanicEntry → World → Prop) : ∀ (n k : Nat) (l : List UInt8) (w : World), WI w0 g gA gb cs l w → n + k = evs.length → l.length + (wrVs (evs.drop k)).length ≤ 140737488354000 → (∀ w', WI w0 g gA gb cs (l ++ wrVs (evs.drop k)) w' → K w') →
    LpE (showsW g) gb gA 7 b o sv K E n k w
  | 0, k, l, w, h, hn, _, hK => by
    rw [List.drop_eq_nil_of_le (by omega)] at hK
    exact hK w (by simpa [wrVs] using h)
  | n + 1, k, l, w, h, hn, hbig, hK => by
    have hk : k < evs.length := by omega
    rw [List.drop_eq_getElem_cons hk] at hbig hK
    obtain ⟨q, c, r, d, hc⟩ := hi k evs[k] (List.getElem?_eq_getElem hk)
    generalize evs[k] = x at *
    simp only [wrVs, wrV, List.length_append] at hbig
    have hx1 : x.id.length ≤ (bytesL x.id).length := by unfold bytesL; simp
    have hx2 : x.key.length ≤ (bytesL x.key).length := by unfold bytesL; simp
    refine ⟨h.cell h7, h.bx, ?_⟩
    refine WI.shns h.drew 2147483648 [(⟨b, o + k * 4, none⟩, x.e), (⟨b, o + k * 4 + 1, none⟩, x.i)] ?_ (by simp; omega) fun w1 h1 => ⟨h1.bx, ?_⟩
    · intro y hy W hW _
      have d := hc.later hW
      simp only [List.mem_cons, List.not_mem_nil, or_false] at hy
      rcases hy with rfl | rfl
      · exact d.1.1
      · exact d.1.2.1
    have h1 : WI w0 g gA gb cs ((l ++ numL (clampN x.e)) ++ numL (clampN x.i)) w1 := h1
    have d1 := hc.later h1.drew.2.1
    refine WI.text h1.drew d1.1.2.2.1 d1.2.1 (by simp only [List.length_append]; omega) fun w2 h2 => ⟨h2.bx, ?_⟩
    have d2 := hc.later h2.drew.2.1
    refine WI.text h2.drew d2.1.2.2.2 d2.2.2 (by simp only [List.length_append]; omega) fun w3 h3 => ?_
    refine WI.events h7 evs hi K E n (k + 1) _ w3 h3 (by omega) (by simp only [List.length_append]; omega) fun w' h' => hK w' ?_
    simpa [wrVs, wrV, List.append_assoc] using h'

variable {l : List UInt8} {w : World} {a : AA} {kv iv ev : Value}

theorem WI.listI (h : WI w0 g gA gb cs l w) (hcs : cs = ansC a kv iv ev) (hi : IA w0 iv a.its) (hn : a.its.length ≤ 1000) (hbig : l.length + (wrIs a.its).length ≤ 140737488354000) (K : World → Prop) (E : List PanicEntry → World → Prop)
    (hK : ∀ w', WI w0 g gA gb cs (l ++ (numL (clampN (a.its.length : Int)) ++ wrIs a.its)) w' → K w') :
    Then Try.prog 31 #[.iface (showsW g).T (showsW g).v, .pointer (some ⟨gA, 6, none⟩), .int .i64 32, .func (.func 32) #[] #[.pointer (some ⟨gb, 0, none⟩)]] w (fun _ => K) E := by
  obtain ⟨p, c, rfl⟩ := hi.shape
  have h6 : cs[6]? = some (.slice p a.its.length c) := by rw [hcs]; rfl
  have h9 := numL9 (a.its.length : Int)
  by_cases he : a.its = []
  · refine listI_same (showsW g) gb gA 6 0 0 a.its.length c p w K E (fun hh => by rw [he] at hh; simp at hh) (h.cell h6) (by omega) ?_
    refine WI.num (h.later ((Below.refl w.heap.size w).alloc (Nat.le_refl _) _)) (CB.cell (CB.made 3 w _) rfl) (by omega) fun w1 h1 t => ⟨CB.cell (t _ _ _ _ (CB.made 3 w _) (by decide) (by decide)) rfl, h1.cell h6, fun _ => hK _ ?_, fun hh => by rw [he] at hh; simp at hh⟩
    have h1 := h1.drew
    rw [he] at h1 ⊢
    simpa [wrIs] using h1
  · obtain ⟨b, o, rfl, hx⟩ := hi.addr he
    refine listI_same (showsW g) gb gA 6 b o a.its.length c _ w K E (fun _ => rfl) (h.cell h6) (by omega) ?_
    refine WI.num (h.later ((Below.refl w.heap.size w).alloc (Nat.le_refl _) _)) (CB.cell (CB.made 3 w _) rfl) (by omega) fun w1 h1 t => ⟨CB.cell (t _ _ _ _ (CB.made 3 w _) (by decide) (by decide)) rfl, h1.cell h6, fun hh => absurd (List.eq_nil_of_length_eq_zero hh) he, fun _ => ?_⟩
    refine WI.items h6 a.its hx K E a.its.length 0 _ w1.drew h1.drew (by omega) (by rw [List.drop_zero, List.length_append]; omega) fun w' h' => hK w' ?_
    rw [List.drop_zero] at h'
    simpa [List.append_assoc] using h'

theorem WI.listE (h : WI w0 g gA gb cs l w) (hcs : cs = ansC a kv iv ev) (hi : EA w0 ev a.evs) (hn : a.evs.length ≤ 1000) (hbig : l.length + (wrVs a.evs).length ≤ 140737488353000) (K : World → Prop) (E : List PanicEntry → World → Prop)
    (hK : ∀ w', WI w0 g gA gb cs (l ++ (numL (clampN (a.evs.length : Int)) ++ wrVs a.evs)) w' → K w') :
    Then Try.prog 33 #[.iface (showsW g).T (showsW g).v, .pointer (some ⟨gA, 7, none⟩), .int .i64 32, .func (.func 34) #[] #[.pointer (some ⟨gb, 0, none⟩)]] w (fun _ => K) E := by
  obtain ⟨p, c, rfl⟩ := hi.shape
  have h7 : cs[7]? = some (.slice p a.evs.length c) := by rw [hcs]; rfl
  have h9 := numL9 (a.evs.length : Int)
  by_cases he : a.evs = []
  · refine listE_same (showsW g) gb gA 7 0 0 a.evs.length c p w K E (fun hh => by rw [he] at hh; simp at hh) (h.cell h7) (by omega) ?_
    refine WI.num (h.later ((Below.refl w.heap.size w).alloc (Nat.le_refl _) _)) (CB.cell (CB.made 3 w _) rfl) (by omega) fun w1 h1 t => ⟨CB.cell (t _ _ _ _ (CB.made 3 w _) (by decide) (by decide)) rfl, h1.cell h7, fun _ => hK _ ?_, fun hh => by rw [he] at hh; simp at hh⟩
    have h1 := h1.drew
    rw [he] at h1 ⊢
    simpa [wrVs] using h1
  · obtain ⟨b, o, rfl, hx⟩ := hi.addr he
    refine listE_same (showsW g) gb gA 7 b o a.evs.length c _ w K E (fun _ => rfl) (h.cell h7) (by omega) ?_
    refine WI.num (h.later ((Below.refl w.heap.size w).alloc (Nat.le_refl _) _)) (CB.cell (CB.made 3 w _) rfl) (by omega) fun w1 h1 t => ⟨CB.cell (t _ _ _ _ (CB.made 3 w _) (by decide) (by decide)) rfl, h1.cell h7, fun hh => absurd (List.eq_nil_of_length_eq_zero hh) he, fun _ => ?_⟩
    refine WI.events h7 a.evs hx K E a.evs.length 0 _ w1.drew h1.drew (by omega) (by rw [List.drop_zero, List.length_append]; omega) fun w' h' => hK w' ?_
    rw [List.drop_zero] at h'
    simpa [List.append_assoc] using h'
end

/-- What throughAnswer does with a writer. -/
def ThW (w0 : World) (g : Nat) (L : List UInt8) (x : Ending) (w' : World) : Prop := x = .returned (.tuple #[]) ∧ WRT 51 w' g w0.heap.size L ∧ Below w0.heap.size w0 w'

theorem thrW_any (w0 : World) (g gA : Nat) (k : Int) (a : AA) (kv iv ev : Value) (l : List UInt8) (w : World) (hW : WRT 51 w g w0.heap.size l) (hA : CB 27 w gA (ansC a kv iv ev)) (hb : Below w0.heap.size w0 w) (hg : w0.heap.size ≤ g) (hv : AnsV w0 a kv iv ev) (hi : a.its.length ≤ 1000) (he : a.evs.length ≤ 1000) (hbig : l.length + (wrA k a).length ≤ 140737488352000) :
    Calls Try.prog 15 #[.iface 53 (.pointer (some ⟨g, 0, none⟩)), .int .i64 k, .pointer (some ⟨gA, 0, none⟩)] w (ThW w0 g (l ++ wrA k a)) := by
  have hgA := hA.lt
  have b1 := (Below.refl w.heap.size w).alloc (Nat.le_refl _) (.cells #[.iface (showsW g).T (showsW g).v] 65)
  have h0 : WI w0 g gA w.heap.size (ansC a kv iv ev) l (w.alloc (.cells #[.iface (showsW g).T (showsW g).v] 65)) := ⟨hW.later b1, hb.trans (b1.mono hb.size), hA.later b1, CB.made _ w _, hg⟩
  have h1 : WI w0 g gA w.heap.size (ansC a kv iv ev) l (codeW (showsW g) a.code w) := h0.later ((Below.refl _ _).alloc (Nat.le_refl _) _)
  have hs : (w.alloc (.cells #[.iface (showsW g).T (showsW g).v] 65)).heap.size = w.heap.size + 1 := World.size_alloc _ _
  have cC : CB 3 (codeW (showsW g) a.code w) (w.heap.size + 1) #[.int .i64 a.code] := by
    have := CB.made 3 (w.alloc (.cells #[.iface (showsW g).T (showsW g).v] 65)) #[.int .i64 a.code]
    rw [hs] at this
    exact this
  have n9 := numL9 a.code
  -- the code, and what follows it
  have hcode : ∀ (Z : World → Prop) (Q : World → Prop) (E : List PanicEntry → World → Prop), (a.code ≠ 0 → ∀ w1, WI w0 g gA w.heap.size (ansC a kv iv ev) (l ++ numL (clampN a.code)) w1 → Q w1) → (a.code = 0 → ∀ w1, WI w0 g gA w.heap.size (ansC a kv iv ev) (l ++ numL (clampN a.code)) w1 → Z w1) →
      ShN (showsW g) (w.heap.size + 1) 0 2147483648 (codeW (showsW g) a.code w) (Coded (showsW g) gA w.heap.size Z Q) E := by
    intro Z Q E hQ hZ
    refine WI.num h1 (cC.cell rfl) (by omega) fun w1 k1 t => ⟨k1.bx, a.code, CB.cell (t _ _ _ _ cC (by decide) (by decide)) rfl, ⟨_, k1.cell rfl⟩, k1.2.2.1.free 0, fun hn => ?_, fun hz => ?_⟩
    · rw [setCell_self k1.2.2.1 rfl]
      exact hQ hn w1 k1
    · rw [← hz, setCell_self k1.2.2.1 rfl]
      exact hZ hz w1 k1
  have hfin0 : a.code ≠ 0 → ∀ w1, WI w0 g gA w.heap.size (ansC a kv iv ev) (l ++ numL (clampN a.code)) w1 → ThW w0 g (l ++ wrA k a) (.returned (.tuple #[])) w1 := by
    intro hn w1 k1
    refine ⟨rfl, ?_, k1.2.1⟩
    unfold wrA
    rw [if_neg hn, List.append_nil]
    exact k1.1
  have hE : ∀ (ch : List PanicEntry) (w' : World), (fun (_ : List PanicEntry) (_ : World) => False) ch w' → ThW w0 g (l ++ wrA k a) (.panicked ch) w' := fun _ _ h => h.elim
  have fin : ∀ {L : List UInt8} {w' : World}, WI w0 g gA w.heap.size (ansC a kv iv ev) L w' → L = l ++ wrA k a → ThW w0 g (l ++ wrA k a) (.returned (.tuple #[])) w' := fun h e => ⟨rfl, e ▸ h.1, h.2.1⟩
  have hLA : a.code = 0 → l ++ wrA k a = (l ++ numL (clampN a.code)) ++ wrK k a := by
    intro hz
    unfold wrA
    rw [if_pos hz, List.append_assoc]
  have hbK : a.code = 0 → (l ++ numL (clampN a.code)).length + (wrK k a).length ≤ 140737488352000 := by
    intro hz
    have := hLA hz
    have e := congrArg List.length this
    simp only [List.length_append] at e hbig ⊢
    omega
  by_cases k1 : k = 1
  · subst k1
    refine thr1 (showsW g) gA a.code w _ _ hE w.heap.size rfl hgA (hA.cell rfl) (hcode _ _ _ hfin0 fun hz w2 h2 => ?_)
    have hl := hLA hz
    have hb2 := hbK hz
    simp only [wrK, if_true] at hl hb2
    exact WI.num h2.drew (h2.drew.cell rfl) (by omega) fun w3 h3 _ => fin h3 hl.symm
  by_cases k3 : k = 3
  · subst k3
    refine thr3 (showsW g) gA a.code w _ _ hE w.heap.size rfl hgA (hA.cell rfl) (hcode _ _ _ hfin0 fun hz w2 h2 => ?_)
    have hl := hLA hz
    have hb2 := hbK hz
    have e : wrK 3 a = wrS a := rfl
    rw [e] at hl hb2
    exact WI.state h2 rfl hv.1 (by omega) fun w3 h3 => fin h3 hl.symm
  by_cases k4 : k = 4
  · subst k4
    refine thr4 (showsW g) gA a.code w _ _ hE w.heap.size rfl hgA (hA.cell rfl) (hcode _ _ _ hfin0 fun hz w2 h2 => ?_)
    have hl := hLA hz
    have hb2 := hbK hz
    have e : wrK 4 a = numL (clampN a.ep) ++ wrS a := rfl
    rw [e, ← List.append_assoc] at hl
    rw [e] at hb2
    simp only [List.length_append] at hb2
    refine WI.num h2.drew (h2.drew.cell rfl) (by omega) fun w3 h3 _ => ⟨h3.bx, ?_⟩
    exact WI.state h3 rfl hv.1 (by simp only [List.length_append]; omega) fun w4 h4 => fin h4 hl.symm
  by_cases k5 : k = 5
  · subst k5
    refine thr5 (showsW g) gA a.code w _ _ hE w.heap.size rfl hgA (hA.cell rfl) (hcode _ _ _ hfin0 fun hz w2 h2 => ?_)
    have hl := hLA hz
    have hb2 := hbK hz
    have e : wrK 5 a = flagL a.sa ++ wrS a := rfl
    rw [e, ← List.append_assoc] at hl
    rw [e] at hb2
    simp only [List.length_append] at hb2
    refine WI.flag h2.drew rfl (by omega) fun w3 h3 => ⟨h3.bx, ?_⟩
    exact WI.state h3 rfl hv.1 (by simp only [List.length_append]; omega) fun w4 h4 => fin h4 hl.symm
  by_cases k6 : k = 6
  · subst k6
    refine thr6 (showsW g) gA a.code w _ _ hE w.heap.size rfl hgA (hA.cell rfl) (hcode _ _ _ hfin0 fun hz w2 h2 => ?_)
    have hl := hLA hz
    have hb2 := hbK hz
    have e : wrK 6 a = (numL (clampN (a.its.length : Int)) ++ wrIs a.its) ++ flagL a.mo := by rw [List.append_assoc]; rfl
    rw [e, ← List.append_assoc] at hl
    rw [e] at hb2
    simp only [List.length_append] at hb2
    refine WI.listI h2.drew rfl hv.2.1 hi (by simp only [List.length_append]; omega) _ _ fun w3 h3 => ⟨h3.bx, ?_⟩
    exact WI.flag h3.drew rfl (by simp only [List.length_append]; omega) fun w4 h4 => fin h4 hl.symm
  by_cases k10 : k = 10
  · subst k10
    refine thr10 (showsW g) gA a.code w _ _ hE w.heap.size rfl hgA (hA.cell rfl) (hcode _ _ _ hfin0 fun hz w2 h2 => ?_)
    have hl := hLA hz
    have hb2 := hbK hz
    have e : wrK 10 a = (numL (clampN (a.its.length : Int)) ++ wrIs a.its) ++ flagL a.mo := by rw [List.append_assoc]; rfl
    rw [e, ← List.append_assoc] at hl
    rw [e] at hb2
    simp only [List.length_append] at hb2
    refine WI.listI h2.drew rfl hv.2.1 hi (by simp only [List.length_append]; omega) _ _ fun w3 h3 => ⟨h3.bx, ?_⟩
    exact WI.flag h3.drew rfl (by simp only [List.length_append]; omega) fun w4 h4 => fin h4 hl.symm
  by_cases k7 : k = 7
  · subst k7
    refine thr7 (showsW g) gA a.code w _ _ hE w.heap.size rfl hgA (hA.cell rfl) (hcode _ _ _ hfin0 fun hz w2 h2 => ?_)
    have hl := hLA hz
    have hb2 := hbK hz
    have e : wrK 7 a = (numL (clampN (a.evs.length : Int)) ++ wrVs a.evs) ++ (flagL a.mo ++ (if a.mo = true then numL (clampN a.ep) ++ numL (clampN a.si) else [])) := by rw [List.append_assoc]; rfl
    rw [e, ← List.append_assoc] at hl
    rw [e] at hb2
    simp only [List.length_append] at hb2
    have f1 := flagL1 a.mo
    refine WI.listE h2.drew rfl hv.2.2 he (by simp only [List.length_append]; omega) _ _ fun w3 h3 => ⟨h3.bx, ?_⟩
    refine WI.flag h3.drew rfl (by simp only [List.length_append]; omega) fun w4 h4 => ⟨a.mo, rfl, fun hy => ⟨h4.bx, ?_⟩, fun hy => ?_⟩
    · rw [if_pos hy] at hl hb2
      simp only [List.length_append] at hb2
      refine WI.shns h4.drew 2147483648 [(⟨gA, 1, none⟩, a.ep), (⟨gA, 5, none⟩, a.si)] ?_ (by simp only [List.length_append, List.length_cons, List.length_nil]; omega) fun w5 h5 => fin h5 ?_
      · intro y hy W _ hc
        simp only [List.mem_cons, List.not_mem_nil, or_false] at hy
        rcases hy with rfl | rfl
        · exact hc.cell rfl
        · exact hc.cell rfl
      · rw [hl]
        simp [List.append_assoc]
    · rw [if_neg (by rw [hy]; decide), List.append_nil] at hl
      exact fin h4 hl.symm
  · refine thr0 (showsW g) gA a.code k (by omega) w _ _ hE w.heap.size rfl hgA (hA.cell rfl) (hcode _ _ _ hfin0 fun hz w2 h2 => ?_)
    have hl := hLA hz
    have e : wrK k a = [] := by
      unfold wrK
      rw [if_neg k1, if_neg k3, if_neg k4, if_neg k5, if_neg (by omega), if_neg k7]
    rw [e, List.append_nil] at hl
    exact fin h2 hl.symm

end Go.Proofs.Ytldmbfemoepfkaa

namespace Go.Proofs.Ytldmbfemoepfkaa
open Go.RowKit

set_option maxHeartbeats 400000 in
theorem behind_any (v : Value) (l : List UInt8) (w : World) (h : HB w v l) (hbig : l.length ≤ 140737488355328) :
    Calls Try.prog 22 #[v] w fun e w' => ∃ p c, e = .returned (.agg #[.slice p l.length c]) ∧ w'.ownsRow w.heap.size 5 1 (.slice p l.length c) l.length (bcs l) ∧ Below w.heap.size w w' := by
  have b1 := (Below.refl w.heap.size w).alloc (Nat.le_refl _) (.cells #[.slice none 0 0] 51)
  have c1 := CB.made 51 w #[.slice none 0 0]
  have hC := clone_own v l _ (h.later b1) hbig
  obtain ⟨p0, c0, rfl⟩ := h.shape
  obtain ⟨w1, hw1⟩ : ∃ x, x = w.alloc (.cells #[.slice none 0 0] 51) := ⟨_, rfl⟩
  have HW : Hid (w1 = w.alloc (.cells #[.slice none 0 0] 51)) := hw1
  rw [← hw1] at b1 c1
  clear h hw1
  go_enter Try.func22, Try.ntmps22
  go_wp2_with fail
  refine hC.mono ?_
  rintro e w2 ⟨p, c, rfl, ho, hb⟩
  rw [← HW.out] at ho hb
  clear hC HW
  have c2 := c1.later hb
  have d0 : w2.cell? ⟨w.heap.size, 0, none⟩ = some (.slice none 0 0) := c2.cell rfl
  have f0 := c2.free 0
  have t2 : TK 51 w2 (w2.setCell ⟨w.heap.size, 0, none⟩ (.slice p l.length c)) := TK.of_only ((Only.refl w.heap.size w2).setCell 0 _) c2
  have ho2 := owns_mono (owns_tk ho t2 (by decide)) b1.size
  have hb2 : Below w.heap.size w (w2.setCell ⟨w.heap.size, 0, none⟩ (.slice p l.length c)) := (b1.trans (hb.mono b1.size)).setCell (p := ⟨w.heap.size, 0, none⟩) (Nat.le_refl _) _
  clear c1 c2 t2 ho hb b1
  go_wp2
  refine bodyPost_ret (v := .agg #[.slice p l.length c]) ?_ rfl ⟨p, c, rfl, ho2, hb2⟩
  simp only [results, Try.results22]
  go_simp


set_option maxHeartbeats 400000 in
theorem answer_any (v : Value) (b : List UInt8) (k : Int) (a : AA) (kv iv ev : Value) (w : World) (hv : HB w v b) (ha : AnsV w a kv iv ev) (hi : a.its.length ≤ 1000) (he : a.evs.length ≤ 1000) (hbig : b.length + (wrA k a).length ≤ 140737488352000) :
    Calls Try.prog 9 #[v, .int .i64 k, .agg (ansC a kv iv ev)] w fun x w' => ∃ p c, x = .returned (.slice p (b ++ wrA k a).length c) ∧ HB w' (.slice p (b ++ wrA k a).length c) (b ++ wrA k a) ∧ Below w.heap.size w w' := by
  have b1 := (Below.refl w.heap.size w).alloc (Nat.le_refl _) (.cells (ansC a kv iv ev) 27)
  have cA := CB.made 27 w (ansC a kv iv ev)
  obtain ⟨w1, hw1⟩ : ∃ x, x = w.alloc (.cells (ansC a kv iv ev) 27) := ⟨_, rfl⟩
  rw [← hw1] at b1 cA
  have hB := behind_any v b w1 (hv.later b1) (by omega)
  have hv1 : AnsV w1 a kv iv ev := ⟨ha.1.later b1, ha.2.1.later b1, ha.2.2.later b1⟩
  have HW : Hid (w1 = w.alloc (.cells (ansC a kv iv ev) 27)) := hw1
  rw [hw1] at hB
  clear hw1 ha
  obtain ⟨pv, cv, rfl⟩ := hv.shape
  clear hv
  obtain ⟨L, hL⟩ : ∃ L, L = b ++ wrA k a := ⟨_, rfl⟩
  rw [← hL]
  unfold ansC at hB HW ⊢
  go_enter Try.func9, Try.ntmps9
  go_wp2_with fail
  refine hB.mono ?_
  clear hB
  rintro e w2 ⟨p, c, rfl, ho, hb2⟩
  rw [← HW.out] at ho hb2
  have b3 := (Below.refl w2.heap.size w2).alloc (Nat.le_refl _) (.cells #[.slice p b.length c] 51)
  have hW : WRT 51 (w2.alloc (.cells #[.slice p b.length c] 51)) w2.heap.size w1.heap.size b := ⟨p, c, heap_alloc_new w2 _, owns_later ho b3, Nat.le_trans hb2.size b3.size⟩
  have hT := thrW_any w1 w2.heap.size w.heap.size k a kv iv ev b _ hW ((cA.later hb2).later b3) (hb2.trans (b3.mono hb2.size)) hb2.size hv1 hi he hbig
  clear ho b3 hW hb2 hv1 cA HW
  rw [← hL] at hT
  clear hL
  go_wp2_with fail
  refine hT.mono ?_
  clear hT
  rintro e w3 ⟨rfl, hR, hb3⟩
  have hF := written_any 51 _ _ L w3 hR
  clear hR
  go_wp2_with fail
  refine hF.mono ?_
  clear hF
  rintro e w4 ⟨p4, c4, rfl, ho4, rfl⟩
  have hfin := HB.of_owns ho4
  have bF := b1.trans (hb3.mono b1.size)
  clear ho4 hb3 b1
  go_wp2
  go_ret
  exact ⟨p4, c4, rfl, hfin, bF⟩

end Go.Proofs.Ytldmbfemoepfkaa
