/- What this text proves: a law for the walk of the document's device's Copy: the region that copies its three rows, in whichever order it comes up. (By program: mkrdcopy.py.) -/
import Derived.Test.YtmikhebbcmniaaaXDOf9
import Derived.Test.YtmikhebbcmniaaaXDOf
namespace Go.Proofs.Ytmikhebbcmniaaa
open Go.RowKit

def of2o : Array Oper := #[⟨some 7, .buildSlice 36 0 #[], 36, "ref.go:116", #[], none⟩,
  ⟨some 8, .move (.tmp 0), 27, "ref.go:116", #[], none⟩,
  ⟨some 9, .nilCheck (.tmp 8), 0, "ref.go:116", #[⟨1, .data⟩], none⟩,
  ⟨some 10, .fieldAddr 74 (.tmp 9) 0, 0, "ref.go:116", #[⟨2, .data⟩], none⟩,
  ⟨some 11, .load 36 (.tmp 10), 36, "ref.go:116", #[⟨3, .data⟩], none⟩,
  ⟨some 12, .call { callee := .builtin .append, args := #[.tmp 7, .tmp 11], argTypes := #[36, 36] }, 36, "ref.go:116", #[⟨0, .data⟩, ⟨4, .data⟩], none⟩,
  ⟨some 13, .buildSlice 36 0 #[], 36, "ref.go:116", #[], none⟩,
  ⟨some 14, .move (.tmp 0), 27, "ref.go:116", #[], none⟩,
  ⟨some 15, .nilCheck (.tmp 14), 0, "ref.go:116", #[⟨7, .data⟩], none⟩,
  ⟨some 16, .fieldAddr 74 (.tmp 15) 1, 0, "ref.go:116", #[⟨8, .data⟩], none⟩,
  ⟨some 17, .load 36 (.tmp 16), 36, "ref.go:116", #[⟨9, .data⟩], none⟩,
  ⟨some 18, .call { callee := .builtin .append, args := #[.tmp 13, .tmp 17], argTypes := #[36, 36] }, 36, "ref.go:116", #[⟨6, .data⟩, ⟨10, .data⟩, ⟨5, .chain⟩], none⟩,
  ⟨some 19, .buildSlice 72 0 #[], 72, "ref.go:116", #[], none⟩,
  ⟨some 20, .move (.tmp 0), 27, "ref.go:116", #[], none⟩,
  ⟨some 21, .nilCheck (.tmp 20), 0, "ref.go:116", #[⟨13, .data⟩], none⟩,
  ⟨some 22, .fieldAddr 74 (.tmp 21) 2, 0, "ref.go:116", #[⟨14, .data⟩], none⟩,
  ⟨some 23, .load 72 (.tmp 22), 72, "ref.go:116", #[⟨15, .data⟩], none⟩,
  ⟨some 24, .call { callee := .builtin .append, args := #[.tmp 19, .tmp 23], argTypes := #[72, 72] }, 72, "ref.go:116", #[⟨12, .data⟩, ⟨16, .data⟩, ⟨11, .chain⟩], none⟩,
  ⟨some 25, .fieldAddr 74 (.tmp 3) 0, 0, "ref.go:116", #[⟨0, .phase⟩, ⟨1, .phase⟩, ⟨2, .phase⟩, ⟨3, .phase⟩, ⟨4, .phase⟩, ⟨5, .phase⟩, ⟨6, .textOnly .lateStoresUnsure⟩, ⟨7, .textOnly .lateStores⟩, ⟨8, .textOnly .lateStoresUnsure⟩, ⟨9, .textOnly .lateStoresUnsure⟩, ⟨10, .phase⟩, ⟨11, .phase⟩, ⟨12, .textOnly .lateStoresUnsure⟩, ⟨13, .textOnly .lateStores⟩, ⟨14, .textOnly .lateStoresUnsure⟩, ⟨15, .textOnly .lateStoresUnsure⟩, ⟨16, .phase⟩, ⟨17, .phase⟩], none⟩,
  ⟨none, .store 36 (.tmp 25) (.tmp 12), 0, "ref.go:116", #[⟨18, .data⟩, ⟨5, .data⟩, ⟨17, .chain⟩, ⟨0, .phase⟩, ⟨1, .phase⟩, ⟨2, .phase⟩, ⟨3, .phase⟩, ⟨4, .phase⟩, ⟨5, .phase⟩, ⟨6, .textOnly .lateStoresUnsure⟩, ⟨7, .textOnly .lateStores⟩, ⟨8, .textOnly .lateStoresUnsure⟩, ⟨9, .textOnly .lateStoresUnsure⟩, ⟨10, .phase⟩, ⟨11, .phase⟩, ⟨12, .textOnly .lateStoresUnsure⟩, ⟨13, .textOnly .lateStores⟩, ⟨14, .textOnly .lateStoresUnsure⟩, ⟨15, .textOnly .lateStoresUnsure⟩, ⟨16, .phase⟩, ⟨17, .phase⟩], none⟩,
  ⟨some 26, .fieldAddr 74 (.tmp 3) 1, 0, "ref.go:116", #[⟨0, .phase⟩, ⟨1, .phase⟩, ⟨2, .phase⟩, ⟨3, .phase⟩, ⟨4, .phase⟩, ⟨5, .phase⟩, ⟨6, .phase⟩, ⟨7, .phase⟩, ⟨8, .phase⟩, ⟨9, .phase⟩, ⟨10, .phase⟩, ⟨11, .phase⟩, ⟨12, .textOnly .lateStoresUnsure⟩, ⟨13, .textOnly .lateStores⟩, ⟨14, .textOnly .lateStoresUnsure⟩, ⟨15, .textOnly .lateStoresUnsure⟩, ⟨16, .phase⟩, ⟨17, .phase⟩, ⟨18, .phase⟩, ⟨19, .phase⟩], none⟩,
  ⟨none, .store 36 (.tmp 26) (.tmp 18), 0, "ref.go:116", #[⟨20, .data⟩, ⟨11, .data⟩, ⟨19, .chain⟩, ⟨0, .phase⟩, ⟨1, .phase⟩, ⟨2, .phase⟩, ⟨3, .phase⟩, ⟨4, .phase⟩, ⟨5, .phase⟩, ⟨6, .phase⟩, ⟨7, .phase⟩, ⟨8, .phase⟩, ⟨9, .phase⟩, ⟨10, .phase⟩, ⟨11, .phase⟩, ⟨12, .textOnly .lateStoresUnsure⟩, ⟨13, .textOnly .lateStores⟩, ⟨14, .textOnly .lateStoresUnsure⟩, ⟨15, .textOnly .lateStoresUnsure⟩, ⟨16, .phase⟩, ⟨17, .phase⟩, ⟨18, .phase⟩, ⟨19, .phase⟩], none⟩,
  ⟨some 27, .fieldAddr 74 (.tmp 3) 2, 0, "ref.go:116", #[⟨0, .phase⟩, ⟨1, .phase⟩, ⟨2, .phase⟩, ⟨3, .phase⟩, ⟨4, .phase⟩, ⟨5, .phase⟩, ⟨6, .phase⟩, ⟨7, .phase⟩, ⟨8, .phase⟩, ⟨9, .phase⟩, ⟨10, .phase⟩, ⟨11, .phase⟩, ⟨12, .phase⟩, ⟨13, .phase⟩, ⟨14, .phase⟩, ⟨15, .phase⟩, ⟨16, .phase⟩, ⟨17, .phase⟩, ⟨18, .phase⟩, ⟨19, .phase⟩, ⟨20, .phase⟩, ⟨21, .phase⟩], none⟩,
  ⟨none, .store 72 (.tmp 27) (.tmp 24), 0, "ref.go:116", #[⟨22, .data⟩, ⟨17, .data⟩, ⟨21, .chain⟩, ⟨0, .phase⟩, ⟨1, .phase⟩, ⟨2, .phase⟩, ⟨3, .phase⟩, ⟨4, .phase⟩, ⟨5, .phase⟩, ⟨6, .phase⟩, ⟨7, .phase⟩, ⟨8, .phase⟩, ⟨9, .phase⟩, ⟨10, .phase⟩, ⟨11, .phase⟩, ⟨12, .phase⟩, ⟨13, .phase⟩, ⟨14, .phase⟩, ⟨15, .phase⟩, ⟨16, .phase⟩, ⟨17, .phase⟩, ⟨18, .phase⟩, ⟨19, .phase⟩, ⟨20, .phase⟩, ⟨21, .phase⟩], none⟩]

def of2a : Array Oper := #[⟨some 7, .buildSlice 36 0 #[], 36, "ref.go:116", #[], none⟩,
  ⟨some 8, .move (.tmp 0), 27, "ref.go:116", #[], none⟩,
  ⟨some 9, .nilCheck (.tmp 8), 0, "ref.go:116", #[⟨1, .data⟩], none⟩,
  ⟨some 10, .fieldAddr 74 (.tmp 9) 0, 0, "ref.go:116", #[⟨2, .data⟩], none⟩,
  ⟨some 11, .load 36 (.tmp 10), 36, "ref.go:116", #[⟨3, .data⟩], none⟩,
  ⟨some 12, .call { callee := .builtin .append, args := #[.tmp 7, .tmp 11], argTypes := #[36, 36] }, 36, "ref.go:116", #[⟨0, .data⟩, ⟨4, .data⟩], none⟩,
  ⟨some 13, .buildSlice 36 0 #[], 36, "ref.go:116", #[], none⟩,
  ⟨some 14, .move (.tmp 0), 27, "ref.go:116", #[], none⟩,
  ⟨some 15, .nilCheck (.tmp 14), 0, "ref.go:116", #[⟨7, .data⟩], none⟩,
  ⟨some 16, .fieldAddr 74 (.tmp 15) 1, 0, "ref.go:116", #[⟨8, .data⟩], none⟩,
  ⟨some 17, .load 36 (.tmp 16), 36, "ref.go:116", #[⟨9, .data⟩], none⟩,
  ⟨some 18, .call { callee := .builtin .append, args := #[.tmp 13, .tmp 17], argTypes := #[36, 36] }, 36, "ref.go:116", #[⟨6, .data⟩, ⟨10, .data⟩, ⟨5, .chain⟩], none⟩,
  ⟨some 19, .buildSlice 72 0 #[], 72, "ref.go:116", #[], none⟩,
  ⟨some 20, .move (.tmp 0), 27, "ref.go:116", #[], none⟩,
  ⟨some 21, .nilCheck (.tmp 20), 0, "ref.go:116", #[⟨13, .data⟩], none⟩,
  ⟨some 22, .fieldAddr 74 (.tmp 21) 2, 0, "ref.go:116", #[⟨14, .data⟩], none⟩,
  ⟨some 23, .load 72 (.tmp 22), 72, "ref.go:116", #[⟨15, .data⟩], none⟩,
  ⟨some 24, .call { callee := .builtin .append, args := #[.tmp 19, .tmp 23], argTypes := #[72, 72] }, 72, "ref.go:116", #[⟨12, .data⟩, ⟨16, .data⟩, ⟨11, .chain⟩], none⟩]

/-- A row of nothing, in a block of its own. -/
def EMT (W : World) (base : Nat) (T : TypeId) (v : Value) : Prop := ∃ g, v = .slice (some ⟨g, 0, none⟩) 0 0 ∧ W.heap[g]? = some (.cells #[] T (0, 0)) ∧ base ≤ g
theorem EMT.owns {W : World} {base : Nat} {T : TypeId} {v : Value} (h : EMT W base T v) : W.ownsRow base T 1 v 0 [] := by
  obtain ⟨g, rfl, h1, h2⟩ := h
  exact ⟨rfl, .inr ⟨g, 0, #[], rfl, h2, h1, Nat.zero_le _, Nat.zero_le _, rfl, rfl⟩⟩
theorem EMT.later {W W' : World} {base : Nat} {T : TypeId} {v : Value} (h : EMT W base T v) (hb : Below W.heap.size W W') : EMT W' base T v := by
  obtain ⟨g, e, h1, h2⟩ := h
  exact ⟨g, e, (hb.block g (Array.getElem?_eq_some_iff.1 h1).1).trans h1, h2⟩
theorem EMT.sty {W W' : World} {base : Nat} {T : TypeId} {v : Value} (h : EMT W base T v) (t : Sty T W W') : EMT W' base T v := by
  obtain ⟨g, e, h1, h2⟩ := h
  exact ⟨g, e, t _ _ _ h1, h2⟩
theorem EMT.grown {W W' : World} {base : Nat} {T T' : TypeId} {v u : Value} (h : EMT W base T v) (hu : EMT W base T' u) (hne : v ≠ u) (hg : W.grownBy W' u.ownBlock) : EMT W' base T v := by
  obtain ⟨g, rfl, h1, h2⟩ := h
  obtain ⟨g', rfl, h3, h4⟩ := hu
  refine ⟨g, rfl, ?_, h2⟩
  rw [hg.block g (Array.getElem?_eq_some_iff.1 h1).1 (by
    simp only [Value.ownBlock, ne_eq, Option.some.injEq]
    rintro rfl
    exact hne rfl)]
  exact h1
theorem EMT.made (W : World) (base : Nat) (T : TypeId) (hb : base ≤ W.heap.size) : EMT (W.alloc (.cells #[] T)) base T (.slice (some ⟨W.heap.size, 0, none⟩) 0 0) := ⟨_, rfl, heap_alloc_new W _, hb⟩
theorem EMT.fresh {W : World} {base : Nat} {T : TypeId} {v : Value} (h : EMT W base T v) : v ≠ .slice (some ⟨W.heap.size, 0, none⟩) 0 0 := by
  obtain ⟨g, rfl, h1, h2⟩ := h
  have := (Array.getElem?_eq_some_iff.1 h1).1
  intro e
  simp only [Value.slice.injEq, Option.some.injEq, Addr.mk.injEq, and_true] at e
  omega
theorem emt_ne {W : World} {base g : Nat} {T T' : TypeId} {v u : Value} (h : EMT W base T v) (hu : EMT W base T' u) (hne : v ≠ u) (hat : u.ownBlock = some g ∨ g = W.heap.size) : v.ownBlock ≠ some g := by
  obtain ⟨g1, rfl, h1, h2⟩ := h
  obtain ⟨g2, rfl, h3, h4⟩ := hu
  have hl := (Array.getElem?_eq_some_iff.1 h1).1
  intro e
  simp only [Value.ownBlock, Option.some.injEq] at e hat
  rcases hat with h | h
  · exact hne (by rw [e, h])
  · omega

set_option maxRecDepth 10000 in
set_option maxHeartbeats 8000000 in
theorem of2 (w : World) (bx gz bl bk bw cl ck cw n : Nat) (f : Int) (d : Bool) (c : Int) (us ks bs : List Value) (ds : List Deferred) (t1 t2 t4 t5 t6 t7 t8 t9 t10 t11 t12 t13 t14 t15 t16 t17 t18 t19 t20 t21 t22 t23 t24 t25 t26 t27 : Value) (Q : Exit → Act → World → Prop)
    (hx : w.heap[bx]? = some (.cells #[.slice (some ⟨bl, 0, none⟩) n cl, .slice (some ⟨bk, 0, none⟩) n ck, .slice (some ⟨bw, 0, none⟩) n cw, .int .i64 f, .bool d, .int .i64 c] 74 (0, 0))) (hz : w.heap[gz]? = some (.cells #[.slice (some ⟨bl, 0, none⟩) n cl, .slice (some ⟨bk, 0, none⟩) n ck, .slice (some ⟨bw, 0, none⟩) n cw, .int .i64 f, .bool d, .int .i64 c] 74 (0, 0))) (hgz : gz < w.heap.size) (hn : 1 ≤ n) (hn2 : n ≤ 16384)
    (hu : us.length = n ∧ ∀ W, Below w.heap.size w W → ∀ (j : Nat) u, us[j]? = some u → W.cell? ((⟨bl, 0, none⟩ : Addr).add j) = some u) (hu1 : ∀ u ∈ us, u.oneCell' = true)
    (hk : ks.length = n ∧ ∀ W, Below w.heap.size w W → ∀ (j : Nat) u, ks[j]? = some u → W.cell? ((⟨bk, 0, none⟩ : Addr).add j) = some u) (hk1 : ∀ u ∈ ks, u.oneCell' = true)
    (hb : bs.length = n ∧ ∀ W, Below w.heap.size w W → ∀ (j : Nat) u, bs[j]? = some u → W.cell? ((⟨bw, 0, none⟩ : Addr).add j) = some u) (hb1 : ∀ u ∈ bs, u.oneCell' = true)
    (hQ : ∀ (s7 s8 s9 s10 s11 s12 s13 s14 s15 s16 s17 s18 s19 s20 s21 s22 s23 s24 s25 s26 s27 : Value) (g1 g2 g3 c1 c2 c3 : Nat) (W : World), W.ownsRow w.heap.size 31 1 (.slice (some ⟨g1, 0, none⟩) n c1) n us → W.ownsRow w.heap.size 31 1 (.slice (some ⟨g2, 0, none⟩) n c2) n ks → W.ownsRow w.heap.size 4 1 (.slice (some ⟨g3, 0, none⟩) n c3) n bs → g1 ≠ g2 →
      W.heap[gz]? = some (.cells #[.slice (some ⟨g1, 0, none⟩) n c1, .slice (some ⟨g2, 0, none⟩) n c2, .slice (some ⟨g3, 0, none⟩) n c3, .int .i64 f, .bool d, .int .i64 c] 74 (0, 0)) → Below gz w W → Sty 5 w W → Q .normal ⟨List.toArray ((.pointer (some ⟨bx, 0, none⟩)) :: t1 :: t2 :: (.pointer (some ⟨gz, 0, none⟩)) :: t4 :: t5 :: t6 :: s7 :: s8 :: s9 :: s10 :: s11 :: s12 :: s13 :: s14 :: s15 :: s16 :: s17 :: s18 :: s19 :: s20 :: s21 :: s22 :: s23 :: s24 :: s25 :: s26 :: s27 :: []), ds⟩ W) :
    (Code.region 2 of2o true).wp Try.prog Q ⟨List.toArray ((.pointer (some ⟨bx, 0, none⟩)) :: t1 :: t2 :: (.pointer (some ⟨gz, 0, none⟩)) :: t4 :: t5 :: t6 :: t7 :: t8 :: t9 :: t10 :: t11 :: t12 :: t13 :: t14 :: t15 :: t16 :: t17 :: t18 :: t19 :: t20 :: t21 :: t22 :: t23 :: t24 :: t25 :: t26 :: t27 :: []), ds⟩ w := by
  have hSx : ∀ W : World, Below w.heap.size w W → (fun W => W.cell? ⟨bx, 0, none⟩ = some (.slice (some ⟨bl, 0, none⟩) n cl) ∧ W.cell? ⟨bx, 1, none⟩ = some (.slice (some ⟨bk, 0, none⟩) n ck) ∧ W.cell? ⟨bx, 2, none⟩ = some (.slice (some ⟨bw, 0, none⟩) n cw)) W := fun W b => by
    have X := (b.block bx (Array.getElem?_eq_some_iff.1 hx).1).trans hx
    exact ⟨by rw [cell_of_row W bx 0 _ _ _ X]; rfl, by rw [cell_of_row W bx 1 _ _ _ X]; rfl, by rw [cell_of_row W bx 2 _ _ _ X]; rfl⟩
  have bD : Below w.heap.size w w.drew := (Below.refl _ _).drew
  have hHeld : (fun W => W.cell? ⟨bx, 0, none⟩ = some (.slice (some ⟨bl, 0, none⟩) n cl) ∧ W.cell? ⟨bx, 1, none⟩ = some (.slice (some ⟨bk, 0, none⟩) n ck) ∧ W.cell? ⟨bx, 2, none⟩ = some (.slice (some ⟨bw, 0, none⟩) n cw)) w.drew := hSx _ bD
  have h411 : ∀ (x7 x12 x13 x18 x19 x24 : Value) (W : World), (Below w.heap.size w W) → (∃ g c, x12 = .slice (some ⟨g, 0, none⟩) n c ∧ W.ownsRow w.heap.size 31 1 x12 n us) → (∃ g c, x18 = .slice (some ⟨g, 0, none⟩) n c ∧ W.ownsRow w.heap.size 31 1 x18 n ks ∧ x12.ownBlock ≠ some g) → (∃ g c, x24 = .slice (some ⟨g, 0, none⟩) n c ∧ W.ownsRow w.heap.size 4 1 x24 n bs) → wpAnyH Try.prog .any of2a (headPost Try.prog .any of2o (NoPanic Q) 18 6) (fun W => W.cell? ⟨bx, 0, none⟩ = some (.slice (some ⟨bl, 0, none⟩) n cl) ∧ W.cell? ⟨bx, 1, none⟩ = some (.slice (some ⟨bk, 0, none⟩) n ck) ∧ W.cell? ⟨bx, 2, none⟩ = some (.slice (some ⟨bw, 0, none⟩) n cw)) 0 #[true, true, true, true, true, true, true, true, true, true, true, true, true, true, true, true, true, true] ⟨List.toArray ((.pointer (some ⟨bx, 0, none⟩)) :: t1 :: t2 :: (.pointer (some ⟨gz, 0, none⟩)) :: t4 :: t5 :: t6 :: x7 :: (.pointer (some ⟨bx, 0, none⟩)) :: (.pointer (some ⟨bx, 0, none⟩)) :: (.pointer (some ⟨bx, 0, none⟩)) :: (.slice (some ⟨bl, 0, none⟩) n cl) :: x12 :: x13 :: (.pointer (some ⟨bx, 0, none⟩)) :: (.pointer (some ⟨bx, 0, none⟩)) :: (.pointer (some ⟨bx, 1, none⟩)) :: (.slice (some ⟨bk, 0, none⟩) n ck) :: x18 :: x19 :: (.pointer (some ⟨bx, 0, none⟩)) :: (.pointer (some ⟨bx, 0, none⟩)) :: (.pointer (some ⟨bx, 2, none⟩)) :: (.slice (some ⟨bw, 0, none⟩) n cw) :: x24 :: t25 :: t26 :: t27 :: []), ds⟩ W := by
    intro x7 x12 x13 x18 x19 x24 W b f12 f18 f24
    obtain ⟨g1, c1, rfl, q1⟩ := f12
    obtain ⟨g2, c2, rfl, q2, n2⟩ := f18
    obtain ⟨g3, c3, rfl, q3⟩ := f24
    refine wpAnyH_done (by kernel_rfl) ?_ _
    refine headPost_rest [⟨some 25, .fieldAddr 74 (.tmp 3) 0, 0, "ref.go:116", #[⟨0, .phase⟩, ⟨1, .phase⟩, ⟨2, .phase⟩, ⟨3, .phase⟩, ⟨4, .phase⟩, ⟨5, .phase⟩, ⟨6, .textOnly .lateStoresUnsure⟩, ⟨7, .textOnly .lateStores⟩, ⟨8, .textOnly .lateStoresUnsure⟩, ⟨9, .textOnly .lateStoresUnsure⟩, ⟨10, .phase⟩, ⟨11, .phase⟩, ⟨12, .textOnly .lateStoresUnsure⟩, ⟨13, .textOnly .lateStores⟩, ⟨14, .textOnly .lateStoresUnsure⟩, ⟨15, .textOnly .lateStoresUnsure⟩, ⟨16, .phase⟩, ⟨17, .phase⟩], none⟩,
      ⟨none, .store 36 (.tmp 25) (.tmp 12), 0, "ref.go:116", #[⟨18, .data⟩, ⟨5, .data⟩, ⟨17, .chain⟩, ⟨0, .phase⟩, ⟨1, .phase⟩, ⟨2, .phase⟩, ⟨3, .phase⟩, ⟨4, .phase⟩, ⟨5, .phase⟩, ⟨6, .textOnly .lateStoresUnsure⟩, ⟨7, .textOnly .lateStores⟩, ⟨8, .textOnly .lateStoresUnsure⟩, ⟨9, .textOnly .lateStoresUnsure⟩, ⟨10, .phase⟩, ⟨11, .phase⟩, ⟨12, .textOnly .lateStoresUnsure⟩, ⟨13, .textOnly .lateStores⟩, ⟨14, .textOnly .lateStoresUnsure⟩, ⟨15, .textOnly .lateStoresUnsure⟩, ⟨16, .phase⟩, ⟨17, .phase⟩], none⟩,
      ⟨some 26, .fieldAddr 74 (.tmp 3) 1, 0, "ref.go:116", #[⟨0, .phase⟩, ⟨1, .phase⟩, ⟨2, .phase⟩, ⟨3, .phase⟩, ⟨4, .phase⟩, ⟨5, .phase⟩, ⟨6, .phase⟩, ⟨7, .phase⟩, ⟨8, .phase⟩, ⟨9, .phase⟩, ⟨10, .phase⟩, ⟨11, .phase⟩, ⟨12, .textOnly .lateStoresUnsure⟩, ⟨13, .textOnly .lateStores⟩, ⟨14, .textOnly .lateStoresUnsure⟩, ⟨15, .textOnly .lateStoresUnsure⟩, ⟨16, .phase⟩, ⟨17, .phase⟩, ⟨18, .phase⟩, ⟨19, .phase⟩], none⟩,
      ⟨none, .store 36 (.tmp 26) (.tmp 18), 0, "ref.go:116", #[⟨20, .data⟩, ⟨11, .data⟩, ⟨19, .chain⟩, ⟨0, .phase⟩, ⟨1, .phase⟩, ⟨2, .phase⟩, ⟨3, .phase⟩, ⟨4, .phase⟩, ⟨5, .phase⟩, ⟨6, .phase⟩, ⟨7, .phase⟩, ⟨8, .phase⟩, ⟨9, .phase⟩, ⟨10, .phase⟩, ⟨11, .phase⟩, ⟨12, .textOnly .lateStoresUnsure⟩, ⟨13, .textOnly .lateStores⟩, ⟨14, .textOnly .lateStoresUnsure⟩, ⟨15, .textOnly .lateStoresUnsure⟩, ⟨16, .phase⟩, ⟨17, .phase⟩, ⟨18, .phase⟩, ⟨19, .phase⟩], none⟩,
      ⟨some 27, .fieldAddr 74 (.tmp 3) 2, 0, "ref.go:116", #[⟨0, .phase⟩, ⟨1, .phase⟩, ⟨2, .phase⟩, ⟨3, .phase⟩, ⟨4, .phase⟩, ⟨5, .phase⟩, ⟨6, .phase⟩, ⟨7, .phase⟩, ⟨8, .phase⟩, ⟨9, .phase⟩, ⟨10, .phase⟩, ⟨11, .phase⟩, ⟨12, .phase⟩, ⟨13, .phase⟩, ⟨14, .phase⟩, ⟨15, .phase⟩, ⟨16, .phase⟩, ⟨17, .phase⟩, ⟨18, .phase⟩, ⟨19, .phase⟩, ⟨20, .phase⟩, ⟨21, .phase⟩], none⟩,
      ⟨none, .store 72 (.tmp 27) (.tmp 24), 0, "ref.go:116", #[⟨22, .data⟩, ⟨17, .data⟩, ⟨21, .chain⟩, ⟨0, .phase⟩, ⟨1, .phase⟩, ⟨2, .phase⟩, ⟨3, .phase⟩, ⟨4, .phase⟩, ⟨5, .phase⟩, ⟨6, .phase⟩, ⟨7, .phase⟩, ⟨8, .phase⟩, ⟨9, .phase⟩, ⟨10, .phase⟩, ⟨11, .phase⟩, ⟨12, .phase⟩, ⟨13, .phase⟩, ⟨14, .phase⟩, ⟨15, .phase⟩, ⟨16, .phase⟩, ⟨17, .phase⟩, ⟨18, .phase⟩, ⟨19, .phase⟩, ⟨20, .phase⟩, ⟨21, .phase⟩], none⟩] (by kernel_rfl) rfl (by kernel_rfl) ?_
    have X := (b.block gz hgz).trans hz
    have cx0 : W.cell? ⟨gz, 0, none⟩ = some (.slice (some ⟨bl, 0, none⟩) n cl) := by rw [cell_of_row W gz 0 _ _ _ X]; rfl
    have cx1 : W.cell? ⟨gz, 1, none⟩ = some (.slice (some ⟨bk, 0, none⟩) n ck) := by rw [cell_of_row W gz 1 _ _ _ X]; rfl
    have cx2 : W.cell? ⟨gz, 2, none⟩ = some (.slice (some ⟨bw, 0, none⟩) n cw) := by rw [cell_of_row W gz 2 _ _ _ X]; rfl
    have fz0 : W.frozen? ⟨gz, 0, none⟩ = false := by simp [World.frozen?, X]
    have fz1 : W.frozen? ⟨gz, 1, none⟩ = false := by simp [World.frozen?, X]
    have fz2 : W.frozen? ⟨gz, 2, none⟩ = false := by simp [World.frozen?, X]
    have hX3 : (((W.setCell ⟨gz, 0, none⟩ (.slice (some ⟨g1, 0, none⟩) n c1)).setCell ⟨gz, 1, none⟩ (.slice (some ⟨g2, 0, none⟩) n c2)).setCell ⟨gz, 2, none⟩ (.slice (some ⟨g3, 0, none⟩) n c3)).heap[gz]? = some (.cells #[.slice (some ⟨g1, 0, none⟩) n c1, .slice (some ⟨g2, 0, none⟩) n c2, .slice (some ⟨g3, 0, none⟩) n c3, .int .i64 f, .bool d, .int .i64 c] 74 (0, 0)) := by rw [heap_setCell_same _ gz 2 _ _ _ (heap_setCell_same _ gz 1 _ _ _ (heap_setCell_same W gz 0 _ _ _ X))]; rfl
    have tS : ∀ T, 74 ≠ T → Sty T W (((W.setCell ⟨gz, 0, none⟩ (.slice (some ⟨g1, 0, none⟩) n c1)).setCell ⟨gz, 1, none⟩ (.slice (some ⟨g2, 0, none⟩) n c2)).setCell ⟨gz, 2, none⟩ (.slice (some ⟨g3, 0, none⟩) n c3)) := fun T hT => ((Sty.setCell X hT).trans (Sty.setCell (heap_setCell_same W gz 0 _ _ _ X) hT)).trans (Sty.setCell (heap_setCell_same _ gz 1 _ _ _ (heap_setCell_same W gz 0 _ _ _ X)) hT)
    have k1 := owns_sty q1 (tS _ (by decide))
    have k2 := owns_sty q2 (tS _ (by decide))
    have k3 := owns_sty q3 (tS _ (by decide))
    have b3 : Below gz w (((W.setCell ⟨gz, 0, none⟩ (.slice (some ⟨g1, 0, none⟩) n c1)).setCell ⟨gz, 1, none⟩ (.slice (some ⟨g2, 0, none⟩) n c2)).setCell ⟨gz, 2, none⟩ (.slice (some ⟨g3, 0, none⟩) n c3)) := (((b.mono (Nat.le_of_lt hgz)).setCell (Nat.le_refl _) _).setCell (Nat.le_refl _) _).setCell (Nat.le_refl _) _
    have n3 : g1 ≠ g2 := fun e => n2 (by rw [e]; rfl)
    have hu8 := (Sty.of_below (T := 5) b).trans (tS _ (by decide))
    clear tS q1 q2 q3 b X n2 hSx hz hHeld
    go_wp2
    exact NoPanic.normal (hQ _ _ _ _ _ _ _ _ _ _ _ _ _ _ _ _ _ _ _ _ _ g1 g2 g3 c1 c2 c3 _ k1 k2 k3 n3 hX3 b3 hu8)
  have h311 : ∀ (x7 x12 x13 x18 x19 x24 : Value) (W : World), (Below w.heap.size w W) → (∃ g c, x12 = .slice (some ⟨g, 0, none⟩) n c ∧ W.ownsRow w.heap.size 31 1 x12 n us) → (∃ g c, x18 = .slice (some ⟨g, 0, none⟩) n c ∧ W.ownsRow w.heap.size 31 1 x18 n ks ∧ x12.ownBlock ≠ some g) → (EMT W w.heap.size 4 x19) → wpAnyH Try.prog .any of2a (headPost Try.prog .any of2o (NoPanic Q) 18 6) (fun W => W.cell? ⟨bx, 0, none⟩ = some (.slice (some ⟨bl, 0, none⟩) n cl) ∧ W.cell? ⟨bx, 1, none⟩ = some (.slice (some ⟨bk, 0, none⟩) n ck) ∧ W.cell? ⟨bx, 2, none⟩ = some (.slice (some ⟨bw, 0, none⟩) n cw)) 1 #[true, true, true, true, true, true, true, true, true, true, true, true, true, true, true, true, true, false] ⟨List.toArray ((.pointer (some ⟨bx, 0, none⟩)) :: t1 :: t2 :: (.pointer (some ⟨gz, 0, none⟩)) :: t4 :: t5 :: t6 :: x7 :: (.pointer (some ⟨bx, 0, none⟩)) :: (.pointer (some ⟨bx, 0, none⟩)) :: (.pointer (some ⟨bx, 0, none⟩)) :: (.slice (some ⟨bl, 0, none⟩) n cl) :: x12 :: x13 :: (.pointer (some ⟨bx, 0, none⟩)) :: (.pointer (some ⟨bx, 0, none⟩)) :: (.pointer (some ⟨bx, 1, none⟩)) :: (.slice (some ⟨bk, 0, none⟩) n ck) :: x18 :: x19 :: (.pointer (some ⟨bx, 0, none⟩)) :: (.pointer (some ⟨bx, 0, none⟩)) :: (.pointer (some ⟨bx, 2, none⟩)) :: (.slice (some ⟨bw, 0, none⟩) n cw) :: x24 :: t25 :: t26 :: t27 :: []), ds⟩ W := by
    intro x7 x12 x13 x18 x19 x24 W b f12 f18 f19
    refine wpAnyH_ready (rs := [17]) (by kernel_rfl) (by simp) ?_
    refine AllReadyH.cons (o := ⟨some 24, .call { callee := .builtin .append, args := #[.tmp 19, .tmp 23], argTypes := #[72, 72] }, 72, "ref.go:116", #[⟨12, .data⟩, ⟨16, .data⟩, ⟨11, .chain⟩], none⟩) rfl (fun K hK => ?_) AllReadyH.nil
    · have hsz := b.size
      obtain ⟨i0, hi0, hz0, hz1, hz2⟩ := info_parts i_boo
      refine step_append_lies _ (by rfl) _ _ _ (by rfl) w.heap.size 4 i0 _ 1 1 Try.underlying72 hi0 hz0 hz1 hz2 rfl (by omega) _ 0 [] (by rfl) f19.owns ⟨bw, 0, none⟩ n cw bs (by rfl) (by rw [hb.1]; omega) (hb.2 W b) hb1 (by omega) (by unfold maxLen; omega) (by omega) hsz W.heap.size rfl ?_
      intro g cap W' ow gr hat hlt
      rw [Nat.zero_add, List.nil_append] at ow
      have hem := f19
      have b' : Below w.heap.size w W' := b.grown gr hsz (fun q hq => (hem.owns.lt q hq).1)
      have tY : Sty 31 W W' := Sty.of_grown hem.owns gr (by decide)
      clear hlt hat
      refine hK.out _ _ (hSx _ b') (fun _ => ?_)
      rw [Nat.zero_add n]
      exact h411 x7 x12 x13 x18 x19 (.slice (some ⟨g, 0, none⟩) n cap) W' b' (Exists.elim f12 fun g h => Exists.elim h fun c h => ⟨g, c, h.1, owns_sty h.2 tY⟩) (Exists.elim f18 fun g h => Exists.elim h fun c h => ⟨g, c, h.1, owns_sty h.2.1 tY, h.2.2⟩) ⟨g, cap, rfl, ow⟩
  have h310 : ∀ (x7 x12 x13 x18 x19 x24 : Value) (W : World), (Below w.heap.size w W) → (∃ g c, x12 = .slice (some ⟨g, 0, none⟩) n c ∧ W.ownsRow w.heap.size 31 1 x12 n us) → (∃ g c, x18 = .slice (some ⟨g, 0, none⟩) n c ∧ W.ownsRow w.heap.size 31 1 x18 n ks ∧ x12.ownBlock ≠ some g) → wpAnyH Try.prog .any of2a (headPost Try.prog .any of2o (NoPanic Q) 18 6) (fun W => W.cell? ⟨bx, 0, none⟩ = some (.slice (some ⟨bl, 0, none⟩) n cl) ∧ W.cell? ⟨bx, 1, none⟩ = some (.slice (some ⟨bk, 0, none⟩) n ck) ∧ W.cell? ⟨bx, 2, none⟩ = some (.slice (some ⟨bw, 0, none⟩) n cw)) 2 #[true, true, true, true, true, true, true, true, true, true, true, true, false, true, true, true, true, false] ⟨List.toArray ((.pointer (some ⟨bx, 0, none⟩)) :: t1 :: t2 :: (.pointer (some ⟨gz, 0, none⟩)) :: t4 :: t5 :: t6 :: x7 :: (.pointer (some ⟨bx, 0, none⟩)) :: (.pointer (some ⟨bx, 0, none⟩)) :: (.pointer (some ⟨bx, 0, none⟩)) :: (.slice (some ⟨bl, 0, none⟩) n cl) :: x12 :: x13 :: (.pointer (some ⟨bx, 0, none⟩)) :: (.pointer (some ⟨bx, 0, none⟩)) :: (.pointer (some ⟨bx, 1, none⟩)) :: (.slice (some ⟨bk, 0, none⟩) n ck) :: x18 :: x19 :: (.pointer (some ⟨bx, 0, none⟩)) :: (.pointer (some ⟨bx, 0, none⟩)) :: (.pointer (some ⟨bx, 2, none⟩)) :: (.slice (some ⟨bw, 0, none⟩) n cw) :: x24 :: t25 :: t26 :: t27 :: []), ds⟩ W := by
    intro x7 x12 x13 x18 x19 x24 W b f12 f18
    refine wpAnyH_ready (rs := [12]) (by kernel_rfl) (by simp) ?_
    refine AllReadyH.cons (o := ⟨some 19, .buildSlice 72 0 #[], 72, "ref.go:116", #[], none⟩) rfl (fun K hK => ?_) AllReadyH.nil
    · go_simp
      have bA := (Below.refl W.heap.size W).alloc (Nat.le_refl _) (.cells #[] 4)
      have hsz := b.size
      refine hK.out _ _ (hSx _ (b.trans (bA.mono hsz))) (fun _ => ?_)
      exact h311 x7 x12 x13 x18 (.slice (some ⟨W.heap.size, 0, none⟩) 0 0) x24 (W.alloc (.cells #[] 4)) (b.trans (bA.mono hsz)) (Exists.elim f12 fun g h => Exists.elim h fun c h => ⟨g, c, h.1, owns_later h.2 bA⟩) (Exists.elim f18 fun g h => Exists.elim h fun c h => ⟨g, c, h.1, owns_later h.2.1 bA, h.2.2⟩) (EMT.made W _ _ hsz)
  have h211 : ∀ (x7 x12 x13 x18 x19 x24 : Value) (W : World), (Below w.heap.size w W) → (∃ g c, x12 = .slice (some ⟨g, 0, none⟩) n c ∧ W.ownsRow w.heap.size 31 1 x12 n us) → (EMT W w.heap.size 31 x13) → (∀ g, x13.ownBlock = some g → x12.ownBlock ≠ some g) → (EMT W w.heap.size 4 x19) → wpAnyH Try.prog .any of2a (headPost Try.prog .any of2o (NoPanic Q) 18 6) (fun W => W.cell? ⟨bx, 0, none⟩ = some (.slice (some ⟨bl, 0, none⟩) n cl) ∧ W.cell? ⟨bx, 1, none⟩ = some (.slice (some ⟨bk, 0, none⟩) n ck) ∧ W.cell? ⟨bx, 2, none⟩ = some (.slice (some ⟨bw, 0, none⟩) n cw)) 2 #[true, true, true, true, true, true, true, true, true, true, true, false, true, true, true, true, true, false] ⟨List.toArray ((.pointer (some ⟨bx, 0, none⟩)) :: t1 :: t2 :: (.pointer (some ⟨gz, 0, none⟩)) :: t4 :: t5 :: t6 :: x7 :: (.pointer (some ⟨bx, 0, none⟩)) :: (.pointer (some ⟨bx, 0, none⟩)) :: (.pointer (some ⟨bx, 0, none⟩)) :: (.slice (some ⟨bl, 0, none⟩) n cl) :: x12 :: x13 :: (.pointer (some ⟨bx, 0, none⟩)) :: (.pointer (some ⟨bx, 0, none⟩)) :: (.pointer (some ⟨bx, 1, none⟩)) :: (.slice (some ⟨bk, 0, none⟩) n ck) :: x18 :: x19 :: (.pointer (some ⟨bx, 0, none⟩)) :: (.pointer (some ⟨bx, 0, none⟩)) :: (.pointer (some ⟨bx, 2, none⟩)) :: (.slice (some ⟨bw, 0, none⟩) n cw) :: x24 :: t25 :: t26 :: t27 :: []), ds⟩ W := by
    intro x7 x12 x13 x18 x19 x24 W b f12 f13 n2 f19
    refine wpAnyH_ready (rs := [11]) (by kernel_rfl) (by simp) ?_
    refine AllReadyH.cons (o := ⟨some 18, .call { callee := .builtin .append, args := #[.tmp 13, .tmp 17], argTypes := #[36, 36] }, 36, "ref.go:116", #[⟨6, .data⟩, ⟨10, .data⟩, ⟨5, .chain⟩], none⟩) rfl (fun K hK => ?_) AllReadyH.nil
    · have hsz := b.size
      obtain ⟨i0, hi0, hz0, hz1, hz2⟩ := info_parts i_byt
      refine step_append_lies _ (by rfl) _ _ _ (by rfl) w.heap.size 31 i0 _ 1 24 Try.underlying36 hi0 hz0 hz1 hz2 rfl (by omega) _ 0 [] (by rfl) f13.owns ⟨bk, 0, none⟩ n ck ks (by rfl) (by rw [hk.1]; omega) (hk.2 W b) hk1 (by omega) (by unfold maxLen; omega) (by omega) hsz W.heap.size rfl ?_
      intro g cap W' ow gr hat hlt
      rw [Nat.zero_add, List.nil_append] at ow
      have hem := f13
      have b' : Below w.heap.size w W' := b.grown gr hsz (fun q hq => (hem.owns.lt q hq).1)
      obtain ⟨g1, c1, rfl, o1⟩ := f12
      have n3 : (Value.slice (some ⟨g1, 0, none⟩) n c1).ownBlock ≠ some g := by
        intro e
        rcases hat with h | h
        · exact n2 g h e
        · have := (o1.lt g e).2
          omega
      refine hK.out _ _ (hSx _ b') (fun _ => ?_)
      rw [Nat.zero_add n]
      exact h311 x7 (.slice (some ⟨g1, 0, none⟩) n c1) x13 (.slice (some ⟨g, 0, none⟩) n cap) x19 x24 W' b' ⟨g1, c1, rfl, o1.kept gr (.inr (fun e => n2 g1 (e.symm) rfl))⟩ ⟨g, cap, rfl, ow, n3⟩ (f19.sty (Sty.of_grown hem.owns gr (by decide)))
  have h210 : ∀ (x7 x12 x13 x18 x19 x24 : Value) (W : World), (Below w.heap.size w W) → (∃ g c, x12 = .slice (some ⟨g, 0, none⟩) n c ∧ W.ownsRow w.heap.size 31 1 x12 n us) → (EMT W w.heap.size 31 x13) → (∀ g, x13.ownBlock = some g → x12.ownBlock ≠ some g) → wpAnyH Try.prog .any of2a (headPost Try.prog .any of2o (NoPanic Q) 18 6) (fun W => W.cell? ⟨bx, 0, none⟩ = some (.slice (some ⟨bl, 0, none⟩) n cl) ∧ W.cell? ⟨bx, 1, none⟩ = some (.slice (some ⟨bk, 0, none⟩) n ck) ∧ W.cell? ⟨bx, 2, none⟩ = some (.slice (some ⟨bw, 0, none⟩) n cw)) 3 #[true, true, true, true, true, true, true, true, true, true, true, false, false, true, true, true, true, false] ⟨List.toArray ((.pointer (some ⟨bx, 0, none⟩)) :: t1 :: t2 :: (.pointer (some ⟨gz, 0, none⟩)) :: t4 :: t5 :: t6 :: x7 :: (.pointer (some ⟨bx, 0, none⟩)) :: (.pointer (some ⟨bx, 0, none⟩)) :: (.pointer (some ⟨bx, 0, none⟩)) :: (.slice (some ⟨bl, 0, none⟩) n cl) :: x12 :: x13 :: (.pointer (some ⟨bx, 0, none⟩)) :: (.pointer (some ⟨bx, 0, none⟩)) :: (.pointer (some ⟨bx, 1, none⟩)) :: (.slice (some ⟨bk, 0, none⟩) n ck) :: x18 :: x19 :: (.pointer (some ⟨bx, 0, none⟩)) :: (.pointer (some ⟨bx, 0, none⟩)) :: (.pointer (some ⟨bx, 2, none⟩)) :: (.slice (some ⟨bw, 0, none⟩) n cw) :: x24 :: t25 :: t26 :: t27 :: []), ds⟩ W := by
    intro x7 x12 x13 x18 x19 x24 W b f12 f13 n2
    refine wpAnyH_ready (rs := [11, 12]) (by kernel_rfl) (by simp) ?_
    refine AllReadyH.cons (o := ⟨some 18, .call { callee := .builtin .append, args := #[.tmp 13, .tmp 17], argTypes := #[36, 36] }, 36, "ref.go:116", #[⟨6, .data⟩, ⟨10, .data⟩, ⟨5, .chain⟩], none⟩) rfl (fun K hK => ?_) (AllReadyH.cons (o := ⟨some 19, .buildSlice 72 0 #[], 72, "ref.go:116", #[], none⟩) rfl (fun K hK => ?_) AllReadyH.nil)
    · have hsz := b.size
      obtain ⟨i0, hi0, hz0, hz1, hz2⟩ := info_parts i_byt
      refine step_append_lies _ (by rfl) _ _ _ (by rfl) w.heap.size 31 i0 _ 1 24 Try.underlying36 hi0 hz0 hz1 hz2 rfl (by omega) _ 0 [] (by rfl) f13.owns ⟨bk, 0, none⟩ n ck ks (by rfl) (by rw [hk.1]; omega) (hk.2 W b) hk1 (by omega) (by unfold maxLen; omega) (by omega) hsz W.heap.size rfl ?_
      intro g cap W' ow gr hat hlt
      rw [Nat.zero_add, List.nil_append] at ow
      have hem := f13
      have b' : Below w.heap.size w W' := b.grown gr hsz (fun q hq => (hem.owns.lt q hq).1)
      obtain ⟨g1, c1, rfl, o1⟩ := f12
      have n3 : (Value.slice (some ⟨g1, 0, none⟩) n c1).ownBlock ≠ some g := by
        intro e
        rcases hat with h | h
        · exact n2 g h e
        · have := (o1.lt g e).2
          omega
      refine hK.out _ _ (hSx _ b') (fun _ => ?_)
      rw [Nat.zero_add n]
      exact h310 x7 (.slice (some ⟨g1, 0, none⟩) n c1) x13 (.slice (some ⟨g, 0, none⟩) n cap) x19 x24 W' b' ⟨g1, c1, rfl, o1.kept gr (.inr (fun e => n2 g1 (e.symm) rfl))⟩ ⟨g, cap, rfl, ow, n3⟩
    · go_simp
      have bA := (Below.refl W.heap.size W).alloc (Nat.le_refl _) (.cells #[] 4)
      have hsz := b.size
      refine hK.out _ _ (hSx _ (b.trans (bA.mono hsz))) (fun _ => ?_)
      exact h211 x7 x12 x13 x18 (.slice (some ⟨W.heap.size, 0, none⟩) 0 0) x24 (W.alloc (.cells #[] 4)) (b.trans (bA.mono hsz)) (Exists.elim f12 fun g h => Exists.elim h fun c h => ⟨g, c, h.1, owns_later h.2 bA⟩) (f13.later bA) n2 (EMT.made W _ _ hsz)
  have h201 : ∀ (x7 x12 x13 x18 x19 x24 : Value) (W : World), (Below w.heap.size w W) → (∃ g c, x12 = .slice (some ⟨g, 0, none⟩) n c ∧ W.ownsRow w.heap.size 31 1 x12 n us) → (EMT W w.heap.size 4 x19) → wpAnyH Try.prog .any of2a (headPost Try.prog .any of2o (NoPanic Q) 18 6) (fun W => W.cell? ⟨bx, 0, none⟩ = some (.slice (some ⟨bl, 0, none⟩) n cl) ∧ W.cell? ⟨bx, 1, none⟩ = some (.slice (some ⟨bk, 0, none⟩) n ck) ∧ W.cell? ⟨bx, 2, none⟩ = some (.slice (some ⟨bw, 0, none⟩) n cw)) 3 #[true, true, true, true, true, true, false, true, true, true, true, false, true, true, true, true, true, false] ⟨List.toArray ((.pointer (some ⟨bx, 0, none⟩)) :: t1 :: t2 :: (.pointer (some ⟨gz, 0, none⟩)) :: t4 :: t5 :: t6 :: x7 :: (.pointer (some ⟨bx, 0, none⟩)) :: (.pointer (some ⟨bx, 0, none⟩)) :: (.pointer (some ⟨bx, 0, none⟩)) :: (.slice (some ⟨bl, 0, none⟩) n cl) :: x12 :: x13 :: (.pointer (some ⟨bx, 0, none⟩)) :: (.pointer (some ⟨bx, 0, none⟩)) :: (.pointer (some ⟨bx, 1, none⟩)) :: (.slice (some ⟨bk, 0, none⟩) n ck) :: x18 :: x19 :: (.pointer (some ⟨bx, 0, none⟩)) :: (.pointer (some ⟨bx, 0, none⟩)) :: (.pointer (some ⟨bx, 2, none⟩)) :: (.slice (some ⟨bw, 0, none⟩) n cw) :: x24 :: t25 :: t26 :: t27 :: []), ds⟩ W := by
    intro x7 x12 x13 x18 x19 x24 W b f12 f19
    refine wpAnyH_ready (rs := [6]) (by kernel_rfl) (by simp) ?_
    refine AllReadyH.cons (o := ⟨some 13, .buildSlice 36 0 #[], 36, "ref.go:116", #[], none⟩) rfl (fun K hK => ?_) AllReadyH.nil
    · go_simp
      have bA := (Below.refl W.heap.size W).alloc (Nat.le_refl _) (.cells #[] 31)
      have hsz := b.size
      have n2' : ∀ g, (Value.slice (some ⟨W.heap.size, 0, none⟩) 0 0).ownBlock = some g → x12.ownBlock ≠ some g := by
        intro g hg hx
        obtain ⟨g', c', e, ho⟩ := f12
        have := (ho.lt g hx).2
        simp only [Value.ownBlock, Option.some.injEq] at hg
        omega
      refine hK.out _ _ (hSx _ (b.trans (bA.mono hsz))) (fun _ => ?_)
      exact h211 x7 x12 (.slice (some ⟨W.heap.size, 0, none⟩) 0 0) x18 x19 x24 (W.alloc (.cells #[] 31)) (b.trans (bA.mono hsz)) (Exists.elim f12 fun g h => Exists.elim h fun c h => ⟨g, c, h.1, owns_later h.2 bA⟩) (EMT.made W _ _ hsz) n2' (f19.later bA)
  have h200 : ∀ (x7 x12 x13 x18 x19 x24 : Value) (W : World), (Below w.heap.size w W) → (∃ g c, x12 = .slice (some ⟨g, 0, none⟩) n c ∧ W.ownsRow w.heap.size 31 1 x12 n us) → wpAnyH Try.prog .any of2a (headPost Try.prog .any of2o (NoPanic Q) 18 6) (fun W => W.cell? ⟨bx, 0, none⟩ = some (.slice (some ⟨bl, 0, none⟩) n cl) ∧ W.cell? ⟨bx, 1, none⟩ = some (.slice (some ⟨bk, 0, none⟩) n ck) ∧ W.cell? ⟨bx, 2, none⟩ = some (.slice (some ⟨bw, 0, none⟩) n cw)) 4 #[true, true, true, true, true, true, false, true, true, true, true, false, false, true, true, true, true, false] ⟨List.toArray ((.pointer (some ⟨bx, 0, none⟩)) :: t1 :: t2 :: (.pointer (some ⟨gz, 0, none⟩)) :: t4 :: t5 :: t6 :: x7 :: (.pointer (some ⟨bx, 0, none⟩)) :: (.pointer (some ⟨bx, 0, none⟩)) :: (.pointer (some ⟨bx, 0, none⟩)) :: (.slice (some ⟨bl, 0, none⟩) n cl) :: x12 :: x13 :: (.pointer (some ⟨bx, 0, none⟩)) :: (.pointer (some ⟨bx, 0, none⟩)) :: (.pointer (some ⟨bx, 1, none⟩)) :: (.slice (some ⟨bk, 0, none⟩) n ck) :: x18 :: x19 :: (.pointer (some ⟨bx, 0, none⟩)) :: (.pointer (some ⟨bx, 0, none⟩)) :: (.pointer (some ⟨bx, 2, none⟩)) :: (.slice (some ⟨bw, 0, none⟩) n cw) :: x24 :: t25 :: t26 :: t27 :: []), ds⟩ W := by
    intro x7 x12 x13 x18 x19 x24 W b f12
    refine wpAnyH_ready (rs := [6, 12]) (by kernel_rfl) (by simp) ?_
    refine AllReadyH.cons (o := ⟨some 13, .buildSlice 36 0 #[], 36, "ref.go:116", #[], none⟩) rfl (fun K hK => ?_) (AllReadyH.cons (o := ⟨some 19, .buildSlice 72 0 #[], 72, "ref.go:116", #[], none⟩) rfl (fun K hK => ?_) AllReadyH.nil)
    · go_simp
      have bA := (Below.refl W.heap.size W).alloc (Nat.le_refl _) (.cells #[] 31)
      have hsz := b.size
      have n2' : ∀ g, (Value.slice (some ⟨W.heap.size, 0, none⟩) 0 0).ownBlock = some g → x12.ownBlock ≠ some g := by
        intro g hg hx
        obtain ⟨g', c', e, ho⟩ := f12
        have := (ho.lt g hx).2
        simp only [Value.ownBlock, Option.some.injEq] at hg
        omega
      refine hK.out _ _ (hSx _ (b.trans (bA.mono hsz))) (fun _ => ?_)
      exact h210 x7 x12 (.slice (some ⟨W.heap.size, 0, none⟩) 0 0) x18 x19 x24 (W.alloc (.cells #[] 31)) (b.trans (bA.mono hsz)) (Exists.elim f12 fun g h => Exists.elim h fun c h => ⟨g, c, h.1, owns_later h.2 bA⟩) (EMT.made W _ _ hsz) n2'
    · go_simp
      have bA := (Below.refl W.heap.size W).alloc (Nat.le_refl _) (.cells #[] 4)
      have hsz := b.size
      refine hK.out _ _ (hSx _ (b.trans (bA.mono hsz))) (fun _ => ?_)
      exact h201 x7 x12 x13 x18 (.slice (some ⟨W.heap.size, 0, none⟩) 0 0) x24 (W.alloc (.cells #[] 4)) (b.trans (bA.mono hsz)) (Exists.elim f12 fun g h => Exists.elim h fun c h => ⟨g, c, h.1, owns_later h.2 bA⟩) (EMT.made W _ _ hsz)
  have h111 : ∀ (x7 x12 x13 x18 x19 x24 : Value) (W : World), (Below w.heap.size w W) → (EMT W w.heap.size 31 x7) → (EMT W w.heap.size 31 x13) → (x13 ≠ x7) → (EMT W w.heap.size 4 x19) → wpAnyH Try.prog .any of2a (headPost Try.prog .any of2o (NoPanic Q) 18 6) (fun W => W.cell? ⟨bx, 0, none⟩ = some (.slice (some ⟨bl, 0, none⟩) n cl) ∧ W.cell? ⟨bx, 1, none⟩ = some (.slice (some ⟨bk, 0, none⟩) n ck) ∧ W.cell? ⟨bx, 2, none⟩ = some (.slice (some ⟨bw, 0, none⟩) n cw)) 3 #[true, true, true, true, true, false, true, true, true, true, true, false, true, true, true, true, true, false] ⟨List.toArray ((.pointer (some ⟨bx, 0, none⟩)) :: t1 :: t2 :: (.pointer (some ⟨gz, 0, none⟩)) :: t4 :: t5 :: t6 :: x7 :: (.pointer (some ⟨bx, 0, none⟩)) :: (.pointer (some ⟨bx, 0, none⟩)) :: (.pointer (some ⟨bx, 0, none⟩)) :: (.slice (some ⟨bl, 0, none⟩) n cl) :: x12 :: x13 :: (.pointer (some ⟨bx, 0, none⟩)) :: (.pointer (some ⟨bx, 0, none⟩)) :: (.pointer (some ⟨bx, 1, none⟩)) :: (.slice (some ⟨bk, 0, none⟩) n ck) :: x18 :: x19 :: (.pointer (some ⟨bx, 0, none⟩)) :: (.pointer (some ⟨bx, 0, none⟩)) :: (.pointer (some ⟨bx, 2, none⟩)) :: (.slice (some ⟨bw, 0, none⟩) n cw) :: x24 :: t25 :: t26 :: t27 :: []), ds⟩ W := by
    intro x7 x12 x13 x18 x19 x24 W b f7 f13 n1 f19
    refine wpAnyH_ready (rs := [5]) (by kernel_rfl) (by simp) ?_
    refine AllReadyH.cons (o := ⟨some 12, .call { callee := .builtin .append, args := #[.tmp 7, .tmp 11], argTypes := #[36, 36] }, 36, "ref.go:116", #[⟨0, .data⟩, ⟨4, .data⟩], none⟩) rfl (fun K hK => ?_) AllReadyH.nil
    · have hsz := b.size
      obtain ⟨i0, hi0, hz0, hz1, hz2⟩ := info_parts i_byt
      refine step_append_lies _ (by rfl) _ _ _ (by rfl) w.heap.size 31 i0 _ 1 24 Try.underlying36 hi0 hz0 hz1 hz2 rfl (by omega) _ 0 [] (by rfl) f7.owns ⟨bl, 0, none⟩ n cl us (by rfl) (by rw [hu.1]; omega) (hu.2 W b) hu1 (by omega) (by unfold maxLen; omega) (by omega) hsz W.heap.size rfl ?_
      intro g cap W' ow gr hat hlt
      rw [Nat.zero_add, List.nil_append] at ow
      have hem := f7
      have b' : Below w.heap.size w W' := b.grown gr hsz (fun q hq => (hem.owns.lt q hq).1)
      have n2' : ∀ q, x13.ownBlock = some q → (Value.slice (some ⟨g, 0, none⟩) n cap).ownBlock ≠ some q := by
        intro q hq hx
        simp only [Value.ownBlock, Option.some.injEq] at hx
        subst hx
        exact emt_ne f13 hem n1 hat hq
      refine hK.out _ _ (hSx _ b') (fun _ => ?_)
      rw [Nat.zero_add n]
      exact h211 x7 (.slice (some ⟨g, 0, none⟩) n cap) x13 x18 x19 x24 W' b' ⟨g, cap, rfl, ow⟩ (f13.grown hem n1 gr) n2' (f19.sty (Sty.of_grown hem.owns gr (by decide)))
  have h110 : ∀ (x7 x12 x13 x18 x19 x24 : Value) (W : World), (Below w.heap.size w W) → (EMT W w.heap.size 31 x7) → (EMT W w.heap.size 31 x13) → (x13 ≠ x7) → wpAnyH Try.prog .any of2a (headPost Try.prog .any of2o (NoPanic Q) 18 6) (fun W => W.cell? ⟨bx, 0, none⟩ = some (.slice (some ⟨bl, 0, none⟩) n cl) ∧ W.cell? ⟨bx, 1, none⟩ = some (.slice (some ⟨bk, 0, none⟩) n ck) ∧ W.cell? ⟨bx, 2, none⟩ = some (.slice (some ⟨bw, 0, none⟩) n cw)) 4 #[true, true, true, true, true, false, true, true, true, true, true, false, false, true, true, true, true, false] ⟨List.toArray ((.pointer (some ⟨bx, 0, none⟩)) :: t1 :: t2 :: (.pointer (some ⟨gz, 0, none⟩)) :: t4 :: t5 :: t6 :: x7 :: (.pointer (some ⟨bx, 0, none⟩)) :: (.pointer (some ⟨bx, 0, none⟩)) :: (.pointer (some ⟨bx, 0, none⟩)) :: (.slice (some ⟨bl, 0, none⟩) n cl) :: x12 :: x13 :: (.pointer (some ⟨bx, 0, none⟩)) :: (.pointer (some ⟨bx, 0, none⟩)) :: (.pointer (some ⟨bx, 1, none⟩)) :: (.slice (some ⟨bk, 0, none⟩) n ck) :: x18 :: x19 :: (.pointer (some ⟨bx, 0, none⟩)) :: (.pointer (some ⟨bx, 0, none⟩)) :: (.pointer (some ⟨bx, 2, none⟩)) :: (.slice (some ⟨bw, 0, none⟩) n cw) :: x24 :: t25 :: t26 :: t27 :: []), ds⟩ W := by
    intro x7 x12 x13 x18 x19 x24 W b f7 f13 n1
    refine wpAnyH_ready (rs := [5, 12]) (by kernel_rfl) (by simp) ?_
    refine AllReadyH.cons (o := ⟨some 12, .call { callee := .builtin .append, args := #[.tmp 7, .tmp 11], argTypes := #[36, 36] }, 36, "ref.go:116", #[⟨0, .data⟩, ⟨4, .data⟩], none⟩) rfl (fun K hK => ?_) (AllReadyH.cons (o := ⟨some 19, .buildSlice 72 0 #[], 72, "ref.go:116", #[], none⟩) rfl (fun K hK => ?_) AllReadyH.nil)
    · have hsz := b.size
      obtain ⟨i0, hi0, hz0, hz1, hz2⟩ := info_parts i_byt
      refine step_append_lies _ (by rfl) _ _ _ (by rfl) w.heap.size 31 i0 _ 1 24 Try.underlying36 hi0 hz0 hz1 hz2 rfl (by omega) _ 0 [] (by rfl) f7.owns ⟨bl, 0, none⟩ n cl us (by rfl) (by rw [hu.1]; omega) (hu.2 W b) hu1 (by omega) (by unfold maxLen; omega) (by omega) hsz W.heap.size rfl ?_
      intro g cap W' ow gr hat hlt
      rw [Nat.zero_add, List.nil_append] at ow
      have hem := f7
      have b' : Below w.heap.size w W' := b.grown gr hsz (fun q hq => (hem.owns.lt q hq).1)
      have n2' : ∀ q, x13.ownBlock = some q → (Value.slice (some ⟨g, 0, none⟩) n cap).ownBlock ≠ some q := by
        intro q hq hx
        simp only [Value.ownBlock, Option.some.injEq] at hx
        subst hx
        exact emt_ne f13 hem n1 hat hq
      refine hK.out _ _ (hSx _ b') (fun _ => ?_)
      rw [Nat.zero_add n]
      exact h210 x7 (.slice (some ⟨g, 0, none⟩) n cap) x13 x18 x19 x24 W' b' ⟨g, cap, rfl, ow⟩ (f13.grown hem n1 gr) n2'
    · go_simp
      have bA := (Below.refl W.heap.size W).alloc (Nat.le_refl _) (.cells #[] 4)
      have hsz := b.size
      refine hK.out _ _ (hSx _ (b.trans (bA.mono hsz))) (fun _ => ?_)
      exact h111 x7 x12 x13 x18 (.slice (some ⟨W.heap.size, 0, none⟩) 0 0) x24 (W.alloc (.cells #[] 4)) (b.trans (bA.mono hsz)) (f7.later bA) (f13.later bA) n1 (EMT.made W _ _ hsz)
  have h101 : ∀ (x7 x12 x13 x18 x19 x24 : Value) (W : World), (Below w.heap.size w W) → (EMT W w.heap.size 31 x7) → (EMT W w.heap.size 4 x19) → wpAnyH Try.prog .any of2a (headPost Try.prog .any of2o (NoPanic Q) 18 6) (fun W => W.cell? ⟨bx, 0, none⟩ = some (.slice (some ⟨bl, 0, none⟩) n cl) ∧ W.cell? ⟨bx, 1, none⟩ = some (.slice (some ⟨bk, 0, none⟩) n ck) ∧ W.cell? ⟨bx, 2, none⟩ = some (.slice (some ⟨bw, 0, none⟩) n cw)) 4 #[true, true, true, true, true, false, false, true, true, true, true, false, true, true, true, true, true, false] ⟨List.toArray ((.pointer (some ⟨bx, 0, none⟩)) :: t1 :: t2 :: (.pointer (some ⟨gz, 0, none⟩)) :: t4 :: t5 :: t6 :: x7 :: (.pointer (some ⟨bx, 0, none⟩)) :: (.pointer (some ⟨bx, 0, none⟩)) :: (.pointer (some ⟨bx, 0, none⟩)) :: (.slice (some ⟨bl, 0, none⟩) n cl) :: x12 :: x13 :: (.pointer (some ⟨bx, 0, none⟩)) :: (.pointer (some ⟨bx, 0, none⟩)) :: (.pointer (some ⟨bx, 1, none⟩)) :: (.slice (some ⟨bk, 0, none⟩) n ck) :: x18 :: x19 :: (.pointer (some ⟨bx, 0, none⟩)) :: (.pointer (some ⟨bx, 0, none⟩)) :: (.pointer (some ⟨bx, 2, none⟩)) :: (.slice (some ⟨bw, 0, none⟩) n cw) :: x24 :: t25 :: t26 :: t27 :: []), ds⟩ W := by
    intro x7 x12 x13 x18 x19 x24 W b f7 f19
    refine wpAnyH_ready (rs := [5, 6]) (by kernel_rfl) (by simp) ?_
    refine AllReadyH.cons (o := ⟨some 12, .call { callee := .builtin .append, args := #[.tmp 7, .tmp 11], argTypes := #[36, 36] }, 36, "ref.go:116", #[⟨0, .data⟩, ⟨4, .data⟩], none⟩) rfl (fun K hK => ?_) (AllReadyH.cons (o := ⟨some 13, .buildSlice 36 0 #[], 36, "ref.go:116", #[], none⟩) rfl (fun K hK => ?_) AllReadyH.nil)
    · have hsz := b.size
      obtain ⟨i0, hi0, hz0, hz1, hz2⟩ := info_parts i_byt
      refine step_append_lies _ (by rfl) _ _ _ (by rfl) w.heap.size 31 i0 _ 1 24 Try.underlying36 hi0 hz0 hz1 hz2 rfl (by omega) _ 0 [] (by rfl) f7.owns ⟨bl, 0, none⟩ n cl us (by rfl) (by rw [hu.1]; omega) (hu.2 W b) hu1 (by omega) (by unfold maxLen; omega) (by omega) hsz W.heap.size rfl ?_
      intro g cap W' ow gr hat hlt
      rw [Nat.zero_add, List.nil_append] at ow
      have hem := f7
      have b' : Below w.heap.size w W' := b.grown gr hsz (fun q hq => (hem.owns.lt q hq).1)
      refine hK.out _ _ (hSx _ b') (fun _ => ?_)
      rw [Nat.zero_add n]
      exact h201 x7 (.slice (some ⟨g, 0, none⟩) n cap) x13 x18 x19 x24 W' b' ⟨g, cap, rfl, ow⟩ (f19.sty (Sty.of_grown hem.owns gr (by decide)))
    · go_simp
      have bA := (Below.refl W.heap.size W).alloc (Nat.le_refl _) (.cells #[] 31)
      have hsz := b.size
      refine hK.out _ _ (hSx _ (b.trans (bA.mono hsz))) (fun _ => ?_)
      exact h111 x7 x12 (.slice (some ⟨W.heap.size, 0, none⟩) 0 0) x18 x19 x24 (W.alloc (.cells #[] 31)) (b.trans (bA.mono hsz)) (f7.later bA) (EMT.made W _ _ hsz) (Ne.symm f7.fresh) (f19.later bA)
  have h100 : ∀ (x7 x12 x13 x18 x19 x24 : Value) (W : World), (Below w.heap.size w W) → (EMT W w.heap.size 31 x7) → wpAnyH Try.prog .any of2a (headPost Try.prog .any of2o (NoPanic Q) 18 6) (fun W => W.cell? ⟨bx, 0, none⟩ = some (.slice (some ⟨bl, 0, none⟩) n cl) ∧ W.cell? ⟨bx, 1, none⟩ = some (.slice (some ⟨bk, 0, none⟩) n ck) ∧ W.cell? ⟨bx, 2, none⟩ = some (.slice (some ⟨bw, 0, none⟩) n cw)) 5 #[true, true, true, true, true, false, false, true, true, true, true, false, false, true, true, true, true, false] ⟨List.toArray ((.pointer (some ⟨bx, 0, none⟩)) :: t1 :: t2 :: (.pointer (some ⟨gz, 0, none⟩)) :: t4 :: t5 :: t6 :: x7 :: (.pointer (some ⟨bx, 0, none⟩)) :: (.pointer (some ⟨bx, 0, none⟩)) :: (.pointer (some ⟨bx, 0, none⟩)) :: (.slice (some ⟨bl, 0, none⟩) n cl) :: x12 :: x13 :: (.pointer (some ⟨bx, 0, none⟩)) :: (.pointer (some ⟨bx, 0, none⟩)) :: (.pointer (some ⟨bx, 1, none⟩)) :: (.slice (some ⟨bk, 0, none⟩) n ck) :: x18 :: x19 :: (.pointer (some ⟨bx, 0, none⟩)) :: (.pointer (some ⟨bx, 0, none⟩)) :: (.pointer (some ⟨bx, 2, none⟩)) :: (.slice (some ⟨bw, 0, none⟩) n cw) :: x24 :: t25 :: t26 :: t27 :: []), ds⟩ W := by
    intro x7 x12 x13 x18 x19 x24 W b f7
    refine wpAnyH_ready (rs := [5, 6, 12]) (by kernel_rfl) (by simp) ?_
    refine AllReadyH.cons (o := ⟨some 12, .call { callee := .builtin .append, args := #[.tmp 7, .tmp 11], argTypes := #[36, 36] }, 36, "ref.go:116", #[⟨0, .data⟩, ⟨4, .data⟩], none⟩) rfl (fun K hK => ?_) (AllReadyH.cons (o := ⟨some 13, .buildSlice 36 0 #[], 36, "ref.go:116", #[], none⟩) rfl (fun K hK => ?_) (AllReadyH.cons (o := ⟨some 19, .buildSlice 72 0 #[], 72, "ref.go:116", #[], none⟩) rfl (fun K hK => ?_) AllReadyH.nil))
    · have hsz := b.size
      obtain ⟨i0, hi0, hz0, hz1, hz2⟩ := info_parts i_byt
      refine step_append_lies _ (by rfl) _ _ _ (by rfl) w.heap.size 31 i0 _ 1 24 Try.underlying36 hi0 hz0 hz1 hz2 rfl (by omega) _ 0 [] (by rfl) f7.owns ⟨bl, 0, none⟩ n cl us (by rfl) (by rw [hu.1]; omega) (hu.2 W b) hu1 (by omega) (by unfold maxLen; omega) (by omega) hsz W.heap.size rfl ?_
      intro g cap W' ow gr hat hlt
      rw [Nat.zero_add, List.nil_append] at ow
      have hem := f7
      have b' : Below w.heap.size w W' := b.grown gr hsz (fun q hq => (hem.owns.lt q hq).1)
      refine hK.out _ _ (hSx _ b') (fun _ => ?_)
      rw [Nat.zero_add n]
      exact h200 x7 (.slice (some ⟨g, 0, none⟩) n cap) x13 x18 x19 x24 W' b' ⟨g, cap, rfl, ow⟩
    · go_simp
      have bA := (Below.refl W.heap.size W).alloc (Nat.le_refl _) (.cells #[] 31)
      have hsz := b.size
      refine hK.out _ _ (hSx _ (b.trans (bA.mono hsz))) (fun _ => ?_)
      exact h110 x7 x12 (.slice (some ⟨W.heap.size, 0, none⟩) 0 0) x18 x19 x24 (W.alloc (.cells #[] 31)) (b.trans (bA.mono hsz)) (f7.later bA) (EMT.made W _ _ hsz) (Ne.symm f7.fresh)
    · go_simp
      have bA := (Below.refl W.heap.size W).alloc (Nat.le_refl _) (.cells #[] 4)
      have hsz := b.size
      refine hK.out _ _ (hSx _ (b.trans (bA.mono hsz))) (fun _ => ?_)
      exact h101 x7 x12 x13 x18 (.slice (some ⟨W.heap.size, 0, none⟩) 0 0) x24 (W.alloc (.cells #[] 4)) (b.trans (bA.mono hsz)) (f7.later bA) (EMT.made W _ _ hsz)
  have h011 : ∀ (x7 x12 x13 x18 x19 x24 : Value) (W : World), (Below w.heap.size w W) → (EMT W w.heap.size 31 x13) → (EMT W w.heap.size 4 x19) → wpAnyH Try.prog .any of2a (headPost Try.prog .any of2o (NoPanic Q) 18 6) (fun W => W.cell? ⟨bx, 0, none⟩ = some (.slice (some ⟨bl, 0, none⟩) n cl) ∧ W.cell? ⟨bx, 1, none⟩ = some (.slice (some ⟨bk, 0, none⟩) n ck) ∧ W.cell? ⟨bx, 2, none⟩ = some (.slice (some ⟨bw, 0, none⟩) n cw)) 4 #[false, true, true, true, true, false, true, true, true, true, true, false, true, true, true, true, true, false] ⟨List.toArray ((.pointer (some ⟨bx, 0, none⟩)) :: t1 :: t2 :: (.pointer (some ⟨gz, 0, none⟩)) :: t4 :: t5 :: t6 :: x7 :: (.pointer (some ⟨bx, 0, none⟩)) :: (.pointer (some ⟨bx, 0, none⟩)) :: (.pointer (some ⟨bx, 0, none⟩)) :: (.slice (some ⟨bl, 0, none⟩) n cl) :: x12 :: x13 :: (.pointer (some ⟨bx, 0, none⟩)) :: (.pointer (some ⟨bx, 0, none⟩)) :: (.pointer (some ⟨bx, 1, none⟩)) :: (.slice (some ⟨bk, 0, none⟩) n ck) :: x18 :: x19 :: (.pointer (some ⟨bx, 0, none⟩)) :: (.pointer (some ⟨bx, 0, none⟩)) :: (.pointer (some ⟨bx, 2, none⟩)) :: (.slice (some ⟨bw, 0, none⟩) n cw) :: x24 :: t25 :: t26 :: t27 :: []), ds⟩ W := by
    intro x7 x12 x13 x18 x19 x24 W b f13 f19
    refine wpAnyH_ready (rs := [0]) (by kernel_rfl) (by simp) ?_
    refine AllReadyH.cons (o := ⟨some 7, .buildSlice 36 0 #[], 36, "ref.go:116", #[], none⟩) rfl (fun K hK => ?_) AllReadyH.nil
    · go_simp
      have bA := (Below.refl W.heap.size W).alloc (Nat.le_refl _) (.cells #[] 31)
      have hsz := b.size
      refine hK.out _ _ (hSx _ (b.trans (bA.mono hsz))) (fun _ => ?_)
      exact h111 (.slice (some ⟨W.heap.size, 0, none⟩) 0 0) x12 x13 x18 x19 x24 (W.alloc (.cells #[] 31)) (b.trans (bA.mono hsz)) (EMT.made W _ _ hsz) (f13.later bA) f13.fresh (f19.later bA)
  have h010 : ∀ (x7 x12 x13 x18 x19 x24 : Value) (W : World), (Below w.heap.size w W) → (EMT W w.heap.size 31 x13) → wpAnyH Try.prog .any of2a (headPost Try.prog .any of2o (NoPanic Q) 18 6) (fun W => W.cell? ⟨bx, 0, none⟩ = some (.slice (some ⟨bl, 0, none⟩) n cl) ∧ W.cell? ⟨bx, 1, none⟩ = some (.slice (some ⟨bk, 0, none⟩) n ck) ∧ W.cell? ⟨bx, 2, none⟩ = some (.slice (some ⟨bw, 0, none⟩) n cw)) 5 #[false, true, true, true, true, false, true, true, true, true, true, false, false, true, true, true, true, false] ⟨List.toArray ((.pointer (some ⟨bx, 0, none⟩)) :: t1 :: t2 :: (.pointer (some ⟨gz, 0, none⟩)) :: t4 :: t5 :: t6 :: x7 :: (.pointer (some ⟨bx, 0, none⟩)) :: (.pointer (some ⟨bx, 0, none⟩)) :: (.pointer (some ⟨bx, 0, none⟩)) :: (.slice (some ⟨bl, 0, none⟩) n cl) :: x12 :: x13 :: (.pointer (some ⟨bx, 0, none⟩)) :: (.pointer (some ⟨bx, 0, none⟩)) :: (.pointer (some ⟨bx, 1, none⟩)) :: (.slice (some ⟨bk, 0, none⟩) n ck) :: x18 :: x19 :: (.pointer (some ⟨bx, 0, none⟩)) :: (.pointer (some ⟨bx, 0, none⟩)) :: (.pointer (some ⟨bx, 2, none⟩)) :: (.slice (some ⟨bw, 0, none⟩) n cw) :: x24 :: t25 :: t26 :: t27 :: []), ds⟩ W := by
    intro x7 x12 x13 x18 x19 x24 W b f13
    refine wpAnyH_ready (rs := [0, 12]) (by kernel_rfl) (by simp) ?_
    refine AllReadyH.cons (o := ⟨some 7, .buildSlice 36 0 #[], 36, "ref.go:116", #[], none⟩) rfl (fun K hK => ?_) (AllReadyH.cons (o := ⟨some 19, .buildSlice 72 0 #[], 72, "ref.go:116", #[], none⟩) rfl (fun K hK => ?_) AllReadyH.nil)
    · go_simp
      have bA := (Below.refl W.heap.size W).alloc (Nat.le_refl _) (.cells #[] 31)
      have hsz := b.size
      refine hK.out _ _ (hSx _ (b.trans (bA.mono hsz))) (fun _ => ?_)
      exact h110 (.slice (some ⟨W.heap.size, 0, none⟩) 0 0) x12 x13 x18 x19 x24 (W.alloc (.cells #[] 31)) (b.trans (bA.mono hsz)) (EMT.made W _ _ hsz) (f13.later bA) f13.fresh
    · go_simp
      have bA := (Below.refl W.heap.size W).alloc (Nat.le_refl _) (.cells #[] 4)
      have hsz := b.size
      refine hK.out _ _ (hSx _ (b.trans (bA.mono hsz))) (fun _ => ?_)
      exact h011 x7 x12 x13 x18 (.slice (some ⟨W.heap.size, 0, none⟩) 0 0) x24 (W.alloc (.cells #[] 4)) (b.trans (bA.mono hsz)) (f13.later bA) (EMT.made W _ _ hsz)
  have h001 : ∀ (x7 x12 x13 x18 x19 x24 : Value) (W : World), (Below w.heap.size w W) → (EMT W w.heap.size 4 x19) → wpAnyH Try.prog .any of2a (headPost Try.prog .any of2o (NoPanic Q) 18 6) (fun W => W.cell? ⟨bx, 0, none⟩ = some (.slice (some ⟨bl, 0, none⟩) n cl) ∧ W.cell? ⟨bx, 1, none⟩ = some (.slice (some ⟨bk, 0, none⟩) n ck) ∧ W.cell? ⟨bx, 2, none⟩ = some (.slice (some ⟨bw, 0, none⟩) n cw)) 5 #[false, true, true, true, true, false, false, true, true, true, true, false, true, true, true, true, true, false] ⟨List.toArray ((.pointer (some ⟨bx, 0, none⟩)) :: t1 :: t2 :: (.pointer (some ⟨gz, 0, none⟩)) :: t4 :: t5 :: t6 :: x7 :: (.pointer (some ⟨bx, 0, none⟩)) :: (.pointer (some ⟨bx, 0, none⟩)) :: (.pointer (some ⟨bx, 0, none⟩)) :: (.slice (some ⟨bl, 0, none⟩) n cl) :: x12 :: x13 :: (.pointer (some ⟨bx, 0, none⟩)) :: (.pointer (some ⟨bx, 0, none⟩)) :: (.pointer (some ⟨bx, 1, none⟩)) :: (.slice (some ⟨bk, 0, none⟩) n ck) :: x18 :: x19 :: (.pointer (some ⟨bx, 0, none⟩)) :: (.pointer (some ⟨bx, 0, none⟩)) :: (.pointer (some ⟨bx, 2, none⟩)) :: (.slice (some ⟨bw, 0, none⟩) n cw) :: x24 :: t25 :: t26 :: t27 :: []), ds⟩ W := by
    intro x7 x12 x13 x18 x19 x24 W b f19
    refine wpAnyH_ready (rs := [0, 6]) (by kernel_rfl) (by simp) ?_
    refine AllReadyH.cons (o := ⟨some 7, .buildSlice 36 0 #[], 36, "ref.go:116", #[], none⟩) rfl (fun K hK => ?_) (AllReadyH.cons (o := ⟨some 13, .buildSlice 36 0 #[], 36, "ref.go:116", #[], none⟩) rfl (fun K hK => ?_) AllReadyH.nil)
    · go_simp
      have bA := (Below.refl W.heap.size W).alloc (Nat.le_refl _) (.cells #[] 31)
      have hsz := b.size
      refine hK.out _ _ (hSx _ (b.trans (bA.mono hsz))) (fun _ => ?_)
      exact h101 (.slice (some ⟨W.heap.size, 0, none⟩) 0 0) x12 x13 x18 x19 x24 (W.alloc (.cells #[] 31)) (b.trans (bA.mono hsz)) (EMT.made W _ _ hsz) (f19.later bA)
    · go_simp
      have bA := (Below.refl W.heap.size W).alloc (Nat.le_refl _) (.cells #[] 31)
      have hsz := b.size
      refine hK.out _ _ (hSx _ (b.trans (bA.mono hsz))) (fun _ => ?_)
      exact h011 x7 x12 (.slice (some ⟨W.heap.size, 0, none⟩) 0 0) x18 x19 x24 (W.alloc (.cells #[] 31)) (b.trans (bA.mono hsz)) (EMT.made W _ _ hsz) (f19.later bA)
  have h000 : ∀ (x7 x12 x13 x18 x19 x24 : Value) (W : World), (Below w.heap.size w W) → wpAnyH Try.prog .any of2a (headPost Try.prog .any of2o (NoPanic Q) 18 6) (fun W => W.cell? ⟨bx, 0, none⟩ = some (.slice (some ⟨bl, 0, none⟩) n cl) ∧ W.cell? ⟨bx, 1, none⟩ = some (.slice (some ⟨bk, 0, none⟩) n ck) ∧ W.cell? ⟨bx, 2, none⟩ = some (.slice (some ⟨bw, 0, none⟩) n cw)) 6 #[false, true, true, true, true, false, false, true, true, true, true, false, false, true, true, true, true, false] ⟨List.toArray ((.pointer (some ⟨bx, 0, none⟩)) :: t1 :: t2 :: (.pointer (some ⟨gz, 0, none⟩)) :: t4 :: t5 :: t6 :: x7 :: (.pointer (some ⟨bx, 0, none⟩)) :: (.pointer (some ⟨bx, 0, none⟩)) :: (.pointer (some ⟨bx, 0, none⟩)) :: (.slice (some ⟨bl, 0, none⟩) n cl) :: x12 :: x13 :: (.pointer (some ⟨bx, 0, none⟩)) :: (.pointer (some ⟨bx, 0, none⟩)) :: (.pointer (some ⟨bx, 1, none⟩)) :: (.slice (some ⟨bk, 0, none⟩) n ck) :: x18 :: x19 :: (.pointer (some ⟨bx, 0, none⟩)) :: (.pointer (some ⟨bx, 0, none⟩)) :: (.pointer (some ⟨bx, 2, none⟩)) :: (.slice (some ⟨bw, 0, none⟩) n cw) :: x24 :: t25 :: t26 :: t27 :: []), ds⟩ W := by
    intro x7 x12 x13 x18 x19 x24 W b
    refine wpAnyH_ready (rs := [0, 6, 12]) (by kernel_rfl) (by simp) ?_
    refine AllReadyH.cons (o := ⟨some 7, .buildSlice 36 0 #[], 36, "ref.go:116", #[], none⟩) rfl (fun K hK => ?_) (AllReadyH.cons (o := ⟨some 13, .buildSlice 36 0 #[], 36, "ref.go:116", #[], none⟩) rfl (fun K hK => ?_) (AllReadyH.cons (o := ⟨some 19, .buildSlice 72 0 #[], 72, "ref.go:116", #[], none⟩) rfl (fun K hK => ?_) AllReadyH.nil))
    · go_simp
      have bA := (Below.refl W.heap.size W).alloc (Nat.le_refl _) (.cells #[] 31)
      have hsz := b.size
      refine hK.out _ _ (hSx _ (b.trans (bA.mono hsz))) (fun _ => ?_)
      exact h100 (.slice (some ⟨W.heap.size, 0, none⟩) 0 0) x12 x13 x18 x19 x24 (W.alloc (.cells #[] 31)) (b.trans (bA.mono hsz)) (EMT.made W _ _ hsz)
    · go_simp
      have bA := (Below.refl W.heap.size W).alloc (Nat.le_refl _) (.cells #[] 31)
      have hsz := b.size
      refine hK.out _ _ (hSx _ (b.trans (bA.mono hsz))) (fun _ => ?_)
      exact h010 x7 x12 (.slice (some ⟨W.heap.size, 0, none⟩) 0 0) x18 x19 x24 (W.alloc (.cells #[] 31)) (b.trans (bA.mono hsz)) (EMT.made W _ _ hsz)
    · go_simp
      have bA := (Below.refl W.heap.size W).alloc (Nat.le_refl _) (.cells #[] 4)
      have hsz := b.size
      refine hK.out _ _ (hSx _ (b.trans (bA.mono hsz))) (fun _ => ?_)
      exact h001 x7 x12 x13 x18 (.slice (some ⟨W.heap.size, 0, none⟩) 0 0) x24 (W.alloc (.cells #[] 4)) (b.trans (bA.mono hsz)) (EMT.made W _ _ hsz)
  refine wp_region_noPanic ?_
  refine wp_region_split (by kernel_rfl) (fun W => W.cell? ⟨bx, 0, none⟩ = some (.slice (some ⟨bl, 0, none⟩) n cl) ∧ W.cell? ⟨bx, 1, none⟩ = some (.slice (some ⟨bk, 0, none⟩) n ck) ∧ W.cell? ⟨bx, 2, none⟩ = some (.slice (some ⟨bw, 0, none⟩) n cw)) 18 6 of2a (by kernel_rfl) (by kernel_rfl) ?_
  refine tkY 1 ⟨some 8, .move (.tmp 0), 27, "ref.go:116", #[], none⟩ ?v1 hHeld ?y1 ?r1
  case y1 => (intro w hSw; (try dsimp only at hSw); go_simp) <;> with_reducible rfl
  simp only [Act.put, List.setIfInBounds_toArray, List.set_cons_zero, List.set_cons_succ]
  refine tkY 2 ⟨some 9, .nilCheck (.tmp 8), 0, "ref.go:116", #[⟨1, .data⟩], none⟩ ?v2 hHeld ?y2 ?r2
  case y2 => (intro w hSw; (try dsimp only at hSw); go_simp) <;> with_reducible rfl
  simp only [Act.put, List.setIfInBounds_toArray, List.set_cons_zero, List.set_cons_succ]
  refine tkY 3 ⟨some 10, .fieldAddr 74 (.tmp 9) 0, 0, "ref.go:116", #[⟨2, .data⟩], none⟩ ?v3 hHeld ?y3 ?r3
  case y3 => (intro w hSw; (try dsimp only at hSw); go_simp) <;> with_reducible rfl
  simp only [Act.put, List.setIfInBounds_toArray, List.set_cons_zero, List.set_cons_succ]
  refine tkY 4 ⟨some 11, .load 36 (.tmp 10), 36, "ref.go:116", #[⟨3, .data⟩], none⟩ ?v4 hHeld ?y4 ?r4
  case y4 => (intro w hSw; (try dsimp only at hSw); go_simp) <;> with_reducible rfl
  simp only [Act.put, List.setIfInBounds_toArray, List.set_cons_zero, List.set_cons_succ]
  refine tkY 7 ⟨some 14, .move (.tmp 0), 27, "ref.go:116", #[], none⟩ ?v7 hHeld ?y7 ?r7
  case y7 => (intro w hSw; (try dsimp only at hSw); go_simp) <;> with_reducible rfl
  simp only [Act.put, List.setIfInBounds_toArray, List.set_cons_zero, List.set_cons_succ]
  refine tkY 8 ⟨some 15, .nilCheck (.tmp 14), 0, "ref.go:116", #[⟨7, .data⟩], none⟩ ?v8 hHeld ?y8 ?r8
  case y8 => (intro w hSw; (try dsimp only at hSw); go_simp) <;> with_reducible rfl
  simp only [Act.put, List.setIfInBounds_toArray, List.set_cons_zero, List.set_cons_succ]
  refine tkY 9 ⟨some 16, .fieldAddr 74 (.tmp 15) 1, 0, "ref.go:116", #[⟨8, .data⟩], none⟩ ?v9 hHeld ?y9 ?r9
  case y9 => (intro w hSw; (try dsimp only at hSw); go_simp) <;> with_reducible rfl
  simp only [Act.put, List.setIfInBounds_toArray, List.set_cons_zero, List.set_cons_succ]
  refine tkY 10 ⟨some 17, .load 36 (.tmp 16), 36, "ref.go:116", #[⟨9, .data⟩], none⟩ ?v10 hHeld ?y10 ?r10
  case y10 => (intro w hSw; (try dsimp only at hSw); go_simp) <;> with_reducible rfl
  simp only [Act.put, List.setIfInBounds_toArray, List.set_cons_zero, List.set_cons_succ]
  refine tkY 13 ⟨some 20, .move (.tmp 0), 27, "ref.go:116", #[], none⟩ ?v13 hHeld ?y13 ?r13
  case y13 => (intro w hSw; (try dsimp only at hSw); go_simp) <;> with_reducible rfl
  simp only [Act.put, List.setIfInBounds_toArray, List.set_cons_zero, List.set_cons_succ]
  refine tkY 14 ⟨some 21, .nilCheck (.tmp 20), 0, "ref.go:116", #[⟨13, .data⟩], none⟩ ?v14 hHeld ?y14 ?r14
  case y14 => (intro w hSw; (try dsimp only at hSw); go_simp) <;> with_reducible rfl
  simp only [Act.put, List.setIfInBounds_toArray, List.set_cons_zero, List.set_cons_succ]
  refine tkY 15 ⟨some 22, .fieldAddr 74 (.tmp 21) 2, 0, "ref.go:116", #[⟨14, .data⟩], none⟩ ?v15 hHeld ?y15 ?r15
  case y15 => (intro w hSw; (try dsimp only at hSw); go_simp) <;> with_reducible rfl
  simp only [Act.put, List.setIfInBounds_toArray, List.set_cons_zero, List.set_cons_succ]
  refine tkY 16 ⟨some 23, .load 72 (.tmp 22), 72, "ref.go:116", #[⟨15, .data⟩], none⟩ ?v16 hHeld ?y16 ?r16
  case y16 => (intro w hSw; (try dsimp only at hSw); go_simp) <;> with_reducible rfl
  simp only [Act.put, List.setIfInBounds_toArray, List.set_cons_zero, List.set_cons_succ]
  exact h000 t7 t12 t13 t18 t19 t24 w.drew bD

end Go.Proofs.Ytmikhebbcmniaaa
