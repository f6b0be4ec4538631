/- What this text proves: a law for the walk of annalsref07.Of: the region that lays a sector into its three rows, in whichever order it comes up. (By program: mkrdof.py.) -/
import Derived.Test.YtmikhebbcmniaaaXDOfV
import Derived.Test.YtmikhebbcmniaaaRegSplitD
import Derived.Test.YtmikhebbcmniaaaRegHeld
namespace Go.Proofs.Ytmikhebbcmniaaa
open Go.RowKit

def of9o : Array Oper := #[⟨some 26, .move (.tmp 4), 27, "ref.go:37", #[], none⟩,
  ⟨some 27, .move (.tmp 4), 27, "ref.go:37", #[⟨29, .gcOnly .lateStores⟩], none⟩,
  ⟨some 28, .move (.tmp 4), 27, "ref.go:37", #[⟨32, .gcOnly .lateStores⟩], none⟩,
  ⟨some 29, .move (.tmp 4), 27, "ref.go:37", #[], none⟩,
  ⟨some 30, .nilCheck (.tmp 29), 0, "ref.go:37", #[⟨3, .data⟩], none⟩,
  ⟨some 31, .fieldAddr 74 (.tmp 30) 0, 0, "ref.go:37", #[⟨4, .data⟩], none⟩,
  ⟨some 32, .load 36 (.tmp 31), 36, "ref.go:37", #[⟨5, .data⟩], none⟩,
  ⟨some 33, .buildSlice 31 0 #[], 31, "ref.go:37", #[], none⟩,
  ⟨some 34, .move (.tmp 6), 31, "ref.go:37", #[], none⟩,
  ⟨some 35, .call { callee := .builtin .append, args := #[.tmp 33, .tmp 34], argTypes := #[31, 31] }, 31, "ref.go:37", #[⟨7, .data⟩, ⟨8, .data⟩], none⟩,
  ⟨some 36, .buildSlice 36 1 #[(0, .tmp 35)], 36, "ref.go:37", #[⟨9, .data⟩], none⟩,
  ⟨some 37, .call { callee := .builtin .append, args := #[.tmp 32, .tmp 36], argTypes := #[36, 36] }, 36, "ref.go:37", #[⟨6, .data⟩, ⟨10, .data⟩, ⟨9, .chain⟩], none⟩,
  ⟨some 38, .move (.tmp 4), 27, "ref.go:37", #[], none⟩,
  ⟨some 39, .nilCheck (.tmp 38), 0, "ref.go:37", #[⟨12, .data⟩], none⟩,
  ⟨some 40, .fieldAddr 74 (.tmp 39) 1, 0, "ref.go:37", #[⟨13, .data⟩], none⟩,
  ⟨some 41, .load 36 (.tmp 40), 36, "ref.go:37", #[⟨14, .data⟩], none⟩,
  ⟨some 42, .buildSlice 31 0 #[], 31, "ref.go:37", #[], none⟩,
  ⟨some 43, .move (.tmp 6), 31, "ref.go:37", #[], none⟩,
  ⟨some 44, .call { callee := .builtin .append, args := #[.tmp 42, .tmp 43], argTypes := #[31, 31] }, 31, "ref.go:37", #[⟨16, .data⟩, ⟨17, .data⟩, ⟨11, .chain⟩], none⟩,
  ⟨some 45, .buildSlice 36 1 #[(0, .tmp 44)], 36, "ref.go:37", #[⟨18, .data⟩], none⟩,
  ⟨some 46, .call { callee := .builtin .append, args := #[.tmp 41, .tmp 45], argTypes := #[36, 36] }, 36, "ref.go:37", #[⟨15, .data⟩, ⟨19, .data⟩, ⟨18, .chain⟩], none⟩,
  ⟨some 47, .move (.tmp 4), 27, "ref.go:37", #[], none⟩,
  ⟨some 48, .nilCheck (.tmp 47), 0, "ref.go:37", #[⟨21, .data⟩], none⟩,
  ⟨some 49, .fieldAddr 74 (.tmp 48) 2, 0, "ref.go:37", #[⟨22, .data⟩], none⟩,
  ⟨some 50, .load 72 (.tmp 49), 72, "ref.go:37", #[⟨23, .data⟩], none⟩,
  ⟨some 51, .buildSlice 72 1 #[(0, .const (.bool false))], 72, "ref.go:37", #[], none⟩,
  ⟨some 52, .call { callee := .builtin .append, args := #[.tmp 50, .tmp 51], argTypes := #[72, 72] }, 72, "ref.go:37", #[⟨24, .data⟩, ⟨25, .data⟩, ⟨20, .chain⟩], none⟩,
  ⟨some 53, .nilCheck (.tmp 26), 0, "ref.go:37", #[⟨0, .data⟩, ⟨0, .phase⟩, ⟨1, .textOnly .lateStores⟩, ⟨2, .textOnly .lateStores⟩, ⟨3, .phase⟩, ⟨4, .phase⟩, ⟨5, .phase⟩, ⟨6, .phase⟩, ⟨7, .phase⟩, ⟨8, .phase⟩, ⟨9, .phase⟩, ⟨10, .phase⟩, ⟨11, .phase⟩, ⟨12, .textOnly .lateStores⟩, ⟨13, .textOnly .lateStoresUnsure⟩, ⟨14, .textOnly .lateStoresUnsure⟩, ⟨15, .phase⟩, ⟨16, .textOnly .lateStoresUnsure⟩, ⟨17, .textOnly .lateStores⟩, ⟨18, .phase⟩, ⟨19, .textOnly .lateStoresUnsure⟩, ⟨20, .phase⟩, ⟨21, .textOnly .lateStores⟩, ⟨22, .textOnly .lateStoresUnsure⟩, ⟨23, .textOnly .lateStoresUnsure⟩, ⟨24, .phase⟩, ⟨25, .textOnly .lateStoresUnsure⟩, ⟨26, .phase⟩], none⟩,
  ⟨some 54, .fieldAddr 74 (.tmp 53) 0, 0, "ref.go:37", #[⟨27, .data⟩, ⟨0, .phase⟩, ⟨1, .textOnly .lateStores⟩, ⟨2, .textOnly .lateStores⟩, ⟨3, .phase⟩, ⟨4, .phase⟩, ⟨5, .phase⟩, ⟨6, .phase⟩, ⟨7, .phase⟩, ⟨8, .phase⟩, ⟨9, .phase⟩, ⟨10, .phase⟩, ⟨11, .phase⟩, ⟨12, .textOnly .lateStores⟩, ⟨13, .textOnly .lateStoresUnsure⟩, ⟨14, .textOnly .lateStoresUnsure⟩, ⟨15, .phase⟩, ⟨16, .textOnly .lateStoresUnsure⟩, ⟨17, .textOnly .lateStores⟩, ⟨18, .phase⟩, ⟨19, .textOnly .lateStoresUnsure⟩, ⟨20, .phase⟩, ⟨21, .textOnly .lateStores⟩, ⟨22, .textOnly .lateStoresUnsure⟩, ⟨23, .textOnly .lateStoresUnsure⟩, ⟨24, .phase⟩, ⟨25, .textOnly .lateStoresUnsure⟩, ⟨26, .phase⟩], none⟩,
  ⟨none, .store 36 (.tmp 54) (.tmp 37), 0, "ref.go:37", #[⟨28, .data⟩, ⟨11, .data⟩, ⟨26, .chain⟩, ⟨0, .phase⟩, ⟨1, .textOnly .lateStores⟩, ⟨2, .textOnly .lateStores⟩, ⟨3, .phase⟩, ⟨4, .phase⟩, ⟨5, .phase⟩, ⟨6, .phase⟩, ⟨7, .phase⟩, ⟨8, .phase⟩, ⟨9, .phase⟩, ⟨10, .phase⟩, ⟨11, .phase⟩, ⟨12, .textOnly .lateStores⟩, ⟨13, .textOnly .lateStoresUnsure⟩, ⟨14, .textOnly .lateStoresUnsure⟩, ⟨15, .phase⟩, ⟨16, .textOnly .lateStoresUnsure⟩, ⟨17, .textOnly .lateStores⟩, ⟨18, .phase⟩, ⟨19, .textOnly .lateStoresUnsure⟩, ⟨20, .phase⟩, ⟨21, .textOnly .lateStores⟩, ⟨22, .textOnly .lateStoresUnsure⟩, ⟨23, .textOnly .lateStoresUnsure⟩, ⟨24, .phase⟩, ⟨25, .textOnly .lateStoresUnsure⟩, ⟨26, .phase⟩], none⟩,
  ⟨some 55, .nilCheck (.tmp 27), 0, "ref.go:37", #[⟨1, .data⟩, ⟨0, .phase⟩, ⟨1, .phase⟩, ⟨2, .textOnly .lateStores⟩, ⟨3, .phase⟩, ⟨4, .phase⟩, ⟨5, .phase⟩, ⟨6, .phase⟩, ⟨7, .phase⟩, ⟨8, .phase⟩, ⟨9, .phase⟩, ⟨10, .phase⟩, ⟨11, .phase⟩, ⟨12, .phase⟩, ⟨13, .phase⟩, ⟨14, .phase⟩, ⟨15, .phase⟩, ⟨16, .phase⟩, ⟨17, .phase⟩, ⟨18, .phase⟩, ⟨19, .phase⟩, ⟨20, .phase⟩, ⟨21, .textOnly .lateStores⟩, ⟨22, .textOnly .lateStoresUnsure⟩, ⟨23, .textOnly .lateStoresUnsure⟩, ⟨24, .phase⟩, ⟨25, .textOnly .lateStoresUnsure⟩, ⟨26, .phase⟩, ⟨27, .phase⟩, ⟨28, .phase⟩, ⟨29, .phase⟩], none⟩,
  ⟨some 56, .fieldAddr 74 (.tmp 55) 1, 0, "ref.go:37", #[⟨30, .data⟩, ⟨0, .phase⟩, ⟨1, .phase⟩, ⟨2, .textOnly .lateStores⟩, ⟨3, .phase⟩, ⟨4, .phase⟩, ⟨5, .phase⟩, ⟨6, .phase⟩, ⟨7, .phase⟩, ⟨8, .phase⟩, ⟨9, .phase⟩, ⟨10, .phase⟩, ⟨11, .phase⟩, ⟨12, .phase⟩, ⟨13, .phase⟩, ⟨14, .phase⟩, ⟨15, .phase⟩, ⟨16, .phase⟩, ⟨17, .phase⟩, ⟨18, .phase⟩, ⟨19, .phase⟩, ⟨20, .phase⟩, ⟨21, .textOnly .lateStores⟩, ⟨22, .textOnly .lateStoresUnsure⟩, ⟨23, .textOnly .lateStoresUnsure⟩, ⟨24, .phase⟩, ⟨25, .textOnly .lateStoresUnsure⟩, ⟨26, .phase⟩, ⟨27, .phase⟩, ⟨28, .phase⟩, ⟨29, .phase⟩], none⟩,
  ⟨none, .store 36 (.tmp 56) (.tmp 46), 0, "ref.go:37", #[⟨31, .data⟩, ⟨20, .data⟩, ⟨29, .chain⟩, ⟨0, .phase⟩, ⟨1, .phase⟩, ⟨2, .textOnly .lateStores⟩, ⟨3, .phase⟩, ⟨4, .phase⟩, ⟨5, .phase⟩, ⟨6, .phase⟩, ⟨7, .phase⟩, ⟨8, .phase⟩, ⟨9, .phase⟩, ⟨10, .phase⟩, ⟨11, .phase⟩, ⟨12, .phase⟩, ⟨13, .phase⟩, ⟨14, .phase⟩, ⟨15, .phase⟩, ⟨16, .phase⟩, ⟨17, .phase⟩, ⟨18, .phase⟩, ⟨19, .phase⟩, ⟨20, .phase⟩, ⟨21, .textOnly .lateStores⟩, ⟨22, .textOnly .lateStoresUnsure⟩, ⟨23, .textOnly .lateStoresUnsure⟩, ⟨24, .phase⟩, ⟨25, .textOnly .lateStoresUnsure⟩, ⟨26, .phase⟩, ⟨27, .phase⟩, ⟨28, .phase⟩, ⟨29, .phase⟩], none⟩,
  ⟨some 57, .nilCheck (.tmp 28), 0, "ref.go:37", #[⟨2, .data⟩, ⟨0, .phase⟩, ⟨1, .phase⟩, ⟨2, .phase⟩, ⟨3, .phase⟩, ⟨4, .phase⟩, ⟨5, .phase⟩, ⟨6, .phase⟩, ⟨7, .phase⟩, ⟨8, .phase⟩, ⟨9, .phase⟩, ⟨10, .phase⟩, ⟨11, .phase⟩, ⟨12, .phase⟩, ⟨13, .phase⟩, ⟨14, .phase⟩, ⟨15, .phase⟩, ⟨16, .phase⟩, ⟨17, .phase⟩, ⟨18, .phase⟩, ⟨19, .phase⟩, ⟨20, .phase⟩, ⟨21, .phase⟩, ⟨22, .phase⟩, ⟨23, .phase⟩, ⟨24, .phase⟩, ⟨25, .phase⟩, ⟨26, .phase⟩, ⟨27, .phase⟩, ⟨28, .phase⟩, ⟨29, .phase⟩, ⟨30, .phase⟩, ⟨31, .phase⟩, ⟨32, .phase⟩], none⟩,
  ⟨some 58, .fieldAddr 74 (.tmp 57) 2, 0, "ref.go:37", #[⟨33, .data⟩, ⟨0, .phase⟩, ⟨1, .phase⟩, ⟨2, .phase⟩, ⟨3, .phase⟩, ⟨4, .phase⟩, ⟨5, .phase⟩, ⟨6, .phase⟩, ⟨7, .phase⟩, ⟨8, .phase⟩, ⟨9, .phase⟩, ⟨10, .phase⟩, ⟨11, .phase⟩, ⟨12, .phase⟩, ⟨13, .phase⟩, ⟨14, .phase⟩, ⟨15, .phase⟩, ⟨16, .phase⟩, ⟨17, .phase⟩, ⟨18, .phase⟩, ⟨19, .phase⟩, ⟨20, .phase⟩, ⟨21, .phase⟩, ⟨22, .phase⟩, ⟨23, .phase⟩, ⟨24, .phase⟩, ⟨25, .phase⟩, ⟨26, .phase⟩, ⟨27, .phase⟩, ⟨28, .phase⟩, ⟨29, .phase⟩, ⟨30, .phase⟩, ⟨31, .phase⟩, ⟨32, .phase⟩], none⟩,
  ⟨none, .store 72 (.tmp 58) (.tmp 52), 0, "ref.go:37", #[⟨34, .data⟩, ⟨26, .data⟩, ⟨32, .chain⟩, ⟨0, .phase⟩, ⟨1, .phase⟩, ⟨2, .phase⟩, ⟨3, .phase⟩, ⟨4, .phase⟩, ⟨5, .phase⟩, ⟨6, .phase⟩, ⟨7, .phase⟩, ⟨8, .phase⟩, ⟨9, .phase⟩, ⟨10, .phase⟩, ⟨11, .phase⟩, ⟨12, .phase⟩, ⟨13, .phase⟩, ⟨14, .phase⟩, ⟨15, .phase⟩, ⟨16, .phase⟩, ⟨17, .phase⟩, ⟨18, .phase⟩, ⟨19, .phase⟩, ⟨20, .phase⟩, ⟨21, .phase⟩, ⟨22, .phase⟩, ⟨23, .phase⟩, ⟨24, .phase⟩, ⟨25, .phase⟩, ⟨26, .phase⟩, ⟨27, .phase⟩, ⟨28, .phase⟩, ⟨29, .phase⟩, ⟨30, .phase⟩, ⟨31, .phase⟩, ⟨32, .phase⟩], none⟩]

def of9a : Array Oper := #[⟨some 26, .move (.tmp 4), 27, "ref.go:37", #[], none⟩,
  ⟨some 27, .move (.tmp 4), 27, "ref.go:37", #[⟨29, .gcOnly .lateStores⟩], none⟩,
  ⟨some 28, .move (.tmp 4), 27, "ref.go:37", #[⟨32, .gcOnly .lateStores⟩], none⟩,
  ⟨some 29, .move (.tmp 4), 27, "ref.go:37", #[], none⟩,
  ⟨some 30, .nilCheck (.tmp 29), 0, "ref.go:37", #[⟨3, .data⟩], none⟩,
  ⟨some 31, .fieldAddr 74 (.tmp 30) 0, 0, "ref.go:37", #[⟨4, .data⟩], none⟩,
  ⟨some 32, .load 36 (.tmp 31), 36, "ref.go:37", #[⟨5, .data⟩], none⟩,
  ⟨some 33, .buildSlice 31 0 #[], 31, "ref.go:37", #[], none⟩,
  ⟨some 34, .move (.tmp 6), 31, "ref.go:37", #[], none⟩,
  ⟨some 35, .call { callee := .builtin .append, args := #[.tmp 33, .tmp 34], argTypes := #[31, 31] }, 31, "ref.go:37", #[⟨7, .data⟩, ⟨8, .data⟩], none⟩,
  ⟨some 36, .buildSlice 36 1 #[(0, .tmp 35)], 36, "ref.go:37", #[⟨9, .data⟩], none⟩,
  ⟨some 37, .call { callee := .builtin .append, args := #[.tmp 32, .tmp 36], argTypes := #[36, 36] }, 36, "ref.go:37", #[⟨6, .data⟩, ⟨10, .data⟩, ⟨9, .chain⟩], none⟩,
  ⟨some 38, .move (.tmp 4), 27, "ref.go:37", #[], none⟩,
  ⟨some 39, .nilCheck (.tmp 38), 0, "ref.go:37", #[⟨12, .data⟩], none⟩,
  ⟨some 40, .fieldAddr 74 (.tmp 39) 1, 0, "ref.go:37", #[⟨13, .data⟩], none⟩,
  ⟨some 41, .load 36 (.tmp 40), 36, "ref.go:37", #[⟨14, .data⟩], none⟩,
  ⟨some 42, .buildSlice 31 0 #[], 31, "ref.go:37", #[], none⟩,
  ⟨some 43, .move (.tmp 6), 31, "ref.go:37", #[], none⟩,
  ⟨some 44, .call { callee := .builtin .append, args := #[.tmp 42, .tmp 43], argTypes := #[31, 31] }, 31, "ref.go:37", #[⟨16, .data⟩, ⟨17, .data⟩, ⟨11, .chain⟩], none⟩,
  ⟨some 45, .buildSlice 36 1 #[(0, .tmp 44)], 36, "ref.go:37", #[⟨18, .data⟩], none⟩,
  ⟨some 46, .call { callee := .builtin .append, args := #[.tmp 41, .tmp 45], argTypes := #[36, 36] }, 36, "ref.go:37", #[⟨15, .data⟩, ⟨19, .data⟩, ⟨18, .chain⟩], none⟩,
  ⟨some 47, .move (.tmp 4), 27, "ref.go:37", #[], none⟩,
  ⟨some 48, .nilCheck (.tmp 47), 0, "ref.go:37", #[⟨21, .data⟩], none⟩,
  ⟨some 49, .fieldAddr 74 (.tmp 48) 2, 0, "ref.go:37", #[⟨22, .data⟩], none⟩,
  ⟨some 50, .load 72 (.tmp 49), 72, "ref.go:37", #[⟨23, .data⟩], none⟩,
  ⟨some 51, .buildSlice 72 1 #[(0, .const (.bool false))], 72, "ref.go:37", #[], none⟩,
  ⟨some 52, .call { callee := .builtin .append, args := #[.tmp 50, .tmp 51], argTypes := #[72, 72] }, 72, "ref.go:37", #[⟨24, .data⟩, ⟨25, .data⟩, ⟨20, .chain⟩], none⟩]

theorem i_byt : (Try.prog.info? 31).map (fun i => (i.zero, i.size, i.bytes)) = some (some (.slice none 0 0), 1, 24) := by kernel_rfl
theorem i_boo : (Try.prog.info? 4).map (fun i => (i.zero, i.size, i.bytes)) = some (some (.bool false), 1, 1) := by kernel_rfl

theorem HB.old {w W : World} {base : Nat} {v : Value} {l : List UInt8} (h : HB w v l) (hp : ∀ a n c, v = .slice (some a) n c → a.block < base) (b : Below base w W) : HB W v l := by
  obtain ⟨p, cap, e, h1, h2, h3, h4⟩ := h
  refine ⟨p, cap, e, h1, h2, h3, fun hne => ?_⟩
  obtain ⟨b1, o, e1, e2⟩ := h4 hne
  refine ⟨b1, o, e1, fun i x hx => ?_⟩
  rw [World.cell?_of_block (w := w) (b.block b1 (hp ⟨b1, o, none⟩ l.length cap (by rw [e, e1])))]
  exact e2 i x hx

set_option maxRecDepth 10000 in
set_option maxHeartbeats 8000000 in
theorem of9_core (w : World) (base bx k c : Nat) (p : Option Addr) (vl vk vw : Value) (l : List UInt8) (sig : Nat → List UInt8) (ds : List Deferred) (t0 t1 t2 t3 t5 t7 t8 t9 t10 t11 t12 t13 t14 t15 t16 t17 t18 t19 t20 t21 t22 t23 t24 t25 t26 t27 t28 t29 t30 t31 t32 t33 t34 t35 t36 t37 t38 t39 t40 t41 t42 t43 t44 t45 t46 t47 t48 t49 t50 t51 t52 t53 t54 t55 t56 t57 t58 t59 t60 : Value) (Q : Exit → Act → World → Prop)
    (hx : w.heap[bx]? = some (.cells #[vl, vk, vw, .int .i64 (-1), .bool false, .int .i64 0] 74 (0, 0))) (hbase : base ≤ w.heap.size) (hbx : base ≤ bx)
    (hl : RO w base vl k sig) (hk : RO w base vk k sig) (hw : w.ownsRow base 4 1 vw k (List.replicate k (.bool false))) (hne : ∀ g, vl.ownBlock = some g → vk.ownBlock ≠ some g)
    (hb : HB w (.slice p 64 c) l) (hpb : ∀ a, p = some a → a.block < base) (hlen : sig k = l) (hsig : ∀ j, j ≤ k → (sig j).length = 64) (hkm : k < 16384) (hQp : ∀ c a a' w, Q (.panic c) a w → Q (.panic c) a' w)
    (hQ : ∀ (s26 s27 s28 s29 s30 s31 s32 s33 s34 s35 s36 s37 s38 s39 s40 s41 s42 s43 s44 s45 s46 s47 s48 s49 s50 s51 s52 s53 s54 s55 s56 s57 s58 : Value) (g1 g2 g3 c1 c2 c3 : Nat) (W : World), RO W base (.slice (some ⟨g1, 0, none⟩) (k + 1) c1) (k + 1) sig → RO W base (.slice (some ⟨g2, 0, none⟩) (k + 1) c2) (k + 1) sig → W.ownsRow base 4 1 (.slice (some ⟨g3, 0, none⟩) (k + 1) c3) (k + 1) (List.replicate (k + 1) (.bool false)) → g1 ≠ g2 →
      W.heap[bx]? = some (.cells #[.slice (some ⟨g1, 0, none⟩) (k + 1) c1, .slice (some ⟨g2, 0, none⟩) (k + 1) c2, .slice (some ⟨g3, 0, none⟩) (k + 1) c3, .int .i64 (-1), .bool false, .int .i64 0] 74 (0, 0)) → Below base w W → Q .normal ⟨List.toArray (t0 :: t1 :: t2 :: t3 :: (.pointer (some ⟨bx, 0, none⟩)) :: t5 :: (.slice p 64 c) :: t7 :: t8 :: t9 :: t10 :: t11 :: t12 :: t13 :: t14 :: t15 :: t16 :: t17 :: t18 :: t19 :: t20 :: t21 :: t22 :: t23 :: t24 :: t25 :: s26 :: s27 :: s28 :: s29 :: s30 :: s31 :: s32 :: s33 :: s34 :: s35 :: s36 :: s37 :: s38 :: s39 :: s40 :: s41 :: s42 :: s43 :: s44 :: s45 :: s46 :: s47 :: s48 :: s49 :: s50 :: s51 :: s52 :: s53 :: s54 :: s55 :: s56 :: s57 :: s58 :: t59 :: t60 :: []), ds⟩ W) :
    (Code.region 9 of9o true).wp Try.prog Q ⟨List.toArray (t0 :: t1 :: t2 :: t3 :: (.pointer (some ⟨bx, 0, none⟩)) :: t5 :: (.slice p 64 c) :: t7 :: t8 :: t9 :: t10 :: t11 :: t12 :: t13 :: t14 :: t15 :: t16 :: t17 :: t18 :: t19 :: t20 :: t21 :: t22 :: t23 :: t24 :: t25 :: t26 :: t27 :: t28 :: t29 :: t30 :: t31 :: t32 :: t33 :: t34 :: t35 :: t36 :: t37 :: t38 :: t39 :: t40 :: t41 :: t42 :: t43 :: t44 :: t45 :: t46 :: t47 :: t48 :: t49 :: t50 :: t51 :: t52 :: t53 :: t54 :: t55 :: t56 :: t57 :: t58 :: t59 :: t60 :: []), ds⟩ w := by
  have hQh : ∀ c a a' w, headPost Try.prog .any of9o Q 27 9 (.panic c) a w → headPost Try.prog .any of9o Q 27 9 (.panic c) a' w := fun c a a' w h => hQp c a a' w h
  have hbAt : ∀ W, Below base w W → HB W (.slice p 64 c) l := fun W b => hb.old (fun a n c e => by cases e; exact hpb a rfl) b
  have hs0 : ∀ j, j < k → sig j ≠ [] := fun j hj e => by have := hsig j (by omega); rw [e] at this; cases this
  have hs1 : ∀ j, j < k + 1 → sig j ≠ [] := fun j hj e => by have := hsig j (by omega); rw [e] at this; cases this
  have hSx : ∀ W : World, W.heap[bx]? = some (.cells #[vl, vk, vw, .int .i64 (-1), .bool false, .int .i64 0] 74 (0, 0)) → (fun W => W.cell? ⟨bx, 0, none⟩ = some vl ∧ W.cell? ⟨bx, 1, none⟩ = some vk ∧ W.cell? ⟨bx, 2, none⟩ = some vw) W := fun W X => ⟨by rw [cell_of_row W bx 0 _ _ _ X]; rfl, by rw [cell_of_row W bx 1 _ _ _ X]; rfl, by rw [cell_of_row W bx 2 _ _ _ X]; rfl⟩
  have hHeld : (fun W => W.cell? ⟨bx, 0, none⟩ = some vl ∧ W.cell? ⟨bx, 1, none⟩ = some vk ∧ W.cell? ⟨bx, 2, none⟩ = some vw) w.drew := ⟨by show w.cell? _ = _; rw [cell_of_row w bx 0 _ _ _ hx]; rfl, by show w.cell? _ = _; rw [cell_of_row w bx 1 _ _ _ hx]; rfl, by show w.cell? _ = _; rw [cell_of_row w bx 2 _ _ _ hx]; rfl⟩
  have h811 : ∀ (x33 x35 x36 x37 x42 x44 x45 x46 x51 x52 : Value) (W : World), (Below base w W) → (W.heap[bx]? = some (.cells #[vl, vk, vw, .int .i64 (-1), .bool false, .int .i64 0] 74 (0, 0))) → (∃ g c, x37 = .slice (some ⟨g, 0, none⟩) (k + 1) c ∧ RO W base x37 (k + 1) sig) → (∃ g c, x46 = .slice (some ⟨g, 0, none⟩) (k + 1) c ∧ RO W base x46 (k + 1) sig ∧ x37.ownBlock ≠ some g) → (∃ g c, x52 = .slice (some ⟨g, 0, none⟩) (k + 1) c ∧ W.ownsRow base 4 1 x52 (k + 1) (List.replicate (k + 1) (.bool false))) → wpAnyH Try.prog .any of9a (headPost Try.prog .any of9o Q 27 9) (fun W => W.cell? ⟨bx, 0, none⟩ = some vl ∧ W.cell? ⟨bx, 1, none⟩ = some vk ∧ W.cell? ⟨bx, 2, none⟩ = some vw) 0 #[true, true, true, true, true, true, true, true, true, true, true, true, true, true, true, true, true, true, true, true, true, true, true, true, true, true, true] ⟨List.toArray (t0 :: t1 :: t2 :: t3 :: (.pointer (some ⟨bx, 0, none⟩)) :: t5 :: (.slice p 64 c) :: t7 :: t8 :: t9 :: t10 :: t11 :: t12 :: t13 :: t14 :: t15 :: t16 :: t17 :: t18 :: t19 :: t20 :: t21 :: t22 :: t23 :: t24 :: t25 :: (.pointer (some ⟨bx, 0, none⟩)) :: (.pointer (some ⟨bx, 0, none⟩)) :: (.pointer (some ⟨bx, 0, none⟩)) :: (.pointer (some ⟨bx, 0, none⟩)) :: (.pointer (some ⟨bx, 0, none⟩)) :: (.pointer (some ⟨bx, 0, none⟩)) :: vl :: x33 :: (.slice p 64 c) :: x35 :: x36 :: x37 :: (.pointer (some ⟨bx, 0, none⟩)) :: (.pointer (some ⟨bx, 0, none⟩)) :: (.pointer (some ⟨bx, 1, none⟩)) :: vk :: x42 :: (.slice p 64 c) :: x44 :: x45 :: x46 :: (.pointer (some ⟨bx, 0, none⟩)) :: (.pointer (some ⟨bx, 0, none⟩)) :: (.pointer (some ⟨bx, 2, none⟩)) :: vw :: x51 :: x52 :: t53 :: t54 :: t55 :: t56 :: t57 :: t58 :: t59 :: t60 :: []), ds⟩ W := by
    intro x33 x35 x36 x37 x42 x44 x45 x46 x51 x52 W b X fl fk fw
    obtain ⟨g1, c1, rfl, q1⟩ := fl
    obtain ⟨g2, c2, rfl, q2, n2⟩ := fk
    obtain ⟨g3, c3, rfl, q3⟩ := fw
    have n3 : g1 ≠ g2 := fun e => n2 (by rw [e]; rfl)
    refine wpAnyH_done (by kernel_rfl) ?_ _
    refine headPost_rest [⟨some 53, .nilCheck (.tmp 26), 0, "ref.go:37", #[⟨0, .data⟩, ⟨0, .phase⟩, ⟨1, .textOnly .lateStores⟩, ⟨2, .textOnly .lateStores⟩, ⟨3, .phase⟩, ⟨4, .phase⟩, ⟨5, .phase⟩, ⟨6, .phase⟩, ⟨7, .phase⟩, ⟨8, .phase⟩, ⟨9, .phase⟩, ⟨10, .phase⟩, ⟨11, .phase⟩, ⟨12, .textOnly .lateStores⟩, ⟨13, .textOnly .lateStoresUnsure⟩, ⟨14, .textOnly .lateStoresUnsure⟩, ⟨15, .phase⟩, ⟨16, .textOnly .lateStoresUnsure⟩, ⟨17, .textOnly .lateStores⟩, ⟨18, .phase⟩, ⟨19, .textOnly .lateStoresUnsure⟩, ⟨20, .phase⟩, ⟨21, .textOnly .lateStores⟩, ⟨22, .textOnly .lateStoresUnsure⟩, ⟨23, .textOnly .lateStoresUnsure⟩, ⟨24, .phase⟩, ⟨25, .textOnly .lateStoresUnsure⟩, ⟨26, .phase⟩], none⟩,
      ⟨some 54, .fieldAddr 74 (.tmp 53) 0, 0, "ref.go:37", #[⟨27, .data⟩, ⟨0, .phase⟩, ⟨1, .textOnly .lateStores⟩, ⟨2, .textOnly .lateStores⟩, ⟨3, .phase⟩, ⟨4, .phase⟩, ⟨5, .phase⟩, ⟨6, .phase⟩, ⟨7, .phase⟩, ⟨8, .phase⟩, ⟨9, .phase⟩, ⟨10, .phase⟩, ⟨11, .phase⟩, ⟨12, .textOnly .lateStores⟩, ⟨13, .textOnly .lateStoresUnsure⟩, ⟨14, .textOnly .lateStoresUnsure⟩, ⟨15, .phase⟩, ⟨16, .textOnly .lateStoresUnsure⟩, ⟨17, .textOnly .lateStores⟩, ⟨18, .phase⟩, ⟨19, .textOnly .lateStoresUnsure⟩, ⟨20, .phase⟩, ⟨21, .textOnly .lateStores⟩, ⟨22, .textOnly .lateStoresUnsure⟩, ⟨23, .textOnly .lateStoresUnsure⟩, ⟨24, .phase⟩, ⟨25, .textOnly .lateStoresUnsure⟩, ⟨26, .phase⟩], none⟩,
      ⟨none, .store 36 (.tmp 54) (.tmp 37), 0, "ref.go:37", #[⟨28, .data⟩, ⟨11, .data⟩, ⟨26, .chain⟩, ⟨0, .phase⟩, ⟨1, .textOnly .lateStores⟩, ⟨2, .textOnly .lateStores⟩, ⟨3, .phase⟩, ⟨4, .phase⟩, ⟨5, .phase⟩, ⟨6, .phase⟩, ⟨7, .phase⟩, ⟨8, .phase⟩, ⟨9, .phase⟩, ⟨10, .phase⟩, ⟨11, .phase⟩, ⟨12, .textOnly .lateStores⟩, ⟨13, .textOnly .lateStoresUnsure⟩, ⟨14, .textOnly .lateStoresUnsure⟩, ⟨15, .phase⟩, ⟨16, .textOnly .lateStoresUnsure⟩, ⟨17, .textOnly .lateStores⟩, ⟨18, .phase⟩, ⟨19, .textOnly .lateStoresUnsure⟩, ⟨20, .phase⟩, ⟨21, .textOnly .lateStores⟩, ⟨22, .textOnly .lateStoresUnsure⟩, ⟨23, .textOnly .lateStoresUnsure⟩, ⟨24, .phase⟩, ⟨25, .textOnly .lateStoresUnsure⟩, ⟨26, .phase⟩], none⟩,
      ⟨some 55, .nilCheck (.tmp 27), 0, "ref.go:37", #[⟨1, .data⟩, ⟨0, .phase⟩, ⟨1, .phase⟩, ⟨2, .textOnly .lateStores⟩, ⟨3, .phase⟩, ⟨4, .phase⟩, ⟨5, .phase⟩, ⟨6, .phase⟩, ⟨7, .phase⟩, ⟨8, .phase⟩, ⟨9, .phase⟩, ⟨10, .phase⟩, ⟨11, .phase⟩, ⟨12, .phase⟩, ⟨13, .phase⟩, ⟨14, .phase⟩, ⟨15, .phase⟩, ⟨16, .phase⟩, ⟨17, .phase⟩, ⟨18, .phase⟩, ⟨19, .phase⟩, ⟨20, .phase⟩, ⟨21, .textOnly .lateStores⟩, ⟨22, .textOnly .lateStoresUnsure⟩, ⟨23, .textOnly .lateStoresUnsure⟩, ⟨24, .phase⟩, ⟨25, .textOnly .lateStoresUnsure⟩, ⟨26, .phase⟩, ⟨27, .phase⟩, ⟨28, .phase⟩, ⟨29, .phase⟩], none⟩,
      ⟨some 56, .fieldAddr 74 (.tmp 55) 1, 0, "ref.go:37", #[⟨30, .data⟩, ⟨0, .phase⟩, ⟨1, .phase⟩, ⟨2, .textOnly .lateStores⟩, ⟨3, .phase⟩, ⟨4, .phase⟩, ⟨5, .phase⟩, ⟨6, .phase⟩, ⟨7, .phase⟩, ⟨8, .phase⟩, ⟨9, .phase⟩, ⟨10, .phase⟩, ⟨11, .phase⟩, ⟨12, .phase⟩, ⟨13, .phase⟩, ⟨14, .phase⟩, ⟨15, .phase⟩, ⟨16, .phase⟩, ⟨17, .phase⟩, ⟨18, .phase⟩, ⟨19, .phase⟩, ⟨20, .phase⟩, ⟨21, .textOnly .lateStores⟩, ⟨22, .textOnly .lateStoresUnsure⟩, ⟨23, .textOnly .lateStoresUnsure⟩, ⟨24, .phase⟩, ⟨25, .textOnly .lateStoresUnsure⟩, ⟨26, .phase⟩, ⟨27, .phase⟩, ⟨28, .phase⟩, ⟨29, .phase⟩], none⟩,
      ⟨none, .store 36 (.tmp 56) (.tmp 46), 0, "ref.go:37", #[⟨31, .data⟩, ⟨20, .data⟩, ⟨29, .chain⟩, ⟨0, .phase⟩, ⟨1, .phase⟩, ⟨2, .textOnly .lateStores⟩, ⟨3, .phase⟩, ⟨4, .phase⟩, ⟨5, .phase⟩, ⟨6, .phase⟩, ⟨7, .phase⟩, ⟨8, .phase⟩, ⟨9, .phase⟩, ⟨10, .phase⟩, ⟨11, .phase⟩, ⟨12, .phase⟩, ⟨13, .phase⟩, ⟨14, .phase⟩, ⟨15, .phase⟩, ⟨16, .phase⟩, ⟨17, .phase⟩, ⟨18, .phase⟩, ⟨19, .phase⟩, ⟨20, .phase⟩, ⟨21, .textOnly .lateStores⟩, ⟨22, .textOnly .lateStoresUnsure⟩, ⟨23, .textOnly .lateStoresUnsure⟩, ⟨24, .phase⟩, ⟨25, .textOnly .lateStoresUnsure⟩, ⟨26, .phase⟩, ⟨27, .phase⟩, ⟨28, .phase⟩, ⟨29, .phase⟩], none⟩,
      ⟨some 57, .nilCheck (.tmp 28), 0, "ref.go:37", #[⟨2, .data⟩, ⟨0, .phase⟩, ⟨1, .phase⟩, ⟨2, .phase⟩, ⟨3, .phase⟩, ⟨4, .phase⟩, ⟨5, .phase⟩, ⟨6, .phase⟩, ⟨7, .phase⟩, ⟨8, .phase⟩, ⟨9, .phase⟩, ⟨10, .phase⟩, ⟨11, .phase⟩, ⟨12, .phase⟩, ⟨13, .phase⟩, ⟨14, .phase⟩, ⟨15, .phase⟩, ⟨16, .phase⟩, ⟨17, .phase⟩, ⟨18, .phase⟩, ⟨19, .phase⟩, ⟨20, .phase⟩, ⟨21, .phase⟩, ⟨22, .phase⟩, ⟨23, .phase⟩, ⟨24, .phase⟩, ⟨25, .phase⟩, ⟨26, .phase⟩, ⟨27, .phase⟩, ⟨28, .phase⟩, ⟨29, .phase⟩, ⟨30, .phase⟩, ⟨31, .phase⟩, ⟨32, .phase⟩], none⟩,
      ⟨some 58, .fieldAddr 74 (.tmp 57) 2, 0, "ref.go:37", #[⟨33, .data⟩, ⟨0, .phase⟩, ⟨1, .phase⟩, ⟨2, .phase⟩, ⟨3, .phase⟩, ⟨4, .phase⟩, ⟨5, .phase⟩, ⟨6, .phase⟩, ⟨7, .phase⟩, ⟨8, .phase⟩, ⟨9, .phase⟩, ⟨10, .phase⟩, ⟨11, .phase⟩, ⟨12, .phase⟩, ⟨13, .phase⟩, ⟨14, .phase⟩, ⟨15, .phase⟩, ⟨16, .phase⟩, ⟨17, .phase⟩, ⟨18, .phase⟩, ⟨19, .phase⟩, ⟨20, .phase⟩, ⟨21, .phase⟩, ⟨22, .phase⟩, ⟨23, .phase⟩, ⟨24, .phase⟩, ⟨25, .phase⟩, ⟨26, .phase⟩, ⟨27, .phase⟩, ⟨28, .phase⟩, ⟨29, .phase⟩, ⟨30, .phase⟩, ⟨31, .phase⟩, ⟨32, .phase⟩], none⟩,
      ⟨none, .store 72 (.tmp 58) (.tmp 52), 0, "ref.go:37", #[⟨34, .data⟩, ⟨26, .data⟩, ⟨32, .chain⟩, ⟨0, .phase⟩, ⟨1, .phase⟩, ⟨2, .phase⟩, ⟨3, .phase⟩, ⟨4, .phase⟩, ⟨5, .phase⟩, ⟨6, .phase⟩, ⟨7, .phase⟩, ⟨8, .phase⟩, ⟨9, .phase⟩, ⟨10, .phase⟩, ⟨11, .phase⟩, ⟨12, .phase⟩, ⟨13, .phase⟩, ⟨14, .phase⟩, ⟨15, .phase⟩, ⟨16, .phase⟩, ⟨17, .phase⟩, ⟨18, .phase⟩, ⟨19, .phase⟩, ⟨20, .phase⟩, ⟨21, .phase⟩, ⟨22, .phase⟩, ⟨23, .phase⟩, ⟨24, .phase⟩, ⟨25, .phase⟩, ⟨26, .phase⟩, ⟨27, .phase⟩, ⟨28, .phase⟩, ⟨29, .phase⟩, ⟨30, .phase⟩, ⟨31, .phase⟩, ⟨32, .phase⟩], none⟩] (by kernel_rfl) rfl (by kernel_rfl) ?_
    obtain ⟨cx0, cx1, cx2⟩ := hSx W X
    have fz0 : W.frozen? ⟨bx, 0, none⟩ = false := by simp [World.frozen?, X]
    have fz1 : W.frozen? ⟨bx, 1, none⟩ = false := by simp [World.frozen?, X]
    have fz2 : W.frozen? ⟨bx, 2, none⟩ = false := by simp [World.frozen?, X]
    have hX3 : (((W.setCell ⟨bx, 0, none⟩ (.slice (some ⟨g1, 0, none⟩) (k + 1) c1)).setCell ⟨bx, 1, none⟩ (.slice (some ⟨g2, 0, none⟩) (k + 1) c2)).setCell ⟨bx, 2, none⟩ (.slice (some ⟨g3, 0, none⟩) (k + 1) c3)).heap[bx]? = some (.cells #[.slice (some ⟨g1, 0, none⟩) (k + 1) c1, .slice (some ⟨g2, 0, none⟩) (k + 1) c2, .slice (some ⟨g3, 0, none⟩) (k + 1) c3, .int .i64 (-1), .bool false, .int .i64 0] 74 (0, 0)) := by rw [heap_setCell_same _ bx 2 _ _ _ (heap_setCell_same _ bx 1 _ _ _ (heap_setCell_same W bx 0 _ _ _ X))]; rfl
    have tS : ∀ T, 74 ≠ T → Sty T W (((W.setCell ⟨bx, 0, none⟩ (.slice (some ⟨g1, 0, none⟩) (k + 1) c1)).setCell ⟨bx, 1, none⟩ (.slice (some ⟨g2, 0, none⟩) (k + 1) c2)).setCell ⟨bx, 2, none⟩ (.slice (some ⟨g3, 0, none⟩) (k + 1) c3)) := fun T hT => ((Sty.setCell X hT).trans (Sty.setCell (heap_setCell_same W bx 0 _ _ _ X) hT)).trans (Sty.setCell (heap_setCell_same _ bx 1 _ _ _ (heap_setCell_same W bx 0 _ _ _ X)) hT)
    have b3 : Below base w (((W.setCell ⟨bx, 0, none⟩ (.slice (some ⟨g1, 0, none⟩) (k + 1) c1)).setCell ⟨bx, 1, none⟩ (.slice (some ⟨g2, 0, none⟩) (k + 1) c2)).setCell ⟨bx, 2, none⟩ (.slice (some ⟨g3, 0, none⟩) (k + 1) c3)) := ((b.setCell hbx _).setCell hbx _).setCell hbx _
    have k1 := q1.sty (tS _ (by decide)) (tS _ (by decide))
    have k2 := q2.sty (tS _ (by decide)) (tS _ (by decide))
    have k3 := owns_sty q3 (tS _ (by decide))
    clear tS q1 q2 q3 b X n2 hbAt hs0 hs1 hSx hQh hl hk hw hne hb hpb hx hHeld
    go_wp2
    exact hQ _ _ _ _ _ _ _ _ _ _ _ _ _ _ _ _ _ _ _ _ _ _ _ _ _ _ _ _ _ _ _ _ _ g1 g2 g3 c1 c2 c3 _ k1 k2 k3 n3 hX3 b3
  have h711 : ∀ (x33 x35 x36 x37 x42 x44 x45 x46 x51 x52 : Value) (W : World), (Below base w W) → (W.heap[bx]? = some (.cells #[vl, vk, vw, .int .i64 (-1), .bool false, .int .i64 0] 74 (0, 0))) → (∃ g c, x37 = .slice (some ⟨g, 0, none⟩) (k + 1) c ∧ RO W base x37 (k + 1) sig) → (∃ g c, x46 = .slice (some ⟨g, 0, none⟩) (k + 1) c ∧ RO W base x46 (k + 1) sig ∧ x37.ownBlock ≠ some g) → (W.ownsRow base 4 1 vw k (List.replicate k (.bool false))) → (N1 W 4 x51 (.bool false)) → wpAnyH Try.prog .any of9a (headPost Try.prog .any of9o Q 27 9) (fun W => W.cell? ⟨bx, 0, none⟩ = some vl ∧ W.cell? ⟨bx, 1, none⟩ = some vk ∧ W.cell? ⟨bx, 2, none⟩ = some vw) 1 #[true, true, true, true, true, true, true, true, true, true, true, true, true, true, true, true, true, true, true, true, true, true, true, true, true, true, false] ⟨List.toArray (t0 :: t1 :: t2 :: t3 :: (.pointer (some ⟨bx, 0, none⟩)) :: t5 :: (.slice p 64 c) :: t7 :: t8 :: t9 :: t10 :: t11 :: t12 :: t13 :: t14 :: t15 :: t16 :: t17 :: t18 :: t19 :: t20 :: t21 :: t22 :: t23 :: t24 :: t25 :: (.pointer (some ⟨bx, 0, none⟩)) :: (.pointer (some ⟨bx, 0, none⟩)) :: (.pointer (some ⟨bx, 0, none⟩)) :: (.pointer (some ⟨bx, 0, none⟩)) :: (.pointer (some ⟨bx, 0, none⟩)) :: (.pointer (some ⟨bx, 0, none⟩)) :: vl :: x33 :: (.slice p 64 c) :: x35 :: x36 :: x37 :: (.pointer (some ⟨bx, 0, none⟩)) :: (.pointer (some ⟨bx, 0, none⟩)) :: (.pointer (some ⟨bx, 1, none⟩)) :: vk :: x42 :: (.slice p 64 c) :: x44 :: x45 :: x46 :: (.pointer (some ⟨bx, 0, none⟩)) :: (.pointer (some ⟨bx, 0, none⟩)) :: (.pointer (some ⟨bx, 2, none⟩)) :: vw :: x51 :: x52 :: t53 :: t54 :: t55 :: t56 :: t57 :: t58 :: t59 :: t60 :: []), ds⟩ W := by
    intro x33 x35 x36 x37 x42 x44 x45 x46 x51 x52 W b X fl fk fw f51
    refine wpAnyH_ready (rs := [26]) (by kernel_rfl) (by simp) ?_
    refine AllReadyH.cons (o := ⟨some 52, .call { callee := .builtin .append, args := #[.tmp 50, .tmp 51], argTypes := #[72, 72] }, 72, "ref.go:37", #[⟨24, .data⟩, ⟨25, .data⟩, ⟨20, .chain⟩], none⟩) rfl (fun K hK => ?_) AllReadyH.nil
    · have hsz := Nat.le_trans hbase b.size
      obtain ⟨gn, rfl, hgn⟩ := f51
      obtain ⟨i0, hi0, hz0, hz1, hz2⟩ := info_parts i_boo
      refine step_append_lies _ (by rfl) _ _ _ (by rfl) base 4 i0 _ 1 1 Try.underlying72 hi0 hz0 hz1 hz2 rfl (by omega) _ k (List.replicate k (.bool false)) (by rfl) fw ⟨gn, 0, none⟩ 1 1 [.bool false] (by rfl) (by rfl) (World.news_of_block hgn) (by simp [Value.oneCell']) (by omega) (by unfold maxLen; omega) (by omega) hsz W.heap.size rfl ?_
      intro g cap W' ow gr hat hlt
      have tR : Sty 74 W W' := Sty.of_grown fw gr (by decide)
      have tY : Sty 31 W W' := Sty.of_grown fw gr (by decide)
      have tU : Sty 5 W W' := Sty.of_grown fw gr (by decide)
      have b' : Below base w W' := b.grown gr hsz (fun q hq => (fw.lt q hq).1)
      clear hlt hat
      have X' : W'.heap[bx]? = some (.cells #[vl, vk, vw, .int .i64 (-1), .bool false, .int .i64 0] 74 (0, 0)) := (tR _ _ _ X)
      refine hK.out _ _ (hSx _ X') (fun _ => ?_)
      exact h811 x33 x35 x36 x37 x42 x44 x45 x46 (.slice (some ⟨gn, 0, none⟩) 1 1) (.slice (some ⟨g, 0, none⟩) (k + 1) cap) W' b' X' (Exists.elim fl fun g h => Exists.elim h fun c h => ⟨g, c, h.1, h.2.sty tY tU⟩) (Exists.elim fk fun g h => Exists.elim h fun c h => ⟨g, c, h.1, h.2.1.sty tY tU, h.2.2⟩) ⟨g, cap, rfl, by rw [List.replicate_succ']; exact ow⟩
  have h710 : ∀ (x33 x35 x36 x37 x42 x44 x45 x46 x51 x52 : Value) (W : World), (Below base w W) → (W.heap[bx]? = some (.cells #[vl, vk, vw, .int .i64 (-1), .bool false, .int .i64 0] 74 (0, 0))) → (∃ g c, x37 = .slice (some ⟨g, 0, none⟩) (k + 1) c ∧ RO W base x37 (k + 1) sig) → (∃ g c, x46 = .slice (some ⟨g, 0, none⟩) (k + 1) c ∧ RO W base x46 (k + 1) sig ∧ x37.ownBlock ≠ some g) → (W.ownsRow base 4 1 vw k (List.replicate k (.bool false))) → wpAnyH Try.prog .any of9a (headPost Try.prog .any of9o Q 27 9) (fun W => W.cell? ⟨bx, 0, none⟩ = some vl ∧ W.cell? ⟨bx, 1, none⟩ = some vk ∧ W.cell? ⟨bx, 2, none⟩ = some vw) 2 #[true, true, true, true, true, true, true, true, true, true, true, true, true, true, true, true, true, true, true, true, true, true, true, true, true, false, false] ⟨List.toArray (t0 :: t1 :: t2 :: t3 :: (.pointer (some ⟨bx, 0, none⟩)) :: t5 :: (.slice p 64 c) :: t7 :: t8 :: t9 :: t10 :: t11 :: t12 :: t13 :: t14 :: t15 :: t16 :: t17 :: t18 :: t19 :: t20 :: t21 :: t22 :: t23 :: t24 :: t25 :: (.pointer (some ⟨bx, 0, none⟩)) :: (.pointer (some ⟨bx, 0, none⟩)) :: (.pointer (some ⟨bx, 0, none⟩)) :: (.pointer (some ⟨bx, 0, none⟩)) :: (.pointer (some ⟨bx, 0, none⟩)) :: (.pointer (some ⟨bx, 0, none⟩)) :: vl :: x33 :: (.slice p 64 c) :: x35 :: x36 :: x37 :: (.pointer (some ⟨bx, 0, none⟩)) :: (.pointer (some ⟨bx, 0, none⟩)) :: (.pointer (some ⟨bx, 1, none⟩)) :: vk :: x42 :: (.slice p 64 c) :: x44 :: x45 :: x46 :: (.pointer (some ⟨bx, 0, none⟩)) :: (.pointer (some ⟨bx, 0, none⟩)) :: (.pointer (some ⟨bx, 2, none⟩)) :: vw :: x51 :: x52 :: t53 :: t54 :: t55 :: t56 :: t57 :: t58 :: t59 :: t60 :: []), ds⟩ W := by
    intro x33 x35 x36 x37 x42 x44 x45 x46 x51 x52 W b X fl fk fw
    refine wpAnyH_ready (rs := [25]) (by kernel_rfl) (by simp) ?_
    refine AllReadyH.cons (o := ⟨some 51, .buildSlice 72 1 #[(0, .const (.bool false))], 72, "ref.go:37", #[], none⟩) rfl (fun K hK => ?_) AllReadyH.nil
    · go_simp
      have bA := (Below.refl W.heap.size W).alloc (Nat.le_refl _) (.cells #[.bool false] 4)
      have hsz := Nat.le_trans hbase b.size
      have X' : (W.alloc (.cells #[.bool false] 4)).heap[bx]? = some (.cells #[vl, vk, vw, .int .i64 (-1), .bool false, .int .i64 0] 74 (0, 0)) := ((bA.block bx (Array.getElem?_eq_some_iff.1 X).1).trans X)
      refine hK.out _ _ (hSx _ X') (fun _ => ?_)
      exact h711 x33 x35 x36 x37 x42 x44 x45 x46 (.slice (some ⟨W.heap.size, 0, none⟩) 1 1) x52 (W.alloc (.cells #[.bool false] 4)) (b.trans (bA.mono hsz)) X' (Exists.elim fl fun g h => Exists.elim h fun c h => ⟨g, c, h.1, h.2.later bA⟩) (Exists.elim fk fun g h => Exists.elim h fun c h => ⟨g, c, h.1, h.2.1.later bA, h.2.2⟩) (owns_later fw bA) (N1.made W 4 (.bool false))
  have h611 : ∀ (x33 x35 x36 x37 x42 x44 x45 x46 x51 x52 : Value) (W : World), (Below base w W) → (W.heap[bx]? = some (.cells #[vl, vk, vw, .int .i64 (-1), .bool false, .int .i64 0] 74 (0, 0))) → (∃ g c, x37 = .slice (some ⟨g, 0, none⟩) (k + 1) c ∧ RO W base x37 (k + 1) sig) → (RO W base vk k sig) → (W.ownsRow base 4 1 vw k (List.replicate k (.bool false))) → (∀ g, x37.ownBlock = some g → vk.ownBlock ≠ some g) → (HBT W x44 l) → (N1 W 31 x45 x44) → (N1 W 4 x51 (.bool false)) → wpAnyH Try.prog .any of9a (headPost Try.prog .any of9o Q 27 9) (fun W => W.cell? ⟨bx, 0, none⟩ = some vl ∧ W.cell? ⟨bx, 1, none⟩ = some vk ∧ W.cell? ⟨bx, 2, none⟩ = some vw) 2 #[true, true, true, true, true, true, true, true, true, true, true, true, true, true, true, true, true, true, true, true, false, true, true, true, true, true, false] ⟨List.toArray (t0 :: t1 :: t2 :: t3 :: (.pointer (some ⟨bx, 0, none⟩)) :: t5 :: (.slice p 64 c) :: t7 :: t8 :: t9 :: t10 :: t11 :: t12 :: t13 :: t14 :: t15 :: t16 :: t17 :: t18 :: t19 :: t20 :: t21 :: t22 :: t23 :: t24 :: t25 :: (.pointer (some ⟨bx, 0, none⟩)) :: (.pointer (some ⟨bx, 0, none⟩)) :: (.pointer (some ⟨bx, 0, none⟩)) :: (.pointer (some ⟨bx, 0, none⟩)) :: (.pointer (some ⟨bx, 0, none⟩)) :: (.pointer (some ⟨bx, 0, none⟩)) :: vl :: x33 :: (.slice p 64 c) :: x35 :: x36 :: x37 :: (.pointer (some ⟨bx, 0, none⟩)) :: (.pointer (some ⟨bx, 0, none⟩)) :: (.pointer (some ⟨bx, 1, none⟩)) :: vk :: x42 :: (.slice p 64 c) :: x44 :: x45 :: x46 :: (.pointer (some ⟨bx, 0, none⟩)) :: (.pointer (some ⟨bx, 0, none⟩)) :: (.pointer (some ⟨bx, 2, none⟩)) :: vw :: x51 :: x52 :: t53 :: t54 :: t55 :: t56 :: t57 :: t58 :: t59 :: t60 :: []), ds⟩ W := by
    intro x33 x35 x36 x37 x42 x44 x45 x46 x51 x52 W b X fl fk fw ne f44 f45 f51
    refine wpAnyH_ready (rs := [20]) (by kernel_rfl) (by simp) ?_
    refine AllReadyH.cons (o := ⟨some 46, .call { callee := .builtin .append, args := #[.tmp 41, .tmp 45], argTypes := #[36, 36] }, 36, "ref.go:37", #[⟨15, .data⟩, ⟨19, .data⟩, ⟨18, .chain⟩], none⟩) rfl (fun K hK => ?_) AllReadyH.nil
    · have hsz := Nat.le_trans hbase b.size
      obtain ⟨vs, r1, r2⟩ := fk
      obtain ⟨gn, rfl, hgn⟩ := f45
      obtain ⟨i0, hi0, hz0, hz1, hz2⟩ := info_parts i_byt
      obtain ⟨pq, cq, rfl⟩ := f44.1.shape
      refine step_append_lies _ (by rfl) _ _ _ (by rfl) base 31 i0 _ 1 24 Try.underlying36 hi0 hz0 hz1 hz2 rfl (by omega) _ k vs (by rfl) r1 ⟨gn, 0, none⟩ 1 1 [.slice pq l.length cq] (by rfl) (by rfl) (World.news_of_block hgn) (by simp [Value.oneCell']) (by omega) (by unfold maxLen; omega) (by omega) hsz W.heap.size rfl ?_
      intro g cap W' ow gr hat hlt
      have tR : Sty 74 W W' := Sty.of_grown r1 gr (by decide)
      have tB : Sty 4 W W' := Sty.of_grown r1 gr (by decide)
      have tU : Sty 5 W W' := Sty.of_grown r1 gr (by decide)
      have b' : Below base w W' := b.grown gr hsz (fun q hq => (r1.lt q hq).1)
      have hn' : RO W' base (.slice (some ⟨g, 0, none⟩) (k + 1) cap) (k + 1) sig := RO.snoc r1 r2 (by rw [hlen]; exact f44) gr ow
      obtain ⟨gl, cl', rfl, rl⟩ := fl
      have ne2 : ∀ q, vk.ownBlock = some q → (Value.slice (some ⟨gl, 0, none⟩) (k + 1) cl').ownBlock ≠ some q := fun q hq hx => ne q hx hq
      have X' : W'.heap[bx]? = some (.cells #[vl, vk, vw, .int .i64 (-1), .bool false, .int .i64 0] 74 (0, 0)) := (tR _ _ _ X)
      refine hK.out _ _ (hSx _ X') (fun _ => ?_)
      exact h711 x33 x35 x36 (.slice (some ⟨gl, 0, none⟩) (k + 1) cl') x42 (.slice pq l.length cq) (.slice (some ⟨gn, 0, none⟩) 1 1) (.slice (some ⟨g, 0, none⟩) (k + 1) cap) x51 x52 W' b' X' ⟨gl, cl', rfl, rl.other r1 ne2 gr⟩ ⟨g, cap, rfl, hn', by obtain ⟨us, o1, _⟩ := rl; exact row_ne o1 ne2 hat⟩ (owns_sty fw tB) (f51.sty tB)
  have h610 : ∀ (x33 x35 x36 x37 x42 x44 x45 x46 x51 x52 : Value) (W : World), (Below base w W) → (W.heap[bx]? = some (.cells #[vl, vk, vw, .int .i64 (-1), .bool false, .int .i64 0] 74 (0, 0))) → (∃ g c, x37 = .slice (some ⟨g, 0, none⟩) (k + 1) c ∧ RO W base x37 (k + 1) sig) → (RO W base vk k sig) → (W.ownsRow base 4 1 vw k (List.replicate k (.bool false))) → (∀ g, x37.ownBlock = some g → vk.ownBlock ≠ some g) → (HBT W x44 l) → (N1 W 31 x45 x44) → wpAnyH Try.prog .any of9a (headPost Try.prog .any of9o Q 27 9) (fun W => W.cell? ⟨bx, 0, none⟩ = some vl ∧ W.cell? ⟨bx, 1, none⟩ = some vk ∧ W.cell? ⟨bx, 2, none⟩ = some vw) 3 #[true, true, true, true, true, true, true, true, true, true, true, true, true, true, true, true, true, true, true, true, false, true, true, true, true, false, false] ⟨List.toArray (t0 :: t1 :: t2 :: t3 :: (.pointer (some ⟨bx, 0, none⟩)) :: t5 :: (.slice p 64 c) :: t7 :: t8 :: t9 :: t10 :: t11 :: t12 :: t13 :: t14 :: t15 :: t16 :: t17 :: t18 :: t19 :: t20 :: t21 :: t22 :: t23 :: t24 :: t25 :: (.pointer (some ⟨bx, 0, none⟩)) :: (.pointer (some ⟨bx, 0, none⟩)) :: (.pointer (some ⟨bx, 0, none⟩)) :: (.pointer (some ⟨bx, 0, none⟩)) :: (.pointer (some ⟨bx, 0, none⟩)) :: (.pointer (some ⟨bx, 0, none⟩)) :: vl :: x33 :: (.slice p 64 c) :: x35 :: x36 :: x37 :: (.pointer (some ⟨bx, 0, none⟩)) :: (.pointer (some ⟨bx, 0, none⟩)) :: (.pointer (some ⟨bx, 1, none⟩)) :: vk :: x42 :: (.slice p 64 c) :: x44 :: x45 :: x46 :: (.pointer (some ⟨bx, 0, none⟩)) :: (.pointer (some ⟨bx, 0, none⟩)) :: (.pointer (some ⟨bx, 2, none⟩)) :: vw :: x51 :: x52 :: t53 :: t54 :: t55 :: t56 :: t57 :: t58 :: t59 :: t60 :: []), ds⟩ W := by
    intro x33 x35 x36 x37 x42 x44 x45 x46 x51 x52 W b X fl fk fw ne f44 f45
    refine wpAnyH_ready (rs := [20, 25]) (by kernel_rfl) (by simp) ?_
    refine AllReadyH.cons (o := ⟨some 46, .call { callee := .builtin .append, args := #[.tmp 41, .tmp 45], argTypes := #[36, 36] }, 36, "ref.go:37", #[⟨15, .data⟩, ⟨19, .data⟩, ⟨18, .chain⟩], none⟩) rfl (fun K hK => ?_) (AllReadyH.cons (o := ⟨some 51, .buildSlice 72 1 #[(0, .const (.bool false))], 72, "ref.go:37", #[], none⟩) rfl (fun K hK => ?_) AllReadyH.nil)
    · have hsz := Nat.le_trans hbase b.size
      obtain ⟨vs, r1, r2⟩ := fk
      obtain ⟨gn, rfl, hgn⟩ := f45
      obtain ⟨i0, hi0, hz0, hz1, hz2⟩ := info_parts i_byt
      obtain ⟨pq, cq, rfl⟩ := f44.1.shape
      refine step_append_lies _ (by rfl) _ _ _ (by rfl) base 31 i0 _ 1 24 Try.underlying36 hi0 hz0 hz1 hz2 rfl (by omega) _ k vs (by rfl) r1 ⟨gn, 0, none⟩ 1 1 [.slice pq l.length cq] (by rfl) (by rfl) (World.news_of_block hgn) (by simp [Value.oneCell']) (by omega) (by unfold maxLen; omega) (by omega) hsz W.heap.size rfl ?_
      intro g cap W' ow gr hat hlt
      have tR : Sty 74 W W' := Sty.of_grown r1 gr (by decide)
      have tB : Sty 4 W W' := Sty.of_grown r1 gr (by decide)
      have tU : Sty 5 W W' := Sty.of_grown r1 gr (by decide)
      have b' : Below base w W' := b.grown gr hsz (fun q hq => (r1.lt q hq).1)
      have hn' : RO W' base (.slice (some ⟨g, 0, none⟩) (k + 1) cap) (k + 1) sig := RO.snoc r1 r2 (by rw [hlen]; exact f44) gr ow
      obtain ⟨gl, cl', rfl, rl⟩ := fl
      have ne2 : ∀ q, vk.ownBlock = some q → (Value.slice (some ⟨gl, 0, none⟩) (k + 1) cl').ownBlock ≠ some q := fun q hq hx => ne q hx hq
      have X' : W'.heap[bx]? = some (.cells #[vl, vk, vw, .int .i64 (-1), .bool false, .int .i64 0] 74 (0, 0)) := (tR _ _ _ X)
      refine hK.out _ _ (hSx _ X') (fun _ => ?_)
      exact h710 x33 x35 x36 (.slice (some ⟨gl, 0, none⟩) (k + 1) cl') x42 (.slice pq l.length cq) (.slice (some ⟨gn, 0, none⟩) 1 1) (.slice (some ⟨g, 0, none⟩) (k + 1) cap) x51 x52 W' b' X' ⟨gl, cl', rfl, rl.other r1 ne2 gr⟩ ⟨g, cap, rfl, hn', by obtain ⟨us, o1, _⟩ := rl; exact row_ne o1 ne2 hat⟩ (owns_sty fw tB)
    · go_simp
      have bA := (Below.refl W.heap.size W).alloc (Nat.le_refl _) (.cells #[.bool false] 4)
      have hsz := Nat.le_trans hbase b.size
      have X' : (W.alloc (.cells #[.bool false] 4)).heap[bx]? = some (.cells #[vl, vk, vw, .int .i64 (-1), .bool false, .int .i64 0] 74 (0, 0)) := ((bA.block bx (Array.getElem?_eq_some_iff.1 X).1).trans X)
      refine hK.out _ _ (hSx _ X') (fun _ => ?_)
      exact h611 x33 x35 x36 x37 x42 x44 x45 x46 (.slice (some ⟨W.heap.size, 0, none⟩) 1 1) x52 (W.alloc (.cells #[.bool false] 4)) (b.trans (bA.mono hsz)) X' (Exists.elim fl fun g h => Exists.elim h fun c h => ⟨g, c, h.1, h.2.later bA⟩) (fk.later bA) (owns_later fw bA) ne (f44.sty (Sty.of_below bA)) (f45.later bA) (N1.made W 4 (.bool false))
  have h511 : ∀ (x33 x35 x36 x37 x42 x44 x45 x46 x51 x52 : Value) (W : World), (Below base w W) → (W.heap[bx]? = some (.cells #[vl, vk, vw, .int .i64 (-1), .bool false, .int .i64 0] 74 (0, 0))) → (∃ g c, x37 = .slice (some ⟨g, 0, none⟩) (k + 1) c ∧ RO W base x37 (k + 1) sig) → (RO W base vk k sig) → (W.ownsRow base 4 1 vw k (List.replicate k (.bool false))) → (∀ g, x37.ownBlock = some g → vk.ownBlock ≠ some g) → (HBT W x44 l) → (N1 W 4 x51 (.bool false)) → wpAnyH Try.prog .any of9a (headPost Try.prog .any of9o Q 27 9) (fun W => W.cell? ⟨bx, 0, none⟩ = some vl ∧ W.cell? ⟨bx, 1, none⟩ = some vk ∧ W.cell? ⟨bx, 2, none⟩ = some vw) 3 #[true, true, true, true, true, true, true, true, true, true, true, true, true, true, true, true, true, true, true, false, false, true, true, true, true, true, false] ⟨List.toArray (t0 :: t1 :: t2 :: t3 :: (.pointer (some ⟨bx, 0, none⟩)) :: t5 :: (.slice p 64 c) :: t7 :: t8 :: t9 :: t10 :: t11 :: t12 :: t13 :: t14 :: t15 :: t16 :: t17 :: t18 :: t19 :: t20 :: t21 :: t22 :: t23 :: t24 :: t25 :: (.pointer (some ⟨bx, 0, none⟩)) :: (.pointer (some ⟨bx, 0, none⟩)) :: (.pointer (some ⟨bx, 0, none⟩)) :: (.pointer (some ⟨bx, 0, none⟩)) :: (.pointer (some ⟨bx, 0, none⟩)) :: (.pointer (some ⟨bx, 0, none⟩)) :: vl :: x33 :: (.slice p 64 c) :: x35 :: x36 :: x37 :: (.pointer (some ⟨bx, 0, none⟩)) :: (.pointer (some ⟨bx, 0, none⟩)) :: (.pointer (some ⟨bx, 1, none⟩)) :: vk :: x42 :: (.slice p 64 c) :: x44 :: x45 :: x46 :: (.pointer (some ⟨bx, 0, none⟩)) :: (.pointer (some ⟨bx, 0, none⟩)) :: (.pointer (some ⟨bx, 2, none⟩)) :: vw :: x51 :: x52 :: t53 :: t54 :: t55 :: t56 :: t57 :: t58 :: t59 :: t60 :: []), ds⟩ W := by
    intro x33 x35 x36 x37 x42 x44 x45 x46 x51 x52 W b X fl fk fw ne f44 f51
    refine wpAnyH_ready (rs := [19]) (by kernel_rfl) (by simp) ?_
    refine AllReadyH.cons (o := ⟨some 45, .buildSlice 36 1 #[(0, .tmp 44)], 36, "ref.go:37", #[⟨18, .data⟩], none⟩) rfl (fun K hK => ?_) AllReadyH.nil
    · obtain ⟨pq, cq, rfl⟩ := f44.1.shape
      go_simp
      have bA := (Below.refl W.heap.size W).alloc (Nat.le_refl _) (.cells #[.slice pq l.length cq] 31)
      have hsz := Nat.le_trans hbase b.size
      have X' : (W.alloc (.cells #[.slice pq l.length cq] 31)).heap[bx]? = some (.cells #[vl, vk, vw, .int .i64 (-1), .bool false, .int .i64 0] 74 (0, 0)) := ((bA.block bx (Array.getElem?_eq_some_iff.1 X).1).trans X)
      refine hK.out _ _ (hSx _ X') (fun _ => ?_)
      exact h611 x33 x35 x36 x37 x42 (.slice pq l.length cq) (.slice (some ⟨W.heap.size, 0, none⟩) 1 1) x46 x51 x52 (W.alloc (.cells #[.slice pq l.length cq] 31)) (b.trans (bA.mono hsz)) X' (Exists.elim fl fun g h => Exists.elim h fun c h => ⟨g, c, h.1, h.2.later bA⟩) (fk.later bA) (owns_later fw bA) ne (f44.sty (Sty.of_below bA)) (N1.made W 31 _) (f51.later bA)
  have h510 : ∀ (x33 x35 x36 x37 x42 x44 x45 x46 x51 x52 : Value) (W : World), (Below base w W) → (W.heap[bx]? = some (.cells #[vl, vk, vw, .int .i64 (-1), .bool false, .int .i64 0] 74 (0, 0))) → (∃ g c, x37 = .slice (some ⟨g, 0, none⟩) (k + 1) c ∧ RO W base x37 (k + 1) sig) → (RO W base vk k sig) → (W.ownsRow base 4 1 vw k (List.replicate k (.bool false))) → (∀ g, x37.ownBlock = some g → vk.ownBlock ≠ some g) → (HBT W x44 l) → wpAnyH Try.prog .any of9a (headPost Try.prog .any of9o Q 27 9) (fun W => W.cell? ⟨bx, 0, none⟩ = some vl ∧ W.cell? ⟨bx, 1, none⟩ = some vk ∧ W.cell? ⟨bx, 2, none⟩ = some vw) 4 #[true, true, true, true, true, true, true, true, true, true, true, true, true, true, true, true, true, true, true, false, false, true, true, true, true, false, false] ⟨List.toArray (t0 :: t1 :: t2 :: t3 :: (.pointer (some ⟨bx, 0, none⟩)) :: t5 :: (.slice p 64 c) :: t7 :: t8 :: t9 :: t10 :: t11 :: t12 :: t13 :: t14 :: t15 :: t16 :: t17 :: t18 :: t19 :: t20 :: t21 :: t22 :: t23 :: t24 :: t25 :: (.pointer (some ⟨bx, 0, none⟩)) :: (.pointer (some ⟨bx, 0, none⟩)) :: (.pointer (some ⟨bx, 0, none⟩)) :: (.pointer (some ⟨bx, 0, none⟩)) :: (.pointer (some ⟨bx, 0, none⟩)) :: (.pointer (some ⟨bx, 0, none⟩)) :: vl :: x33 :: (.slice p 64 c) :: x35 :: x36 :: x37 :: (.pointer (some ⟨bx, 0, none⟩)) :: (.pointer (some ⟨bx, 0, none⟩)) :: (.pointer (some ⟨bx, 1, none⟩)) :: vk :: x42 :: (.slice p 64 c) :: x44 :: x45 :: x46 :: (.pointer (some ⟨bx, 0, none⟩)) :: (.pointer (some ⟨bx, 0, none⟩)) :: (.pointer (some ⟨bx, 2, none⟩)) :: vw :: x51 :: x52 :: t53 :: t54 :: t55 :: t56 :: t57 :: t58 :: t59 :: t60 :: []), ds⟩ W := by
    intro x33 x35 x36 x37 x42 x44 x45 x46 x51 x52 W b X fl fk fw ne f44
    refine wpAnyH_ready (rs := [19, 25]) (by kernel_rfl) (by simp) ?_
    refine AllReadyH.cons (o := ⟨some 45, .buildSlice 36 1 #[(0, .tmp 44)], 36, "ref.go:37", #[⟨18, .data⟩], none⟩) rfl (fun K hK => ?_) (AllReadyH.cons (o := ⟨some 51, .buildSlice 72 1 #[(0, .const (.bool false))], 72, "ref.go:37", #[], none⟩) rfl (fun K hK => ?_) AllReadyH.nil)
    · obtain ⟨pq, cq, rfl⟩ := f44.1.shape
      go_simp
      have bA := (Below.refl W.heap.size W).alloc (Nat.le_refl _) (.cells #[.slice pq l.length cq] 31)
      have hsz := Nat.le_trans hbase b.size
      have X' : (W.alloc (.cells #[.slice pq l.length cq] 31)).heap[bx]? = some (.cells #[vl, vk, vw, .int .i64 (-1), .bool false, .int .i64 0] 74 (0, 0)) := ((bA.block bx (Array.getElem?_eq_some_iff.1 X).1).trans X)
      refine hK.out _ _ (hSx _ X') (fun _ => ?_)
      exact h610 x33 x35 x36 x37 x42 (.slice pq l.length cq) (.slice (some ⟨W.heap.size, 0, none⟩) 1 1) x46 x51 x52 (W.alloc (.cells #[.slice pq l.length cq] 31)) (b.trans (bA.mono hsz)) X' (Exists.elim fl fun g h => Exists.elim h fun c h => ⟨g, c, h.1, h.2.later bA⟩) (fk.later bA) (owns_later fw bA) ne (f44.sty (Sty.of_below bA)) (N1.made W 31 _)
    · go_simp
      have bA := (Below.refl W.heap.size W).alloc (Nat.le_refl _) (.cells #[.bool false] 4)
      have hsz := Nat.le_trans hbase b.size
      have X' : (W.alloc (.cells #[.bool false] 4)).heap[bx]? = some (.cells #[vl, vk, vw, .int .i64 (-1), .bool false, .int .i64 0] 74 (0, 0)) := ((bA.block bx (Array.getElem?_eq_some_iff.1 X).1).trans X)
      refine hK.out _ _ (hSx _ X') (fun _ => ?_)
      exact h511 x33 x35 x36 x37 x42 x44 x45 x46 (.slice (some ⟨W.heap.size, 0, none⟩) 1 1) x52 (W.alloc (.cells #[.bool false] 4)) (b.trans (bA.mono hsz)) X' (Exists.elim fl fun g h => Exists.elim h fun c h => ⟨g, c, h.1, h.2.later bA⟩) (fk.later bA) (owns_later fw bA) ne (f44.sty (Sty.of_below bA)) (N1.made W 4 (.bool false))
  have h411 : ∀ (x33 x35 x36 x37 x42 x44 x45 x46 x51 x52 : Value) (W : World), (Below base w W) → (W.heap[bx]? = some (.cells #[vl, vk, vw, .int .i64 (-1), .bool false, .int .i64 0] 74 (0, 0))) → (∃ g c, x37 = .slice (some ⟨g, 0, none⟩) (k + 1) c ∧ RO W base x37 (k + 1) sig) → (RO W base vk k sig) → (W.ownsRow base 4 1 vw k (List.replicate k (.bool false))) → (∀ g, x37.ownBlock = some g → vk.ownBlock ≠ some g) → (EM W base x42) → (N1 W 4 x51 (.bool false)) → wpAnyH Try.prog .any of9a (headPost Try.prog .any of9o Q 27 9) (fun W => W.cell? ⟨bx, 0, none⟩ = some vl ∧ W.cell? ⟨bx, 1, none⟩ = some vk ∧ W.cell? ⟨bx, 2, none⟩ = some vw) 4 #[true, true, true, true, true, true, true, true, true, true, true, true, true, true, true, true, true, true, false, false, false, true, true, true, true, true, false] ⟨List.toArray (t0 :: t1 :: t2 :: t3 :: (.pointer (some ⟨bx, 0, none⟩)) :: t5 :: (.slice p 64 c) :: t7 :: t8 :: t9 :: t10 :: t11 :: t12 :: t13 :: t14 :: t15 :: t16 :: t17 :: t18 :: t19 :: t20 :: t21 :: t22 :: t23 :: t24 :: t25 :: (.pointer (some ⟨bx, 0, none⟩)) :: (.pointer (some ⟨bx, 0, none⟩)) :: (.pointer (some ⟨bx, 0, none⟩)) :: (.pointer (some ⟨bx, 0, none⟩)) :: (.pointer (some ⟨bx, 0, none⟩)) :: (.pointer (some ⟨bx, 0, none⟩)) :: vl :: x33 :: (.slice p 64 c) :: x35 :: x36 :: x37 :: (.pointer (some ⟨bx, 0, none⟩)) :: (.pointer (some ⟨bx, 0, none⟩)) :: (.pointer (some ⟨bx, 1, none⟩)) :: vk :: x42 :: (.slice p 64 c) :: x44 :: x45 :: x46 :: (.pointer (some ⟨bx, 0, none⟩)) :: (.pointer (some ⟨bx, 0, none⟩)) :: (.pointer (some ⟨bx, 2, none⟩)) :: vw :: x51 :: x52 :: t53 :: t54 :: t55 :: t56 :: t57 :: t58 :: t59 :: t60 :: []), ds⟩ W := by
    intro x33 x35 x36 x37 x42 x44 x45 x46 x51 x52 W b X fl fk fw ne f42 f51
    refine wpAnyH_ready (rs := [18]) (by kernel_rfl) (by simp) ?_
    refine AllReadyH.cons (o := ⟨some 44, .call { callee := .builtin .append, args := #[.tmp 42, .tmp 43], argTypes := #[31, 31] }, 31, "ref.go:37", #[⟨16, .data⟩, ⟨17, .data⟩, ⟨11, .chain⟩], none⟩) rfl (fun K hK => ?_) AllReadyH.nil
    · have hsz := Nat.le_trans hbase b.size
      refine step_append_any (by rfl) _ _ _ (by rfl) base 5 Try.underlying31 i_u8 _ 0 (bcs []) (by rfl) f42.owns p 64 c l (by rfl) (hbAt W b) (by omega) hsz ?_
      intro v' W' ow gr
      have hem := f42
      have tR : Sty 74 W W' := Sty.of_grown hem.owns gr (by decide)
      have tB : Sty 4 W W' := Sty.of_grown hem.owns gr (by decide)
      have tY : Sty 31 W W' := Sty.of_grown hem.owns gr (by decide)
      have b' : Below base w W' := b.grown gr hsz (fun q hq => by obtain ⟨g, rfl, _, hg⟩ := hem; cases hq; exact hg)
      have hv' : HBT W' v' l := HBT.of_owns (n := 64) (by simpa [bcs] using ow)
      have X' : W'.heap[bx]? = some (.cells #[vl, vk, vw, .int .i64 (-1), .bool false, .int .i64 0] 74 (0, 0)) := (tR _ _ _ X)
      refine hK.out _ _ (hSx _ X') (fun _ => ?_)
      exact h511 x33 x35 x36 x37 x42 v' x45 x46 x51 x52 W' b' X' (Exists.elim fl fun g h => Exists.elim h fun c h => ⟨g, c, h.1, h.2.em hs1 hem gr⟩) (fk.em hs0 hem gr) (owns_sty fw tB) ne hv' (f51.sty tB)
  have h410 : ∀ (x33 x35 x36 x37 x42 x44 x45 x46 x51 x52 : Value) (W : World), (Below base w W) → (W.heap[bx]? = some (.cells #[vl, vk, vw, .int .i64 (-1), .bool false, .int .i64 0] 74 (0, 0))) → (∃ g c, x37 = .slice (some ⟨g, 0, none⟩) (k + 1) c ∧ RO W base x37 (k + 1) sig) → (RO W base vk k sig) → (W.ownsRow base 4 1 vw k (List.replicate k (.bool false))) → (∀ g, x37.ownBlock = some g → vk.ownBlock ≠ some g) → (EM W base x42) → wpAnyH Try.prog .any of9a (headPost Try.prog .any of9o Q 27 9) (fun W => W.cell? ⟨bx, 0, none⟩ = some vl ∧ W.cell? ⟨bx, 1, none⟩ = some vk ∧ W.cell? ⟨bx, 2, none⟩ = some vw) 5 #[true, true, true, true, true, true, true, true, true, true, true, true, true, true, true, true, true, true, false, false, false, true, true, true, true, false, false] ⟨List.toArray (t0 :: t1 :: t2 :: t3 :: (.pointer (some ⟨bx, 0, none⟩)) :: t5 :: (.slice p 64 c) :: t7 :: t8 :: t9 :: t10 :: t11 :: t12 :: t13 :: t14 :: t15 :: t16 :: t17 :: t18 :: t19 :: t20 :: t21 :: t22 :: t23 :: t24 :: t25 :: (.pointer (some ⟨bx, 0, none⟩)) :: (.pointer (some ⟨bx, 0, none⟩)) :: (.pointer (some ⟨bx, 0, none⟩)) :: (.pointer (some ⟨bx, 0, none⟩)) :: (.pointer (some ⟨bx, 0, none⟩)) :: (.pointer (some ⟨bx, 0, none⟩)) :: vl :: x33 :: (.slice p 64 c) :: x35 :: x36 :: x37 :: (.pointer (some ⟨bx, 0, none⟩)) :: (.pointer (some ⟨bx, 0, none⟩)) :: (.pointer (some ⟨bx, 1, none⟩)) :: vk :: x42 :: (.slice p 64 c) :: x44 :: x45 :: x46 :: (.pointer (some ⟨bx, 0, none⟩)) :: (.pointer (some ⟨bx, 0, none⟩)) :: (.pointer (some ⟨bx, 2, none⟩)) :: vw :: x51 :: x52 :: t53 :: t54 :: t55 :: t56 :: t57 :: t58 :: t59 :: t60 :: []), ds⟩ W := by
    intro x33 x35 x36 x37 x42 x44 x45 x46 x51 x52 W b X fl fk fw ne f42
    refine wpAnyH_ready (rs := [18, 25]) (by kernel_rfl) (by simp) ?_
    refine AllReadyH.cons (o := ⟨some 44, .call { callee := .builtin .append, args := #[.tmp 42, .tmp 43], argTypes := #[31, 31] }, 31, "ref.go:37", #[⟨16, .data⟩, ⟨17, .data⟩, ⟨11, .chain⟩], none⟩) rfl (fun K hK => ?_) (AllReadyH.cons (o := ⟨some 51, .buildSlice 72 1 #[(0, .const (.bool false))], 72, "ref.go:37", #[], none⟩) rfl (fun K hK => ?_) AllReadyH.nil)
    · have hsz := Nat.le_trans hbase b.size
      refine step_append_any (by rfl) _ _ _ (by rfl) base 5 Try.underlying31 i_u8 _ 0 (bcs []) (by rfl) f42.owns p 64 c l (by rfl) (hbAt W b) (by omega) hsz ?_
      intro v' W' ow gr
      have hem := f42
      have tR : Sty 74 W W' := Sty.of_grown hem.owns gr (by decide)
      have tB : Sty 4 W W' := Sty.of_grown hem.owns gr (by decide)
      have tY : Sty 31 W W' := Sty.of_grown hem.owns gr (by decide)
      have b' : Below base w W' := b.grown gr hsz (fun q hq => by obtain ⟨g, rfl, _, hg⟩ := hem; cases hq; exact hg)
      have hv' : HBT W' v' l := HBT.of_owns (n := 64) (by simpa [bcs] using ow)
      have X' : W'.heap[bx]? = some (.cells #[vl, vk, vw, .int .i64 (-1), .bool false, .int .i64 0] 74 (0, 0)) := (tR _ _ _ X)
      refine hK.out _ _ (hSx _ X') (fun _ => ?_)
      exact h510 x33 x35 x36 x37 x42 v' x45 x46 x51 x52 W' b' X' (Exists.elim fl fun g h => Exists.elim h fun c h => ⟨g, c, h.1, h.2.em hs1 hem gr⟩) (fk.em hs0 hem gr) (owns_sty fw tB) ne hv'
    · go_simp
      have bA := (Below.refl W.heap.size W).alloc (Nat.le_refl _) (.cells #[.bool false] 4)
      have hsz := Nat.le_trans hbase b.size
      have X' : (W.alloc (.cells #[.bool false] 4)).heap[bx]? = some (.cells #[vl, vk, vw, .int .i64 (-1), .bool false, .int .i64 0] 74 (0, 0)) := ((bA.block bx (Array.getElem?_eq_some_iff.1 X).1).trans X)
      refine hK.out _ _ (hSx _ X') (fun _ => ?_)
      exact h411 x33 x35 x36 x37 x42 x44 x45 x46 (.slice (some ⟨W.heap.size, 0, none⟩) 1 1) x52 (W.alloc (.cells #[.bool false] 4)) (b.trans (bA.mono hsz)) X' (Exists.elim fl fun g h => Exists.elim h fun c h => ⟨g, c, h.1, h.2.later bA⟩) (fk.later bA) (owns_later fw bA) ne (f42.later bA) (N1.made W 4 (.bool false))
  have h401 : ∀ (x33 x35 x36 x37 x42 x44 x45 x46 x51 x52 : Value) (W : World), (Below base w W) → (W.heap[bx]? = some (.cells #[vl, vk, vw, .int .i64 (-1), .bool false, .int .i64 0] 74 (0, 0))) → (∃ g c, x37 = .slice (some ⟨g, 0, none⟩) (k + 1) c ∧ RO W base x37 (k + 1) sig) → (RO W base vk k sig) → (W.ownsRow base 4 1 vw k (List.replicate k (.bool false))) → (∀ g, x37.ownBlock = some g → vk.ownBlock ≠ some g) → (N1 W 4 x51 (.bool false)) → wpAnyH Try.prog .any of9a (headPost Try.prog .any of9o Q 27 9) (fun W => W.cell? ⟨bx, 0, none⟩ = some vl ∧ W.cell? ⟨bx, 1, none⟩ = some vk ∧ W.cell? ⟨bx, 2, none⟩ = some vw) 5 #[true, true, true, true, true, true, true, true, true, true, true, true, true, true, true, true, false, true, false, false, false, true, true, true, true, true, false] ⟨List.toArray (t0 :: t1 :: t2 :: t3 :: (.pointer (some ⟨bx, 0, none⟩)) :: t5 :: (.slice p 64 c) :: t7 :: t8 :: t9 :: t10 :: t11 :: t12 :: t13 :: t14 :: t15 :: t16 :: t17 :: t18 :: t19 :: t20 :: t21 :: t22 :: t23 :: t24 :: t25 :: (.pointer (some ⟨bx, 0, none⟩)) :: (.pointer (some ⟨bx, 0, none⟩)) :: (.pointer (some ⟨bx, 0, none⟩)) :: (.pointer (some ⟨bx, 0, none⟩)) :: (.pointer (some ⟨bx, 0, none⟩)) :: (.pointer (some ⟨bx, 0, none⟩)) :: vl :: x33 :: (.slice p 64 c) :: x35 :: x36 :: x37 :: (.pointer (some ⟨bx, 0, none⟩)) :: (.pointer (some ⟨bx, 0, none⟩)) :: (.pointer (some ⟨bx, 1, none⟩)) :: vk :: x42 :: (.slice p 64 c) :: x44 :: x45 :: x46 :: (.pointer (some ⟨bx, 0, none⟩)) :: (.pointer (some ⟨bx, 0, none⟩)) :: (.pointer (some ⟨bx, 2, none⟩)) :: vw :: x51 :: x52 :: t53 :: t54 :: t55 :: t56 :: t57 :: t58 :: t59 :: t60 :: []), ds⟩ W := by
    intro x33 x35 x36 x37 x42 x44 x45 x46 x51 x52 W b X fl fk fw ne f51
    refine wpAnyH_ready (rs := [16]) (by kernel_rfl) (by simp) ?_
    refine AllReadyH.cons (o := ⟨some 42, .buildSlice 31 0 #[], 31, "ref.go:37", #[], none⟩) rfl (fun K hK => ?_) AllReadyH.nil
    · go_simp
      have bA := (Below.refl W.heap.size W).alloc (Nat.le_refl _) (.cells #[] 5)
      have hsz := Nat.le_trans hbase b.size
      have X' : (W.alloc (.cells #[] 5)).heap[bx]? = some (.cells #[vl, vk, vw, .int .i64 (-1), .bool false, .int .i64 0] 74 (0, 0)) := ((bA.block bx (Array.getElem?_eq_some_iff.1 X).1).trans X)
      refine hK.out _ _ (hSx _ X') (fun _ => ?_)
      exact h411 x33 x35 x36 x37 (.slice (some ⟨W.heap.size, 0, none⟩) 0 0) x44 x45 x46 x51 x52 (W.alloc (.cells #[] 5)) (b.trans (bA.mono hsz)) X' (Exists.elim fl fun g h => Exists.elim h fun c h => ⟨g, c, h.1, h.2.later bA⟩) (fk.later bA) (owns_later fw bA) ne (EM.made W base hsz) (f51.later bA)
  have h400 : ∀ (x33 x35 x36 x37 x42 x44 x45 x46 x51 x52 : Value) (W : World), (Below base w W) → (W.heap[bx]? = some (.cells #[vl, vk, vw, .int .i64 (-1), .bool false, .int .i64 0] 74 (0, 0))) → (∃ g c, x37 = .slice (some ⟨g, 0, none⟩) (k + 1) c ∧ RO W base x37 (k + 1) sig) → (RO W base vk k sig) → (W.ownsRow base 4 1 vw k (List.replicate k (.bool false))) → (∀ g, x37.ownBlock = some g → vk.ownBlock ≠ some g) → wpAnyH Try.prog .any of9a (headPost Try.prog .any of9o Q 27 9) (fun W => W.cell? ⟨bx, 0, none⟩ = some vl ∧ W.cell? ⟨bx, 1, none⟩ = some vk ∧ W.cell? ⟨bx, 2, none⟩ = some vw) 6 #[true, true, true, true, true, true, true, true, true, true, true, true, true, true, true, true, false, true, false, false, false, true, true, true, true, false, false] ⟨List.toArray (t0 :: t1 :: t2 :: t3 :: (.pointer (some ⟨bx, 0, none⟩)) :: t5 :: (.slice p 64 c) :: t7 :: t8 :: t9 :: t10 :: t11 :: t12 :: t13 :: t14 :: t15 :: t16 :: t17 :: t18 :: t19 :: t20 :: t21 :: t22 :: t23 :: t24 :: t25 :: (.pointer (some ⟨bx, 0, none⟩)) :: (.pointer (some ⟨bx, 0, none⟩)) :: (.pointer (some ⟨bx, 0, none⟩)) :: (.pointer (some ⟨bx, 0, none⟩)) :: (.pointer (some ⟨bx, 0, none⟩)) :: (.pointer (some ⟨bx, 0, none⟩)) :: vl :: x33 :: (.slice p 64 c) :: x35 :: x36 :: x37 :: (.pointer (some ⟨bx, 0, none⟩)) :: (.pointer (some ⟨bx, 0, none⟩)) :: (.pointer (some ⟨bx, 1, none⟩)) :: vk :: x42 :: (.slice p 64 c) :: x44 :: x45 :: x46 :: (.pointer (some ⟨bx, 0, none⟩)) :: (.pointer (some ⟨bx, 0, none⟩)) :: (.pointer (some ⟨bx, 2, none⟩)) :: vw :: x51 :: x52 :: t53 :: t54 :: t55 :: t56 :: t57 :: t58 :: t59 :: t60 :: []), ds⟩ W := by
    intro x33 x35 x36 x37 x42 x44 x45 x46 x51 x52 W b X fl fk fw ne
    refine wpAnyH_ready (rs := [16, 25]) (by kernel_rfl) (by simp) ?_
    refine AllReadyH.cons (o := ⟨some 42, .buildSlice 31 0 #[], 31, "ref.go:37", #[], none⟩) rfl (fun K hK => ?_) (AllReadyH.cons (o := ⟨some 51, .buildSlice 72 1 #[(0, .const (.bool false))], 72, "ref.go:37", #[], none⟩) rfl (fun K hK => ?_) AllReadyH.nil)
    · go_simp
      have bA := (Below.refl W.heap.size W).alloc (Nat.le_refl _) (.cells #[] 5)
      have hsz := Nat.le_trans hbase b.size
      have X' : (W.alloc (.cells #[] 5)).heap[bx]? = some (.cells #[vl, vk, vw, .int .i64 (-1), .bool false, .int .i64 0] 74 (0, 0)) := ((bA.block bx (Array.getElem?_eq_some_iff.1 X).1).trans X)
      refine hK.out _ _ (hSx _ X') (fun _ => ?_)
      exact h410 x33 x35 x36 x37 (.slice (some ⟨W.heap.size, 0, none⟩) 0 0) x44 x45 x46 x51 x52 (W.alloc (.cells #[] 5)) (b.trans (bA.mono hsz)) X' (Exists.elim fl fun g h => Exists.elim h fun c h => ⟨g, c, h.1, h.2.later bA⟩) (fk.later bA) (owns_later fw bA) ne (EM.made W base hsz)
    · go_simp
      have bA := (Below.refl W.heap.size W).alloc (Nat.le_refl _) (.cells #[.bool false] 4)
      have hsz := Nat.le_trans hbase b.size
      have X' : (W.alloc (.cells #[.bool false] 4)).heap[bx]? = some (.cells #[vl, vk, vw, .int .i64 (-1), .bool false, .int .i64 0] 74 (0, 0)) := ((bA.block bx (Array.getElem?_eq_some_iff.1 X).1).trans X)
      refine hK.out _ _ (hSx _ X') (fun _ => ?_)
      exact h401 x33 x35 x36 x37 x42 x44 x45 x46 (.slice (some ⟨W.heap.size, 0, none⟩) 1 1) x52 (W.alloc (.cells #[.bool false] 4)) (b.trans (bA.mono hsz)) X' (Exists.elim fl fun g h => Exists.elim h fun c h => ⟨g, c, h.1, h.2.later bA⟩) (fk.later bA) (owns_later fw bA) ne (N1.made W 4 (.bool false))
  have h311 : ∀ (x33 x35 x36 x37 x42 x44 x45 x46 x51 x52 : Value) (W : World), (Below base w W) → (W.heap[bx]? = some (.cells #[vl, vk, vw, .int .i64 (-1), .bool false, .int .i64 0] 74 (0, 0))) → (RO W base vl k sig) → (RO W base vk k sig) → (W.ownsRow base 4 1 vw k (List.replicate k (.bool false))) → (HBT W x35 l) → (N1 W 31 x36 x35) → (EM W base x42) → (N1 W 4 x51 (.bool false)) → wpAnyH Try.prog .any of9a (headPost Try.prog .any of9o Q 27 9) (fun W => W.cell? ⟨bx, 0, none⟩ = some vl ∧ W.cell? ⟨bx, 1, none⟩ = some vk ∧ W.cell? ⟨bx, 2, none⟩ = some vw) 5 #[true, true, true, true, true, true, true, true, true, true, true, false, true, true, true, true, true, true, false, false, false, true, true, true, true, true, false] ⟨List.toArray (t0 :: t1 :: t2 :: t3 :: (.pointer (some ⟨bx, 0, none⟩)) :: t5 :: (.slice p 64 c) :: t7 :: t8 :: t9 :: t10 :: t11 :: t12 :: t13 :: t14 :: t15 :: t16 :: t17 :: t18 :: t19 :: t20 :: t21 :: t22 :: t23 :: t24 :: t25 :: (.pointer (some ⟨bx, 0, none⟩)) :: (.pointer (some ⟨bx, 0, none⟩)) :: (.pointer (some ⟨bx, 0, none⟩)) :: (.pointer (some ⟨bx, 0, none⟩)) :: (.pointer (some ⟨bx, 0, none⟩)) :: (.pointer (some ⟨bx, 0, none⟩)) :: vl :: x33 :: (.slice p 64 c) :: x35 :: x36 :: x37 :: (.pointer (some ⟨bx, 0, none⟩)) :: (.pointer (some ⟨bx, 0, none⟩)) :: (.pointer (some ⟨bx, 1, none⟩)) :: vk :: x42 :: (.slice p 64 c) :: x44 :: x45 :: x46 :: (.pointer (some ⟨bx, 0, none⟩)) :: (.pointer (some ⟨bx, 0, none⟩)) :: (.pointer (some ⟨bx, 2, none⟩)) :: vw :: x51 :: x52 :: t53 :: t54 :: t55 :: t56 :: t57 :: t58 :: t59 :: t60 :: []), ds⟩ W := by
    intro x33 x35 x36 x37 x42 x44 x45 x46 x51 x52 W b X fl fk fw f35 f36 f42 f51
    refine wpAnyH_ready (rs := [11]) (by kernel_rfl) (by simp) ?_
    refine AllReadyH.cons (o := ⟨some 37, .call { callee := .builtin .append, args := #[.tmp 32, .tmp 36], argTypes := #[36, 36] }, 36, "ref.go:37", #[⟨6, .data⟩, ⟨10, .data⟩, ⟨9, .chain⟩], none⟩) rfl (fun K hK => ?_) AllReadyH.nil
    · have hsz := Nat.le_trans hbase b.size
      obtain ⟨vs, r1, r2⟩ := fl
      obtain ⟨gn, rfl, hgn⟩ := f36
      obtain ⟨i0, hi0, hz0, hz1, hz2⟩ := info_parts i_byt
      obtain ⟨pq, cq, rfl⟩ := f35.1.shape
      refine step_append_lies _ (by rfl) _ _ _ (by rfl) base 31 i0 _ 1 24 Try.underlying36 hi0 hz0 hz1 hz2 rfl (by omega) _ k vs (by rfl) r1 ⟨gn, 0, none⟩ 1 1 [.slice pq l.length cq] (by rfl) (by rfl) (World.news_of_block hgn) (by simp [Value.oneCell']) (by omega) (by unfold maxLen; omega) (by omega) hsz W.heap.size rfl ?_
      intro g cap W' ow gr hat hlt
      have tR : Sty 74 W W' := Sty.of_grown r1 gr (by decide)
      have tB : Sty 4 W W' := Sty.of_grown r1 gr (by decide)
      have tU : Sty 5 W W' := Sty.of_grown r1 gr (by decide)
      have b' : Below base w W' := b.grown gr hsz (fun q hq => (r1.lt q hq).1)
      have hn' : RO W' base (.slice (some ⟨g, 0, none⟩) (k + 1) cap) (k + 1) sig := RO.snoc r1 r2 (by rw [hlen]; exact f35) gr ow
      have X' : W'.heap[bx]? = some (.cells #[vl, vk, vw, .int .i64 (-1), .bool false, .int .i64 0] 74 (0, 0)) := (tR _ _ _ X)
      refine hK.out _ _ (hSx _ X') (fun _ => ?_)
      exact h411 x33 (.slice pq l.length cq) (.slice (some ⟨gn, 0, none⟩) 1 1) (.slice (some ⟨g, 0, none⟩) (k + 1) cap) x42 x44 x45 x46 x51 x52 W' b' X' ⟨g, cap, rfl, hn'⟩ (fk.other r1 hne gr) (owns_sty fw tB) (fun q hq => by obtain ⟨us, o1, _⟩ := fk; simp only [Value.ownBlock, Option.some.injEq] at hq; subst hq; exact row_ne o1 hne hat) (f42.sty tU) (f51.sty tB)
  have h310 : ∀ (x33 x35 x36 x37 x42 x44 x45 x46 x51 x52 : Value) (W : World), (Below base w W) → (W.heap[bx]? = some (.cells #[vl, vk, vw, .int .i64 (-1), .bool false, .int .i64 0] 74 (0, 0))) → (RO W base vl k sig) → (RO W base vk k sig) → (W.ownsRow base 4 1 vw k (List.replicate k (.bool false))) → (HBT W x35 l) → (N1 W 31 x36 x35) → (EM W base x42) → wpAnyH Try.prog .any of9a (headPost Try.prog .any of9o Q 27 9) (fun W => W.cell? ⟨bx, 0, none⟩ = some vl ∧ W.cell? ⟨bx, 1, none⟩ = some vk ∧ W.cell? ⟨bx, 2, none⟩ = some vw) 6 #[true, true, true, true, true, true, true, true, true, true, true, false, true, true, true, true, true, true, false, false, false, true, true, true, true, false, false] ⟨List.toArray (t0 :: t1 :: t2 :: t3 :: (.pointer (some ⟨bx, 0, none⟩)) :: t5 :: (.slice p 64 c) :: t7 :: t8 :: t9 :: t10 :: t11 :: t12 :: t13 :: t14 :: t15 :: t16 :: t17 :: t18 :: t19 :: t20 :: t21 :: t22 :: t23 :: t24 :: t25 :: (.pointer (some ⟨bx, 0, none⟩)) :: (.pointer (some ⟨bx, 0, none⟩)) :: (.pointer (some ⟨bx, 0, none⟩)) :: (.pointer (some ⟨bx, 0, none⟩)) :: (.pointer (some ⟨bx, 0, none⟩)) :: (.pointer (some ⟨bx, 0, none⟩)) :: vl :: x33 :: (.slice p 64 c) :: x35 :: x36 :: x37 :: (.pointer (some ⟨bx, 0, none⟩)) :: (.pointer (some ⟨bx, 0, none⟩)) :: (.pointer (some ⟨bx, 1, none⟩)) :: vk :: x42 :: (.slice p 64 c) :: x44 :: x45 :: x46 :: (.pointer (some ⟨bx, 0, none⟩)) :: (.pointer (some ⟨bx, 0, none⟩)) :: (.pointer (some ⟨bx, 2, none⟩)) :: vw :: x51 :: x52 :: t53 :: t54 :: t55 :: t56 :: t57 :: t58 :: t59 :: t60 :: []), ds⟩ W := by
    intro x33 x35 x36 x37 x42 x44 x45 x46 x51 x52 W b X fl fk fw f35 f36 f42
    refine wpAnyH_ready (rs := [11, 25]) (by kernel_rfl) (by simp) ?_
    refine AllReadyH.cons (o := ⟨some 37, .call { callee := .builtin .append, args := #[.tmp 32, .tmp 36], argTypes := #[36, 36] }, 36, "ref.go:37", #[⟨6, .data⟩, ⟨10, .data⟩, ⟨9, .chain⟩], none⟩) rfl (fun K hK => ?_) (AllReadyH.cons (o := ⟨some 51, .buildSlice 72 1 #[(0, .const (.bool false))], 72, "ref.go:37", #[], none⟩) rfl (fun K hK => ?_) AllReadyH.nil)
    · have hsz := Nat.le_trans hbase b.size
      obtain ⟨vs, r1, r2⟩ := fl
      obtain ⟨gn, rfl, hgn⟩ := f36
      obtain ⟨i0, hi0, hz0, hz1, hz2⟩ := info_parts i_byt
      obtain ⟨pq, cq, rfl⟩ := f35.1.shape
      refine step_append_lies _ (by rfl) _ _ _ (by rfl) base 31 i0 _ 1 24 Try.underlying36 hi0 hz0 hz1 hz2 rfl (by omega) _ k vs (by rfl) r1 ⟨gn, 0, none⟩ 1 1 [.slice pq l.length cq] (by rfl) (by rfl) (World.news_of_block hgn) (by simp [Value.oneCell']) (by omega) (by unfold maxLen; omega) (by omega) hsz W.heap.size rfl ?_
      intro g cap W' ow gr hat hlt
      have tR : Sty 74 W W' := Sty.of_grown r1 gr (by decide)
      have tB : Sty 4 W W' := Sty.of_grown r1 gr (by decide)
      have tU : Sty 5 W W' := Sty.of_grown r1 gr (by decide)
      have b' : Below base w W' := b.grown gr hsz (fun q hq => (r1.lt q hq).1)
      have hn' : RO W' base (.slice (some ⟨g, 0, none⟩) (k + 1) cap) (k + 1) sig := RO.snoc r1 r2 (by rw [hlen]; exact f35) gr ow
      have X' : W'.heap[bx]? = some (.cells #[vl, vk, vw, .int .i64 (-1), .bool false, .int .i64 0] 74 (0, 0)) := (tR _ _ _ X)
      refine hK.out _ _ (hSx _ X') (fun _ => ?_)
      exact h410 x33 (.slice pq l.length cq) (.slice (some ⟨gn, 0, none⟩) 1 1) (.slice (some ⟨g, 0, none⟩) (k + 1) cap) x42 x44 x45 x46 x51 x52 W' b' X' ⟨g, cap, rfl, hn'⟩ (fk.other r1 hne gr) (owns_sty fw tB) (fun q hq => by obtain ⟨us, o1, _⟩ := fk; simp only [Value.ownBlock, Option.some.injEq] at hq; subst hq; exact row_ne o1 hne hat) (f42.sty tU)
    · go_simp
      have bA := (Below.refl W.heap.size W).alloc (Nat.le_refl _) (.cells #[.bool false] 4)
      have hsz := Nat.le_trans hbase b.size
      have X' : (W.alloc (.cells #[.bool false] 4)).heap[bx]? = some (.cells #[vl, vk, vw, .int .i64 (-1), .bool false, .int .i64 0] 74 (0, 0)) := ((bA.block bx (Array.getElem?_eq_some_iff.1 X).1).trans X)
      refine hK.out _ _ (hSx _ X') (fun _ => ?_)
      exact h311 x33 x35 x36 x37 x42 x44 x45 x46 (.slice (some ⟨W.heap.size, 0, none⟩) 1 1) x52 (W.alloc (.cells #[.bool false] 4)) (b.trans (bA.mono hsz)) X' (fl.later bA) (fk.later bA) (owns_later fw bA) (f35.sty (Sty.of_below bA)) (f36.later bA) (f42.later bA) (N1.made W 4 (.bool false))
  have h301 : ∀ (x33 x35 x36 x37 x42 x44 x45 x46 x51 x52 : Value) (W : World), (Below base w W) → (W.heap[bx]? = some (.cells #[vl, vk, vw, .int .i64 (-1), .bool false, .int .i64 0] 74 (0, 0))) → (RO W base vl k sig) → (RO W base vk k sig) → (W.ownsRow base 4 1 vw k (List.replicate k (.bool false))) → (HBT W x35 l) → (N1 W 31 x36 x35) → (N1 W 4 x51 (.bool false)) → wpAnyH Try.prog .any of9a (headPost Try.prog .any of9o Q 27 9) (fun W => W.cell? ⟨bx, 0, none⟩ = some vl ∧ W.cell? ⟨bx, 1, none⟩ = some vk ∧ W.cell? ⟨bx, 2, none⟩ = some vw) 6 #[true, true, true, true, true, true, true, true, true, true, true, false, true, true, true, true, false, true, false, false, false, true, true, true, true, true, false] ⟨List.toArray (t0 :: t1 :: t2 :: t3 :: (.pointer (some ⟨bx, 0, none⟩)) :: t5 :: (.slice p 64 c) :: t7 :: t8 :: t9 :: t10 :: t11 :: t12 :: t13 :: t14 :: t15 :: t16 :: t17 :: t18 :: t19 :: t20 :: t21 :: t22 :: t23 :: t24 :: t25 :: (.pointer (some ⟨bx, 0, none⟩)) :: (.pointer (some ⟨bx, 0, none⟩)) :: (.pointer (some ⟨bx, 0, none⟩)) :: (.pointer (some ⟨bx, 0, none⟩)) :: (.pointer (some ⟨bx, 0, none⟩)) :: (.pointer (some ⟨bx, 0, none⟩)) :: vl :: x33 :: (.slice p 64 c) :: x35 :: x36 :: x37 :: (.pointer (some ⟨bx, 0, none⟩)) :: (.pointer (some ⟨bx, 0, none⟩)) :: (.pointer (some ⟨bx, 1, none⟩)) :: vk :: x42 :: (.slice p 64 c) :: x44 :: x45 :: x46 :: (.pointer (some ⟨bx, 0, none⟩)) :: (.pointer (some ⟨bx, 0, none⟩)) :: (.pointer (some ⟨bx, 2, none⟩)) :: vw :: x51 :: x52 :: t53 :: t54 :: t55 :: t56 :: t57 :: t58 :: t59 :: t60 :: []), ds⟩ W := by
    intro x33 x35 x36 x37 x42 x44 x45 x46 x51 x52 W b X fl fk fw f35 f36 f51
    refine wpAnyH_ready (rs := [11, 16]) (by kernel_rfl) (by simp) ?_
    refine AllReadyH.cons (o := ⟨some 37, .call { callee := .builtin .append, args := #[.tmp 32, .tmp 36], argTypes := #[36, 36] }, 36, "ref.go:37", #[⟨6, .data⟩, ⟨10, .data⟩, ⟨9, .chain⟩], none⟩) rfl (fun K hK => ?_) (AllReadyH.cons (o := ⟨some 42, .buildSlice 31 0 #[], 31, "ref.go:37", #[], none⟩) rfl (fun K hK => ?_) AllReadyH.nil)
    · have hsz := Nat.le_trans hbase b.size
      obtain ⟨vs, r1, r2⟩ := fl
      obtain ⟨gn, rfl, hgn⟩ := f36
      obtain ⟨i0, hi0, hz0, hz1, hz2⟩ := info_parts i_byt
      obtain ⟨pq, cq, rfl⟩ := f35.1.shape
      refine step_append_lies _ (by rfl) _ _ _ (by rfl) base 31 i0 _ 1 24 Try.underlying36 hi0 hz0 hz1 hz2 rfl (by omega) _ k vs (by rfl) r1 ⟨gn, 0, none⟩ 1 1 [.slice pq l.length cq] (by rfl) (by rfl) (World.news_of_block hgn) (by simp [Value.oneCell']) (by omega) (by unfold maxLen; omega) (by omega) hsz W.heap.size rfl ?_
      intro g cap W' ow gr hat hlt
      have tR : Sty 74 W W' := Sty.of_grown r1 gr (by decide)
      have tB : Sty 4 W W' := Sty.of_grown r1 gr (by decide)
      have tU : Sty 5 W W' := Sty.of_grown r1 gr (by decide)
      have b' : Below base w W' := b.grown gr hsz (fun q hq => (r1.lt q hq).1)
      have hn' : RO W' base (.slice (some ⟨g, 0, none⟩) (k + 1) cap) (k + 1) sig := RO.snoc r1 r2 (by rw [hlen]; exact f35) gr ow
      have X' : W'.heap[bx]? = some (.cells #[vl, vk, vw, .int .i64 (-1), .bool false, .int .i64 0] 74 (0, 0)) := (tR _ _ _ X)
      refine hK.out _ _ (hSx _ X') (fun _ => ?_)
      exact h401 x33 (.slice pq l.length cq) (.slice (some ⟨gn, 0, none⟩) 1 1) (.slice (some ⟨g, 0, none⟩) (k + 1) cap) x42 x44 x45 x46 x51 x52 W' b' X' ⟨g, cap, rfl, hn'⟩ (fk.other r1 hne gr) (owns_sty fw tB) (fun q hq => by obtain ⟨us, o1, _⟩ := fk; simp only [Value.ownBlock, Option.some.injEq] at hq; subst hq; exact row_ne o1 hne hat) (f51.sty tB)
    · go_simp
      have bA := (Below.refl W.heap.size W).alloc (Nat.le_refl _) (.cells #[] 5)
      have hsz := Nat.le_trans hbase b.size
      have X' : (W.alloc (.cells #[] 5)).heap[bx]? = some (.cells #[vl, vk, vw, .int .i64 (-1), .bool false, .int .i64 0] 74 (0, 0)) := ((bA.block bx (Array.getElem?_eq_some_iff.1 X).1).trans X)
      refine hK.out _ _ (hSx _ X') (fun _ => ?_)
      exact h311 x33 x35 x36 x37 (.slice (some ⟨W.heap.size, 0, none⟩) 0 0) x44 x45 x46 x51 x52 (W.alloc (.cells #[] 5)) (b.trans (bA.mono hsz)) X' (fl.later bA) (fk.later bA) (owns_later fw bA) (f35.sty (Sty.of_below bA)) (f36.later bA) (EM.made W base hsz) (f51.later bA)
  have h300 : ∀ (x33 x35 x36 x37 x42 x44 x45 x46 x51 x52 : Value) (W : World), (Below base w W) → (W.heap[bx]? = some (.cells #[vl, vk, vw, .int .i64 (-1), .bool false, .int .i64 0] 74 (0, 0))) → (RO W base vl k sig) → (RO W base vk k sig) → (W.ownsRow base 4 1 vw k (List.replicate k (.bool false))) → (HBT W x35 l) → (N1 W 31 x36 x35) → wpAnyH Try.prog .any of9a (headPost Try.prog .any of9o Q 27 9) (fun W => W.cell? ⟨bx, 0, none⟩ = some vl ∧ W.cell? ⟨bx, 1, none⟩ = some vk ∧ W.cell? ⟨bx, 2, none⟩ = some vw) 7 #[true, true, true, true, true, true, true, true, true, true, true, false, true, true, true, true, false, true, false, false, false, true, true, true, true, false, false] ⟨List.toArray (t0 :: t1 :: t2 :: t3 :: (.pointer (some ⟨bx, 0, none⟩)) :: t5 :: (.slice p 64 c) :: t7 :: t8 :: t9 :: t10 :: t11 :: t12 :: t13 :: t14 :: t15 :: t16 :: t17 :: t18 :: t19 :: t20 :: t21 :: t22 :: t23 :: t24 :: t25 :: (.pointer (some ⟨bx, 0, none⟩)) :: (.pointer (some ⟨bx, 0, none⟩)) :: (.pointer (some ⟨bx, 0, none⟩)) :: (.pointer (some ⟨bx, 0, none⟩)) :: (.pointer (some ⟨bx, 0, none⟩)) :: (.pointer (some ⟨bx, 0, none⟩)) :: vl :: x33 :: (.slice p 64 c) :: x35 :: x36 :: x37 :: (.pointer (some ⟨bx, 0, none⟩)) :: (.pointer (some ⟨bx, 0, none⟩)) :: (.pointer (some ⟨bx, 1, none⟩)) :: vk :: x42 :: (.slice p 64 c) :: x44 :: x45 :: x46 :: (.pointer (some ⟨bx, 0, none⟩)) :: (.pointer (some ⟨bx, 0, none⟩)) :: (.pointer (some ⟨bx, 2, none⟩)) :: vw :: x51 :: x52 :: t53 :: t54 :: t55 :: t56 :: t57 :: t58 :: t59 :: t60 :: []), ds⟩ W := by
    intro x33 x35 x36 x37 x42 x44 x45 x46 x51 x52 W b X fl fk fw f35 f36
    refine wpAnyH_ready (rs := [11, 16, 25]) (by kernel_rfl) (by simp) ?_
    refine AllReadyH.cons (o := ⟨some 37, .call { callee := .builtin .append, args := #[.tmp 32, .tmp 36], argTypes := #[36, 36] }, 36, "ref.go:37", #[⟨6, .data⟩, ⟨10, .data⟩, ⟨9, .chain⟩], none⟩) rfl (fun K hK => ?_) (AllReadyH.cons (o := ⟨some 42, .buildSlice 31 0 #[], 31, "ref.go:37", #[], none⟩) rfl (fun K hK => ?_) (AllReadyH.cons (o := ⟨some 51, .buildSlice 72 1 #[(0, .const (.bool false))], 72, "ref.go:37", #[], none⟩) rfl (fun K hK => ?_) AllReadyH.nil))
    · have hsz := Nat.le_trans hbase b.size
      obtain ⟨vs, r1, r2⟩ := fl
      obtain ⟨gn, rfl, hgn⟩ := f36
      obtain ⟨i0, hi0, hz0, hz1, hz2⟩ := info_parts i_byt
      obtain ⟨pq, cq, rfl⟩ := f35.1.shape
      refine step_append_lies _ (by rfl) _ _ _ (by rfl) base 31 i0 _ 1 24 Try.underlying36 hi0 hz0 hz1 hz2 rfl (by omega) _ k vs (by rfl) r1 ⟨gn, 0, none⟩ 1 1 [.slice pq l.length cq] (by rfl) (by rfl) (World.news_of_block hgn) (by simp [Value.oneCell']) (by omega) (by unfold maxLen; omega) (by omega) hsz W.heap.size rfl ?_
      intro g cap W' ow gr hat hlt
      have tR : Sty 74 W W' := Sty.of_grown r1 gr (by decide)
      have tB : Sty 4 W W' := Sty.of_grown r1 gr (by decide)
      have tU : Sty 5 W W' := Sty.of_grown r1 gr (by decide)
      have b' : Below base w W' := b.grown gr hsz (fun q hq => (r1.lt q hq).1)
      have hn' : RO W' base (.slice (some ⟨g, 0, none⟩) (k + 1) cap) (k + 1) sig := RO.snoc r1 r2 (by rw [hlen]; exact f35) gr ow
      have X' : W'.heap[bx]? = some (.cells #[vl, vk, vw, .int .i64 (-1), .bool false, .int .i64 0] 74 (0, 0)) := (tR _ _ _ X)
      refine hK.out _ _ (hSx _ X') (fun _ => ?_)
      exact h400 x33 (.slice pq l.length cq) (.slice (some ⟨gn, 0, none⟩) 1 1) (.slice (some ⟨g, 0, none⟩) (k + 1) cap) x42 x44 x45 x46 x51 x52 W' b' X' ⟨g, cap, rfl, hn'⟩ (fk.other r1 hne gr) (owns_sty fw tB) (fun q hq => by obtain ⟨us, o1, _⟩ := fk; simp only [Value.ownBlock, Option.some.injEq] at hq; subst hq; exact row_ne o1 hne hat)
    · go_simp
      have bA := (Below.refl W.heap.size W).alloc (Nat.le_refl _) (.cells #[] 5)
      have hsz := Nat.le_trans hbase b.size
      have X' : (W.alloc (.cells #[] 5)).heap[bx]? = some (.cells #[vl, vk, vw, .int .i64 (-1), .bool false, .int .i64 0] 74 (0, 0)) := ((bA.block bx (Array.getElem?_eq_some_iff.1 X).1).trans X)
      refine hK.out _ _ (hSx _ X') (fun _ => ?_)
      exact h310 x33 x35 x36 x37 (.slice (some ⟨W.heap.size, 0, none⟩) 0 0) x44 x45 x46 x51 x52 (W.alloc (.cells #[] 5)) (b.trans (bA.mono hsz)) X' (fl.later bA) (fk.later bA) (owns_later fw bA) (f35.sty (Sty.of_below bA)) (f36.later bA) (EM.made W base hsz)
    · go_simp
      have bA := (Below.refl W.heap.size W).alloc (Nat.le_refl _) (.cells #[.bool false] 4)
      have hsz := Nat.le_trans hbase b.size
      have X' : (W.alloc (.cells #[.bool false] 4)).heap[bx]? = some (.cells #[vl, vk, vw, .int .i64 (-1), .bool false, .int .i64 0] 74 (0, 0)) := ((bA.block bx (Array.getElem?_eq_some_iff.1 X).1).trans X)
      refine hK.out _ _ (hSx _ X') (fun _ => ?_)
      exact h301 x33 x35 x36 x37 x42 x44 x45 x46 (.slice (some ⟨W.heap.size, 0, none⟩) 1 1) x52 (W.alloc (.cells #[.bool false] 4)) (b.trans (bA.mono hsz)) X' (fl.later bA) (fk.later bA) (owns_later fw bA) (f35.sty (Sty.of_below bA)) (f36.later bA) (N1.made W 4 (.bool false))
  have h211 : ∀ (x33 x35 x36 x37 x42 x44 x45 x46 x51 x52 : Value) (W : World), (Below base w W) → (W.heap[bx]? = some (.cells #[vl, vk, vw, .int .i64 (-1), .bool false, .int .i64 0] 74 (0, 0))) → (RO W base vl k sig) → (RO W base vk k sig) → (W.ownsRow base 4 1 vw k (List.replicate k (.bool false))) → (HBT W x35 l) → (EM W base x42) → (N1 W 4 x51 (.bool false)) → wpAnyH Try.prog .any of9a (headPost Try.prog .any of9o Q 27 9) (fun W => W.cell? ⟨bx, 0, none⟩ = some vl ∧ W.cell? ⟨bx, 1, none⟩ = some vk ∧ W.cell? ⟨bx, 2, none⟩ = some vw) 6 #[true, true, true, true, true, true, true, true, true, true, false, false, true, true, true, true, true, true, false, false, false, true, true, true, true, true, false] ⟨List.toArray (t0 :: t1 :: t2 :: t3 :: (.pointer (some ⟨bx, 0, none⟩)) :: t5 :: (.slice p 64 c) :: t7 :: t8 :: t9 :: t10 :: t11 :: t12 :: t13 :: t14 :: t15 :: t16 :: t17 :: t18 :: t19 :: t20 :: t21 :: t22 :: t23 :: t24 :: t25 :: (.pointer (some ⟨bx, 0, none⟩)) :: (.pointer (some ⟨bx, 0, none⟩)) :: (.pointer (some ⟨bx, 0, none⟩)) :: (.pointer (some ⟨bx, 0, none⟩)) :: (.pointer (some ⟨bx, 0, none⟩)) :: (.pointer (some ⟨bx, 0, none⟩)) :: vl :: x33 :: (.slice p 64 c) :: x35 :: x36 :: x37 :: (.pointer (some ⟨bx, 0, none⟩)) :: (.pointer (some ⟨bx, 0, none⟩)) :: (.pointer (some ⟨bx, 1, none⟩)) :: vk :: x42 :: (.slice p 64 c) :: x44 :: x45 :: x46 :: (.pointer (some ⟨bx, 0, none⟩)) :: (.pointer (some ⟨bx, 0, none⟩)) :: (.pointer (some ⟨bx, 2, none⟩)) :: vw :: x51 :: x52 :: t53 :: t54 :: t55 :: t56 :: t57 :: t58 :: t59 :: t60 :: []), ds⟩ W := by
    intro x33 x35 x36 x37 x42 x44 x45 x46 x51 x52 W b X fl fk fw f35 f42 f51
    refine wpAnyH_ready (rs := [10]) (by kernel_rfl) (by simp) ?_
    refine AllReadyH.cons (o := ⟨some 36, .buildSlice 36 1 #[(0, .tmp 35)], 36, "ref.go:37", #[⟨9, .data⟩], none⟩) rfl (fun K hK => ?_) AllReadyH.nil
    · obtain ⟨pq, cq, rfl⟩ := f35.1.shape
      go_simp
      have bA := (Below.refl W.heap.size W).alloc (Nat.le_refl _) (.cells #[.slice pq l.length cq] 31)
      have hsz := Nat.le_trans hbase b.size
      have X' : (W.alloc (.cells #[.slice pq l.length cq] 31)).heap[bx]? = some (.cells #[vl, vk, vw, .int .i64 (-1), .bool false, .int .i64 0] 74 (0, 0)) := ((bA.block bx (Array.getElem?_eq_some_iff.1 X).1).trans X)
      refine hK.out _ _ (hSx _ X') (fun _ => ?_)
      exact h311 x33 (.slice pq l.length cq) (.slice (some ⟨W.heap.size, 0, none⟩) 1 1) x37 x42 x44 x45 x46 x51 x52 (W.alloc (.cells #[.slice pq l.length cq] 31)) (b.trans (bA.mono hsz)) X' (fl.later bA) (fk.later bA) (owns_later fw bA) (f35.sty (Sty.of_below bA)) (N1.made W 31 _) (f42.later bA) (f51.later bA)
  have h210 : ∀ (x33 x35 x36 x37 x42 x44 x45 x46 x51 x52 : Value) (W : World), (Below base w W) → (W.heap[bx]? = some (.cells #[vl, vk, vw, .int .i64 (-1), .bool false, .int .i64 0] 74 (0, 0))) → (RO W base vl k sig) → (RO W base vk k sig) → (W.ownsRow base 4 1 vw k (List.replicate k (.bool false))) → (HBT W x35 l) → (EM W base x42) → wpAnyH Try.prog .any of9a (headPost Try.prog .any of9o Q 27 9) (fun W => W.cell? ⟨bx, 0, none⟩ = some vl ∧ W.cell? ⟨bx, 1, none⟩ = some vk ∧ W.cell? ⟨bx, 2, none⟩ = some vw) 7 #[true, true, true, true, true, true, true, true, true, true, false, false, true, true, true, true, true, true, false, false, false, true, true, true, true, false, false] ⟨List.toArray (t0 :: t1 :: t2 :: t3 :: (.pointer (some ⟨bx, 0, none⟩)) :: t5 :: (.slice p 64 c) :: t7 :: t8 :: t9 :: t10 :: t11 :: t12 :: t13 :: t14 :: t15 :: t16 :: t17 :: t18 :: t19 :: t20 :: t21 :: t22 :: t23 :: t24 :: t25 :: (.pointer (some ⟨bx, 0, none⟩)) :: (.pointer (some ⟨bx, 0, none⟩)) :: (.pointer (some ⟨bx, 0, none⟩)) :: (.pointer (some ⟨bx, 0, none⟩)) :: (.pointer (some ⟨bx, 0, none⟩)) :: (.pointer (some ⟨bx, 0, none⟩)) :: vl :: x33 :: (.slice p 64 c) :: x35 :: x36 :: x37 :: (.pointer (some ⟨bx, 0, none⟩)) :: (.pointer (some ⟨bx, 0, none⟩)) :: (.pointer (some ⟨bx, 1, none⟩)) :: vk :: x42 :: (.slice p 64 c) :: x44 :: x45 :: x46 :: (.pointer (some ⟨bx, 0, none⟩)) :: (.pointer (some ⟨bx, 0, none⟩)) :: (.pointer (some ⟨bx, 2, none⟩)) :: vw :: x51 :: x52 :: t53 :: t54 :: t55 :: t56 :: t57 :: t58 :: t59 :: t60 :: []), ds⟩ W := by
    intro x33 x35 x36 x37 x42 x44 x45 x46 x51 x52 W b X fl fk fw f35 f42
    refine wpAnyH_ready (rs := [10, 25]) (by kernel_rfl) (by simp) ?_
    refine AllReadyH.cons (o := ⟨some 36, .buildSlice 36 1 #[(0, .tmp 35)], 36, "ref.go:37", #[⟨9, .data⟩], none⟩) rfl (fun K hK => ?_) (AllReadyH.cons (o := ⟨some 51, .buildSlice 72 1 #[(0, .const (.bool false))], 72, "ref.go:37", #[], none⟩) rfl (fun K hK => ?_) AllReadyH.nil)
    · obtain ⟨pq, cq, rfl⟩ := f35.1.shape
      go_simp
      have bA := (Below.refl W.heap.size W).alloc (Nat.le_refl _) (.cells #[.slice pq l.length cq] 31)
      have hsz := Nat.le_trans hbase b.size
      have X' : (W.alloc (.cells #[.slice pq l.length cq] 31)).heap[bx]? = some (.cells #[vl, vk, vw, .int .i64 (-1), .bool false, .int .i64 0] 74 (0, 0)) := ((bA.block bx (Array.getElem?_eq_some_iff.1 X).1).trans X)
      refine hK.out _ _ (hSx _ X') (fun _ => ?_)
      exact h310 x33 (.slice pq l.length cq) (.slice (some ⟨W.heap.size, 0, none⟩) 1 1) x37 x42 x44 x45 x46 x51 x52 (W.alloc (.cells #[.slice pq l.length cq] 31)) (b.trans (bA.mono hsz)) X' (fl.later bA) (fk.later bA) (owns_later fw bA) (f35.sty (Sty.of_below bA)) (N1.made W 31 _) (f42.later bA)
    · go_simp
      have bA := (Below.refl W.heap.size W).alloc (Nat.le_refl _) (.cells #[.bool false] 4)
      have hsz := Nat.le_trans hbase b.size
      have X' : (W.alloc (.cells #[.bool false] 4)).heap[bx]? = some (.cells #[vl, vk, vw, .int .i64 (-1), .bool false, .int .i64 0] 74 (0, 0)) := ((bA.block bx (Array.getElem?_eq_some_iff.1 X).1).trans X)
      refine hK.out _ _ (hSx _ X') (fun _ => ?_)
      exact h211 x33 x35 x36 x37 x42 x44 x45 x46 (.slice (some ⟨W.heap.size, 0, none⟩) 1 1) x52 (W.alloc (.cells #[.bool false] 4)) (b.trans (bA.mono hsz)) X' (fl.later bA) (fk.later bA) (owns_later fw bA) (f35.sty (Sty.of_below bA)) (f42.later bA) (N1.made W 4 (.bool false))
  have h201 : ∀ (x33 x35 x36 x37 x42 x44 x45 x46 x51 x52 : Value) (W : World), (Below base w W) → (W.heap[bx]? = some (.cells #[vl, vk, vw, .int .i64 (-1), .bool false, .int .i64 0] 74 (0, 0))) → (RO W base vl k sig) → (RO W base vk k sig) → (W.ownsRow base 4 1 vw k (List.replicate k (.bool false))) → (HBT W x35 l) → (N1 W 4 x51 (.bool false)) → wpAnyH Try.prog .any of9a (headPost Try.prog .any of9o Q 27 9) (fun W => W.cell? ⟨bx, 0, none⟩ = some vl ∧ W.cell? ⟨bx, 1, none⟩ = some vk ∧ W.cell? ⟨bx, 2, none⟩ = some vw) 7 #[true, true, true, true, true, true, true, true, true, true, false, false, true, true, true, true, false, true, false, false, false, true, true, true, true, true, false] ⟨List.toArray (t0 :: t1 :: t2 :: t3 :: (.pointer (some ⟨bx, 0, none⟩)) :: t5 :: (.slice p 64 c) :: t7 :: t8 :: t9 :: t10 :: t11 :: t12 :: t13 :: t14 :: t15 :: t16 :: t17 :: t18 :: t19 :: t20 :: t21 :: t22 :: t23 :: t24 :: t25 :: (.pointer (some ⟨bx, 0, none⟩)) :: (.pointer (some ⟨bx, 0, none⟩)) :: (.pointer (some ⟨bx, 0, none⟩)) :: (.pointer (some ⟨bx, 0, none⟩)) :: (.pointer (some ⟨bx, 0, none⟩)) :: (.pointer (some ⟨bx, 0, none⟩)) :: vl :: x33 :: (.slice p 64 c) :: x35 :: x36 :: x37 :: (.pointer (some ⟨bx, 0, none⟩)) :: (.pointer (some ⟨bx, 0, none⟩)) :: (.pointer (some ⟨bx, 1, none⟩)) :: vk :: x42 :: (.slice p 64 c) :: x44 :: x45 :: x46 :: (.pointer (some ⟨bx, 0, none⟩)) :: (.pointer (some ⟨bx, 0, none⟩)) :: (.pointer (some ⟨bx, 2, none⟩)) :: vw :: x51 :: x52 :: t53 :: t54 :: t55 :: t56 :: t57 :: t58 :: t59 :: t60 :: []), ds⟩ W := by
    intro x33 x35 x36 x37 x42 x44 x45 x46 x51 x52 W b X fl fk fw f35 f51
    refine wpAnyH_ready (rs := [10, 16]) (by kernel_rfl) (by simp) ?_
    refine AllReadyH.cons (o := ⟨some 36, .buildSlice 36 1 #[(0, .tmp 35)], 36, "ref.go:37", #[⟨9, .data⟩], none⟩) rfl (fun K hK => ?_) (AllReadyH.cons (o := ⟨some 42, .buildSlice 31 0 #[], 31, "ref.go:37", #[], none⟩) rfl (fun K hK => ?_) AllReadyH.nil)
    · obtain ⟨pq, cq, rfl⟩ := f35.1.shape
      go_simp
      have bA := (Below.refl W.heap.size W).alloc (Nat.le_refl _) (.cells #[.slice pq l.length cq] 31)
      have hsz := Nat.le_trans hbase b.size
      have X' : (W.alloc (.cells #[.slice pq l.length cq] 31)).heap[bx]? = some (.cells #[vl, vk, vw, .int .i64 (-1), .bool false, .int .i64 0] 74 (0, 0)) := ((bA.block bx (Array.getElem?_eq_some_iff.1 X).1).trans X)
      refine hK.out _ _ (hSx _ X') (fun _ => ?_)
      exact h301 x33 (.slice pq l.length cq) (.slice (some ⟨W.heap.size, 0, none⟩) 1 1) x37 x42 x44 x45 x46 x51 x52 (W.alloc (.cells #[.slice pq l.length cq] 31)) (b.trans (bA.mono hsz)) X' (fl.later bA) (fk.later bA) (owns_later fw bA) (f35.sty (Sty.of_below bA)) (N1.made W 31 _) (f51.later bA)
    · go_simp
      have bA := (Below.refl W.heap.size W).alloc (Nat.le_refl _) (.cells #[] 5)
      have hsz := Nat.le_trans hbase b.size
      have X' : (W.alloc (.cells #[] 5)).heap[bx]? = some (.cells #[vl, vk, vw, .int .i64 (-1), .bool false, .int .i64 0] 74 (0, 0)) := ((bA.block bx (Array.getElem?_eq_some_iff.1 X).1).trans X)
      refine hK.out _ _ (hSx _ X') (fun _ => ?_)
      exact h211 x33 x35 x36 x37 (.slice (some ⟨W.heap.size, 0, none⟩) 0 0) x44 x45 x46 x51 x52 (W.alloc (.cells #[] 5)) (b.trans (bA.mono hsz)) X' (fl.later bA) (fk.later bA) (owns_later fw bA) (f35.sty (Sty.of_below bA)) (EM.made W base hsz) (f51.later bA)
  have h200 : ∀ (x33 x35 x36 x37 x42 x44 x45 x46 x51 x52 : Value) (W : World), (Below base w W) → (W.heap[bx]? = some (.cells #[vl, vk, vw, .int .i64 (-1), .bool false, .int .i64 0] 74 (0, 0))) → (RO W base vl k sig) → (RO W base vk k sig) → (W.ownsRow base 4 1 vw k (List.replicate k (.bool false))) → (HBT W x35 l) → wpAnyH Try.prog .any of9a (headPost Try.prog .any of9o Q 27 9) (fun W => W.cell? ⟨bx, 0, none⟩ = some vl ∧ W.cell? ⟨bx, 1, none⟩ = some vk ∧ W.cell? ⟨bx, 2, none⟩ = some vw) 8 #[true, true, true, true, true, true, true, true, true, true, false, false, true, true, true, true, false, true, false, false, false, true, true, true, true, false, false] ⟨List.toArray (t0 :: t1 :: t2 :: t3 :: (.pointer (some ⟨bx, 0, none⟩)) :: t5 :: (.slice p 64 c) :: t7 :: t8 :: t9 :: t10 :: t11 :: t12 :: t13 :: t14 :: t15 :: t16 :: t17 :: t18 :: t19 :: t20 :: t21 :: t22 :: t23 :: t24 :: t25 :: (.pointer (some ⟨bx, 0, none⟩)) :: (.pointer (some ⟨bx, 0, none⟩)) :: (.pointer (some ⟨bx, 0, none⟩)) :: (.pointer (some ⟨bx, 0, none⟩)) :: (.pointer (some ⟨bx, 0, none⟩)) :: (.pointer (some ⟨bx, 0, none⟩)) :: vl :: x33 :: (.slice p 64 c) :: x35 :: x36 :: x37 :: (.pointer (some ⟨bx, 0, none⟩)) :: (.pointer (some ⟨bx, 0, none⟩)) :: (.pointer (some ⟨bx, 1, none⟩)) :: vk :: x42 :: (.slice p 64 c) :: x44 :: x45 :: x46 :: (.pointer (some ⟨bx, 0, none⟩)) :: (.pointer (some ⟨bx, 0, none⟩)) :: (.pointer (some ⟨bx, 2, none⟩)) :: vw :: x51 :: x52 :: t53 :: t54 :: t55 :: t56 :: t57 :: t58 :: t59 :: t60 :: []), ds⟩ W := by
    intro x33 x35 x36 x37 x42 x44 x45 x46 x51 x52 W b X fl fk fw f35
    refine wpAnyH_ready (rs := [10, 16, 25]) (by kernel_rfl) (by simp) ?_
    refine AllReadyH.cons (o := ⟨some 36, .buildSlice 36 1 #[(0, .tmp 35)], 36, "ref.go:37", #[⟨9, .data⟩], none⟩) rfl (fun K hK => ?_) (AllReadyH.cons (o := ⟨some 42, .buildSlice 31 0 #[], 31, "ref.go:37", #[], none⟩) rfl (fun K hK => ?_) (AllReadyH.cons (o := ⟨some 51, .buildSlice 72 1 #[(0, .const (.bool false))], 72, "ref.go:37", #[], none⟩) rfl (fun K hK => ?_) AllReadyH.nil))
    · obtain ⟨pq, cq, rfl⟩ := f35.1.shape
      go_simp
      have bA := (Below.refl W.heap.size W).alloc (Nat.le_refl _) (.cells #[.slice pq l.length cq] 31)
      have hsz := Nat.le_trans hbase b.size
      have X' : (W.alloc (.cells #[.slice pq l.length cq] 31)).heap[bx]? = some (.cells #[vl, vk, vw, .int .i64 (-1), .bool false, .int .i64 0] 74 (0, 0)) := ((bA.block bx (Array.getElem?_eq_some_iff.1 X).1).trans X)
      refine hK.out _ _ (hSx _ X') (fun _ => ?_)
      exact h300 x33 (.slice pq l.length cq) (.slice (some ⟨W.heap.size, 0, none⟩) 1 1) x37 x42 x44 x45 x46 x51 x52 (W.alloc (.cells #[.slice pq l.length cq] 31)) (b.trans (bA.mono hsz)) X' (fl.later bA) (fk.later bA) (owns_later fw bA) (f35.sty (Sty.of_below bA)) (N1.made W 31 _)
    · go_simp
      have bA := (Below.refl W.heap.size W).alloc (Nat.le_refl _) (.cells #[] 5)
      have hsz := Nat.le_trans hbase b.size
      have X' : (W.alloc (.cells #[] 5)).heap[bx]? = some (.cells #[vl, vk, vw, .int .i64 (-1), .bool false, .int .i64 0] 74 (0, 0)) := ((bA.block bx (Array.getElem?_eq_some_iff.1 X).1).trans X)
      refine hK.out _ _ (hSx _ X') (fun _ => ?_)
      exact h210 x33 x35 x36 x37 (.slice (some ⟨W.heap.size, 0, none⟩) 0 0) x44 x45 x46 x51 x52 (W.alloc (.cells #[] 5)) (b.trans (bA.mono hsz)) X' (fl.later bA) (fk.later bA) (owns_later fw bA) (f35.sty (Sty.of_below bA)) (EM.made W base hsz)
    · go_simp
      have bA := (Below.refl W.heap.size W).alloc (Nat.le_refl _) (.cells #[.bool false] 4)
      have hsz := Nat.le_trans hbase b.size
      have X' : (W.alloc (.cells #[.bool false] 4)).heap[bx]? = some (.cells #[vl, vk, vw, .int .i64 (-1), .bool false, .int .i64 0] 74 (0, 0)) := ((bA.block bx (Array.getElem?_eq_some_iff.1 X).1).trans X)
      refine hK.out _ _ (hSx _ X') (fun _ => ?_)
      exact h201 x33 x35 x36 x37 x42 x44 x45 x46 (.slice (some ⟨W.heap.size, 0, none⟩) 1 1) x52 (W.alloc (.cells #[.bool false] 4)) (b.trans (bA.mono hsz)) X' (fl.later bA) (fk.later bA) (owns_later fw bA) (f35.sty (Sty.of_below bA)) (N1.made W 4 (.bool false))
  have h111 : ∀ (x33 x35 x36 x37 x42 x44 x45 x46 x51 x52 : Value) (W : World), (Below base w W) → (W.heap[bx]? = some (.cells #[vl, vk, vw, .int .i64 (-1), .bool false, .int .i64 0] 74 (0, 0))) → (RO W base vl k sig) → (RO W base vk k sig) → (W.ownsRow base 4 1 vw k (List.replicate k (.bool false))) → (EM W base x33) → (EM W base x42) → (x42 ≠ x33) → (N1 W 4 x51 (.bool false)) → wpAnyH Try.prog .any of9a (headPost Try.prog .any of9o Q 27 9) (fun W => W.cell? ⟨bx, 0, none⟩ = some vl ∧ W.cell? ⟨bx, 1, none⟩ = some vk ∧ W.cell? ⟨bx, 2, none⟩ = some vw) 7 #[true, true, true, true, true, true, true, true, true, false, false, false, true, true, true, true, true, true, false, false, false, true, true, true, true, true, false] ⟨List.toArray (t0 :: t1 :: t2 :: t3 :: (.pointer (some ⟨bx, 0, none⟩)) :: t5 :: (.slice p 64 c) :: t7 :: t8 :: t9 :: t10 :: t11 :: t12 :: t13 :: t14 :: t15 :: t16 :: t17 :: t18 :: t19 :: t20 :: t21 :: t22 :: t23 :: t24 :: t25 :: (.pointer (some ⟨bx, 0, none⟩)) :: (.pointer (some ⟨bx, 0, none⟩)) :: (.pointer (some ⟨bx, 0, none⟩)) :: (.pointer (some ⟨bx, 0, none⟩)) :: (.pointer (some ⟨bx, 0, none⟩)) :: (.pointer (some ⟨bx, 0, none⟩)) :: vl :: x33 :: (.slice p 64 c) :: x35 :: x36 :: x37 :: (.pointer (some ⟨bx, 0, none⟩)) :: (.pointer (some ⟨bx, 0, none⟩)) :: (.pointer (some ⟨bx, 1, none⟩)) :: vk :: x42 :: (.slice p 64 c) :: x44 :: x45 :: x46 :: (.pointer (some ⟨bx, 0, none⟩)) :: (.pointer (some ⟨bx, 0, none⟩)) :: (.pointer (some ⟨bx, 2, none⟩)) :: vw :: x51 :: x52 :: t53 :: t54 :: t55 :: t56 :: t57 :: t58 :: t59 :: t60 :: []), ds⟩ W := by
    intro x33 x35 x36 x37 x42 x44 x45 x46 x51 x52 W b X fl fk fw f33 f42 n42 f51
    refine wpAnyH_ready (rs := [9]) (by kernel_rfl) (by simp) ?_
    refine AllReadyH.cons (o := ⟨some 35, .call { callee := .builtin .append, args := #[.tmp 33, .tmp 34], argTypes := #[31, 31] }, 31, "ref.go:37", #[⟨7, .data⟩, ⟨8, .data⟩], none⟩) rfl (fun K hK => ?_) AllReadyH.nil
    · have hsz := Nat.le_trans hbase b.size
      refine step_append_any (by rfl) _ _ _ (by rfl) base 5 Try.underlying31 i_u8 _ 0 (bcs []) (by rfl) f33.owns p 64 c l (by rfl) (hbAt W b) (by omega) hsz ?_
      intro v' W' ow gr
      have hem := f33
      have tR : Sty 74 W W' := Sty.of_grown hem.owns gr (by decide)
      have tB : Sty 4 W W' := Sty.of_grown hem.owns gr (by decide)
      have tY : Sty 31 W W' := Sty.of_grown hem.owns gr (by decide)
      have b' : Below base w W' := b.grown gr hsz (fun q hq => by obtain ⟨g, rfl, _, hg⟩ := hem; cases hq; exact hg)
      have hv' : HBT W' v' l := HBT.of_owns (n := 64) (by simpa [bcs] using ow)
      have X' : W'.heap[bx]? = some (.cells #[vl, vk, vw, .int .i64 (-1), .bool false, .int .i64 0] 74 (0, 0)) := (tR _ _ _ X)
      refine hK.out _ _ (hSx _ X') (fun _ => ?_)
      exact h211 x33 v' x36 x37 x42 x44 x45 x46 x51 x52 W' b' X' (fl.em hs0 hem gr) (fk.em hs0 hem gr) (owns_sty fw tB) hv' (f42.grown hem n42 gr) (f51.sty tB)
  have h110 : ∀ (x33 x35 x36 x37 x42 x44 x45 x46 x51 x52 : Value) (W : World), (Below base w W) → (W.heap[bx]? = some (.cells #[vl, vk, vw, .int .i64 (-1), .bool false, .int .i64 0] 74 (0, 0))) → (RO W base vl k sig) → (RO W base vk k sig) → (W.ownsRow base 4 1 vw k (List.replicate k (.bool false))) → (EM W base x33) → (EM W base x42) → (x42 ≠ x33) → wpAnyH Try.prog .any of9a (headPost Try.prog .any of9o Q 27 9) (fun W => W.cell? ⟨bx, 0, none⟩ = some vl ∧ W.cell? ⟨bx, 1, none⟩ = some vk ∧ W.cell? ⟨bx, 2, none⟩ = some vw) 8 #[true, true, true, true, true, true, true, true, true, false, false, false, true, true, true, true, true, true, false, false, false, true, true, true, true, false, false] ⟨List.toArray (t0 :: t1 :: t2 :: t3 :: (.pointer (some ⟨bx, 0, none⟩)) :: t5 :: (.slice p 64 c) :: t7 :: t8 :: t9 :: t10 :: t11 :: t12 :: t13 :: t14 :: t15 :: t16 :: t17 :: t18 :: t19 :: t20 :: t21 :: t22 :: t23 :: t24 :: t25 :: (.pointer (some ⟨bx, 0, none⟩)) :: (.pointer (some ⟨bx, 0, none⟩)) :: (.pointer (some ⟨bx, 0, none⟩)) :: (.pointer (some ⟨bx, 0, none⟩)) :: (.pointer (some ⟨bx, 0, none⟩)) :: (.pointer (some ⟨bx, 0, none⟩)) :: vl :: x33 :: (.slice p 64 c) :: x35 :: x36 :: x37 :: (.pointer (some ⟨bx, 0, none⟩)) :: (.pointer (some ⟨bx, 0, none⟩)) :: (.pointer (some ⟨bx, 1, none⟩)) :: vk :: x42 :: (.slice p 64 c) :: x44 :: x45 :: x46 :: (.pointer (some ⟨bx, 0, none⟩)) :: (.pointer (some ⟨bx, 0, none⟩)) :: (.pointer (some ⟨bx, 2, none⟩)) :: vw :: x51 :: x52 :: t53 :: t54 :: t55 :: t56 :: t57 :: t58 :: t59 :: t60 :: []), ds⟩ W := by
    intro x33 x35 x36 x37 x42 x44 x45 x46 x51 x52 W b X fl fk fw f33 f42 n42
    refine wpAnyH_ready (rs := [9, 25]) (by kernel_rfl) (by simp) ?_
    refine AllReadyH.cons (o := ⟨some 35, .call { callee := .builtin .append, args := #[.tmp 33, .tmp 34], argTypes := #[31, 31] }, 31, "ref.go:37", #[⟨7, .data⟩, ⟨8, .data⟩], none⟩) rfl (fun K hK => ?_) (AllReadyH.cons (o := ⟨some 51, .buildSlice 72 1 #[(0, .const (.bool false))], 72, "ref.go:37", #[], none⟩) rfl (fun K hK => ?_) AllReadyH.nil)
    · have hsz := Nat.le_trans hbase b.size
      refine step_append_any (by rfl) _ _ _ (by rfl) base 5 Try.underlying31 i_u8 _ 0 (bcs []) (by rfl) f33.owns p 64 c l (by rfl) (hbAt W b) (by omega) hsz ?_
      intro v' W' ow gr
      have hem := f33
      have tR : Sty 74 W W' := Sty.of_grown hem.owns gr (by decide)
      have tB : Sty 4 W W' := Sty.of_grown hem.owns gr (by decide)
      have tY : Sty 31 W W' := Sty.of_grown hem.owns gr (by decide)
      have b' : Below base w W' := b.grown gr hsz (fun q hq => by obtain ⟨g, rfl, _, hg⟩ := hem; cases hq; exact hg)
      have hv' : HBT W' v' l := HBT.of_owns (n := 64) (by simpa [bcs] using ow)
      have X' : W'.heap[bx]? = some (.cells #[vl, vk, vw, .int .i64 (-1), .bool false, .int .i64 0] 74 (0, 0)) := (tR _ _ _ X)
      refine hK.out _ _ (hSx _ X') (fun _ => ?_)
      exact h210 x33 v' x36 x37 x42 x44 x45 x46 x51 x52 W' b' X' (fl.em hs0 hem gr) (fk.em hs0 hem gr) (owns_sty fw tB) hv' (f42.grown hem n42 gr)
    · go_simp
      have bA := (Below.refl W.heap.size W).alloc (Nat.le_refl _) (.cells #[.bool false] 4)
      have hsz := Nat.le_trans hbase b.size
      have X' : (W.alloc (.cells #[.bool false] 4)).heap[bx]? = some (.cells #[vl, vk, vw, .int .i64 (-1), .bool false, .int .i64 0] 74 (0, 0)) := ((bA.block bx (Array.getElem?_eq_some_iff.1 X).1).trans X)
      refine hK.out _ _ (hSx _ X') (fun _ => ?_)
      exact h111 x33 x35 x36 x37 x42 x44 x45 x46 (.slice (some ⟨W.heap.size, 0, none⟩) 1 1) x52 (W.alloc (.cells #[.bool false] 4)) (b.trans (bA.mono hsz)) X' (fl.later bA) (fk.later bA) (owns_later fw bA) (f33.later bA) (f42.later bA) n42 (N1.made W 4 (.bool false))
  have h101 : ∀ (x33 x35 x36 x37 x42 x44 x45 x46 x51 x52 : Value) (W : World), (Below base w W) → (W.heap[bx]? = some (.cells #[vl, vk, vw, .int .i64 (-1), .bool false, .int .i64 0] 74 (0, 0))) → (RO W base vl k sig) → (RO W base vk k sig) → (W.ownsRow base 4 1 vw k (List.replicate k (.bool false))) → (EM W base x33) → (N1 W 4 x51 (.bool false)) → wpAnyH Try.prog .any of9a (headPost Try.prog .any of9o Q 27 9) (fun W => W.cell? ⟨bx, 0, none⟩ = some vl ∧ W.cell? ⟨bx, 1, none⟩ = some vk ∧ W.cell? ⟨bx, 2, none⟩ = some vw) 8 #[true, true, true, true, true, true, true, true, true, false, false, false, true, true, true, true, false, true, false, false, false, true, true, true, true, true, false] ⟨List.toArray (t0 :: t1 :: t2 :: t3 :: (.pointer (some ⟨bx, 0, none⟩)) :: t5 :: (.slice p 64 c) :: t7 :: t8 :: t9 :: t10 :: t11 :: t12 :: t13 :: t14 :: t15 :: t16 :: t17 :: t18 :: t19 :: t20 :: t21 :: t22 :: t23 :: t24 :: t25 :: (.pointer (some ⟨bx, 0, none⟩)) :: (.pointer (some ⟨bx, 0, none⟩)) :: (.pointer (some ⟨bx, 0, none⟩)) :: (.pointer (some ⟨bx, 0, none⟩)) :: (.pointer (some ⟨bx, 0, none⟩)) :: (.pointer (some ⟨bx, 0, none⟩)) :: vl :: x33 :: (.slice p 64 c) :: x35 :: x36 :: x37 :: (.pointer (some ⟨bx, 0, none⟩)) :: (.pointer (some ⟨bx, 0, none⟩)) :: (.pointer (some ⟨bx, 1, none⟩)) :: vk :: x42 :: (.slice p 64 c) :: x44 :: x45 :: x46 :: (.pointer (some ⟨bx, 0, none⟩)) :: (.pointer (some ⟨bx, 0, none⟩)) :: (.pointer (some ⟨bx, 2, none⟩)) :: vw :: x51 :: x52 :: t53 :: t54 :: t55 :: t56 :: t57 :: t58 :: t59 :: t60 :: []), ds⟩ W := by
    intro x33 x35 x36 x37 x42 x44 x45 x46 x51 x52 W b X fl fk fw f33 f51
    refine wpAnyH_ready (rs := [9, 16]) (by kernel_rfl) (by simp) ?_
    refine AllReadyH.cons (o := ⟨some 35, .call { callee := .builtin .append, args := #[.tmp 33, .tmp 34], argTypes := #[31, 31] }, 31, "ref.go:37", #[⟨7, .data⟩, ⟨8, .data⟩], none⟩) rfl (fun K hK => ?_) (AllReadyH.cons (o := ⟨some 42, .buildSlice 31 0 #[], 31, "ref.go:37", #[], none⟩) rfl (fun K hK => ?_) AllReadyH.nil)
    · have hsz := Nat.le_trans hbase b.size
      refine step_append_any (by rfl) _ _ _ (by rfl) base 5 Try.underlying31 i_u8 _ 0 (bcs []) (by rfl) f33.owns p 64 c l (by rfl) (hbAt W b) (by omega) hsz ?_
      intro v' W' ow gr
      have hem := f33
      have tR : Sty 74 W W' := Sty.of_grown hem.owns gr (by decide)
      have tB : Sty 4 W W' := Sty.of_grown hem.owns gr (by decide)
      have tY : Sty 31 W W' := Sty.of_grown hem.owns gr (by decide)
      have b' : Below base w W' := b.grown gr hsz (fun q hq => by obtain ⟨g, rfl, _, hg⟩ := hem; cases hq; exact hg)
      have hv' : HBT W' v' l := HBT.of_owns (n := 64) (by simpa [bcs] using ow)
      have X' : W'.heap[bx]? = some (.cells #[vl, vk, vw, .int .i64 (-1), .bool false, .int .i64 0] 74 (0, 0)) := (tR _ _ _ X)
      refine hK.out _ _ (hSx _ X') (fun _ => ?_)
      exact h201 x33 v' x36 x37 x42 x44 x45 x46 x51 x52 W' b' X' (fl.em hs0 hem gr) (fk.em hs0 hem gr) (owns_sty fw tB) hv' (f51.sty tB)
    · go_simp
      have bA := (Below.refl W.heap.size W).alloc (Nat.le_refl _) (.cells #[] 5)
      have hsz := Nat.le_trans hbase b.size
      have X' : (W.alloc (.cells #[] 5)).heap[bx]? = some (.cells #[vl, vk, vw, .int .i64 (-1), .bool false, .int .i64 0] 74 (0, 0)) := ((bA.block bx (Array.getElem?_eq_some_iff.1 X).1).trans X)
      refine hK.out _ _ (hSx _ X') (fun _ => ?_)
      exact h111 x33 x35 x36 x37 (.slice (some ⟨W.heap.size, 0, none⟩) 0 0) x44 x45 x46 x51 x52 (W.alloc (.cells #[] 5)) (b.trans (bA.mono hsz)) X' (fl.later bA) (fk.later bA) (owns_later fw bA) (f33.later bA) (EM.made W base hsz) (Ne.symm f33.fresh) (f51.later bA)
  have h100 : ∀ (x33 x35 x36 x37 x42 x44 x45 x46 x51 x52 : Value) (W : World), (Below base w W) → (W.heap[bx]? = some (.cells #[vl, vk, vw, .int .i64 (-1), .bool false, .int .i64 0] 74 (0, 0))) → (RO W base vl k sig) → (RO W base vk k sig) → (W.ownsRow base 4 1 vw k (List.replicate k (.bool false))) → (EM W base x33) → wpAnyH Try.prog .any of9a (headPost Try.prog .any of9o Q 27 9) (fun W => W.cell? ⟨bx, 0, none⟩ = some vl ∧ W.cell? ⟨bx, 1, none⟩ = some vk ∧ W.cell? ⟨bx, 2, none⟩ = some vw) 9 #[true, true, true, true, true, true, true, true, true, false, false, false, true, true, true, true, false, true, false, false, false, true, true, true, true, false, false] ⟨List.toArray (t0 :: t1 :: t2 :: t3 :: (.pointer (some ⟨bx, 0, none⟩)) :: t5 :: (.slice p 64 c) :: t7 :: t8 :: t9 :: t10 :: t11 :: t12 :: t13 :: t14 :: t15 :: t16 :: t17 :: t18 :: t19 :: t20 :: t21 :: t22 :: t23 :: t24 :: t25 :: (.pointer (some ⟨bx, 0, none⟩)) :: (.pointer (some ⟨bx, 0, none⟩)) :: (.pointer (some ⟨bx, 0, none⟩)) :: (.pointer (some ⟨bx, 0, none⟩)) :: (.pointer (some ⟨bx, 0, none⟩)) :: (.pointer (some ⟨bx, 0, none⟩)) :: vl :: x33 :: (.slice p 64 c) :: x35 :: x36 :: x37 :: (.pointer (some ⟨bx, 0, none⟩)) :: (.pointer (some ⟨bx, 0, none⟩)) :: (.pointer (some ⟨bx, 1, none⟩)) :: vk :: x42 :: (.slice p 64 c) :: x44 :: x45 :: x46 :: (.pointer (some ⟨bx, 0, none⟩)) :: (.pointer (some ⟨bx, 0, none⟩)) :: (.pointer (some ⟨bx, 2, none⟩)) :: vw :: x51 :: x52 :: t53 :: t54 :: t55 :: t56 :: t57 :: t58 :: t59 :: t60 :: []), ds⟩ W := by
    intro x33 x35 x36 x37 x42 x44 x45 x46 x51 x52 W b X fl fk fw f33
    refine wpAnyH_ready (rs := [9, 16, 25]) (by kernel_rfl) (by simp) ?_
    refine AllReadyH.cons (o := ⟨some 35, .call { callee := .builtin .append, args := #[.tmp 33, .tmp 34], argTypes := #[31, 31] }, 31, "ref.go:37", #[⟨7, .data⟩, ⟨8, .data⟩], none⟩) rfl (fun K hK => ?_) (AllReadyH.cons (o := ⟨some 42, .buildSlice 31 0 #[], 31, "ref.go:37", #[], none⟩) rfl (fun K hK => ?_) (AllReadyH.cons (o := ⟨some 51, .buildSlice 72 1 #[(0, .const (.bool false))], 72, "ref.go:37", #[], none⟩) rfl (fun K hK => ?_) AllReadyH.nil))
    · have hsz := Nat.le_trans hbase b.size
      refine step_append_any (by rfl) _ _ _ (by rfl) base 5 Try.underlying31 i_u8 _ 0 (bcs []) (by rfl) f33.owns p 64 c l (by rfl) (hbAt W b) (by omega) hsz ?_
      intro v' W' ow gr
      have hem := f33
      have tR : Sty 74 W W' := Sty.of_grown hem.owns gr (by decide)
      have tB : Sty 4 W W' := Sty.of_grown hem.owns gr (by decide)
      have tY : Sty 31 W W' := Sty.of_grown hem.owns gr (by decide)
      have b' : Below base w W' := b.grown gr hsz (fun q hq => by obtain ⟨g, rfl, _, hg⟩ := hem; cases hq; exact hg)
      have hv' : HBT W' v' l := HBT.of_owns (n := 64) (by simpa [bcs] using ow)
      have X' : W'.heap[bx]? = some (.cells #[vl, vk, vw, .int .i64 (-1), .bool false, .int .i64 0] 74 (0, 0)) := (tR _ _ _ X)
      refine hK.out _ _ (hSx _ X') (fun _ => ?_)
      exact h200 x33 v' x36 x37 x42 x44 x45 x46 x51 x52 W' b' X' (fl.em hs0 hem gr) (fk.em hs0 hem gr) (owns_sty fw tB) hv'
    · go_simp
      have bA := (Below.refl W.heap.size W).alloc (Nat.le_refl _) (.cells #[] 5)
      have hsz := Nat.le_trans hbase b.size
      have X' : (W.alloc (.cells #[] 5)).heap[bx]? = some (.cells #[vl, vk, vw, .int .i64 (-1), .bool false, .int .i64 0] 74 (0, 0)) := ((bA.block bx (Array.getElem?_eq_some_iff.1 X).1).trans X)
      refine hK.out _ _ (hSx _ X') (fun _ => ?_)
      exact h110 x33 x35 x36 x37 (.slice (some ⟨W.heap.size, 0, none⟩) 0 0) x44 x45 x46 x51 x52 (W.alloc (.cells #[] 5)) (b.trans (bA.mono hsz)) X' (fl.later bA) (fk.later bA) (owns_later fw bA) (f33.later bA) (EM.made W base hsz) (Ne.symm f33.fresh)
    · go_simp
      have bA := (Below.refl W.heap.size W).alloc (Nat.le_refl _) (.cells #[.bool false] 4)
      have hsz := Nat.le_trans hbase b.size
      have X' : (W.alloc (.cells #[.bool false] 4)).heap[bx]? = some (.cells #[vl, vk, vw, .int .i64 (-1), .bool false, .int .i64 0] 74 (0, 0)) := ((bA.block bx (Array.getElem?_eq_some_iff.1 X).1).trans X)
      refine hK.out _ _ (hSx _ X') (fun _ => ?_)
      exact h101 x33 x35 x36 x37 x42 x44 x45 x46 (.slice (some ⟨W.heap.size, 0, none⟩) 1 1) x52 (W.alloc (.cells #[.bool false] 4)) (b.trans (bA.mono hsz)) X' (fl.later bA) (fk.later bA) (owns_later fw bA) (f33.later bA) (N1.made W 4 (.bool false))
  have h011 : ∀ (x33 x35 x36 x37 x42 x44 x45 x46 x51 x52 : Value) (W : World), (Below base w W) → (W.heap[bx]? = some (.cells #[vl, vk, vw, .int .i64 (-1), .bool false, .int .i64 0] 74 (0, 0))) → (RO W base vl k sig) → (RO W base vk k sig) → (W.ownsRow base 4 1 vw k (List.replicate k (.bool false))) → (EM W base x42) → (N1 W 4 x51 (.bool false)) → wpAnyH Try.prog .any of9a (headPost Try.prog .any of9o Q 27 9) (fun W => W.cell? ⟨bx, 0, none⟩ = some vl ∧ W.cell? ⟨bx, 1, none⟩ = some vk ∧ W.cell? ⟨bx, 2, none⟩ = some vw) 8 #[true, true, true, true, true, true, true, false, true, false, false, false, true, true, true, true, true, true, false, false, false, true, true, true, true, true, false] ⟨List.toArray (t0 :: t1 :: t2 :: t3 :: (.pointer (some ⟨bx, 0, none⟩)) :: t5 :: (.slice p 64 c) :: t7 :: t8 :: t9 :: t10 :: t11 :: t12 :: t13 :: t14 :: t15 :: t16 :: t17 :: t18 :: t19 :: t20 :: t21 :: t22 :: t23 :: t24 :: t25 :: (.pointer (some ⟨bx, 0, none⟩)) :: (.pointer (some ⟨bx, 0, none⟩)) :: (.pointer (some ⟨bx, 0, none⟩)) :: (.pointer (some ⟨bx, 0, none⟩)) :: (.pointer (some ⟨bx, 0, none⟩)) :: (.pointer (some ⟨bx, 0, none⟩)) :: vl :: x33 :: (.slice p 64 c) :: x35 :: x36 :: x37 :: (.pointer (some ⟨bx, 0, none⟩)) :: (.pointer (some ⟨bx, 0, none⟩)) :: (.pointer (some ⟨bx, 1, none⟩)) :: vk :: x42 :: (.slice p 64 c) :: x44 :: x45 :: x46 :: (.pointer (some ⟨bx, 0, none⟩)) :: (.pointer (some ⟨bx, 0, none⟩)) :: (.pointer (some ⟨bx, 2, none⟩)) :: vw :: x51 :: x52 :: t53 :: t54 :: t55 :: t56 :: t57 :: t58 :: t59 :: t60 :: []), ds⟩ W := by
    intro x33 x35 x36 x37 x42 x44 x45 x46 x51 x52 W b X fl fk fw f42 f51
    refine wpAnyH_ready (rs := [7]) (by kernel_rfl) (by simp) ?_
    refine AllReadyH.cons (o := ⟨some 33, .buildSlice 31 0 #[], 31, "ref.go:37", #[], none⟩) rfl (fun K hK => ?_) AllReadyH.nil
    · go_simp
      have bA := (Below.refl W.heap.size W).alloc (Nat.le_refl _) (.cells #[] 5)
      have hsz := Nat.le_trans hbase b.size
      have X' : (W.alloc (.cells #[] 5)).heap[bx]? = some (.cells #[vl, vk, vw, .int .i64 (-1), .bool false, .int .i64 0] 74 (0, 0)) := ((bA.block bx (Array.getElem?_eq_some_iff.1 X).1).trans X)
      refine hK.out _ _ (hSx _ X') (fun _ => ?_)
      exact h111 (.slice (some ⟨W.heap.size, 0, none⟩) 0 0) x35 x36 x37 x42 x44 x45 x46 x51 x52 (W.alloc (.cells #[] 5)) (b.trans (bA.mono hsz)) X' (fl.later bA) (fk.later bA) (owns_later fw bA) (EM.made W base hsz) (f42.later bA) f42.fresh (f51.later bA)
  have h010 : ∀ (x33 x35 x36 x37 x42 x44 x45 x46 x51 x52 : Value) (W : World), (Below base w W) → (W.heap[bx]? = some (.cells #[vl, vk, vw, .int .i64 (-1), .bool false, .int .i64 0] 74 (0, 0))) → (RO W base vl k sig) → (RO W base vk k sig) → (W.ownsRow base 4 1 vw k (List.replicate k (.bool false))) → (EM W base x42) → wpAnyH Try.prog .any of9a (headPost Try.prog .any of9o Q 27 9) (fun W => W.cell? ⟨bx, 0, none⟩ = some vl ∧ W.cell? ⟨bx, 1, none⟩ = some vk ∧ W.cell? ⟨bx, 2, none⟩ = some vw) 9 #[true, true, true, true, true, true, true, false, true, false, false, false, true, true, true, true, true, true, false, false, false, true, true, true, true, false, false] ⟨List.toArray (t0 :: t1 :: t2 :: t3 :: (.pointer (some ⟨bx, 0, none⟩)) :: t5 :: (.slice p 64 c) :: t7 :: t8 :: t9 :: t10 :: t11 :: t12 :: t13 :: t14 :: t15 :: t16 :: t17 :: t18 :: t19 :: t20 :: t21 :: t22 :: t23 :: t24 :: t25 :: (.pointer (some ⟨bx, 0, none⟩)) :: (.pointer (some ⟨bx, 0, none⟩)) :: (.pointer (some ⟨bx, 0, none⟩)) :: (.pointer (some ⟨bx, 0, none⟩)) :: (.pointer (some ⟨bx, 0, none⟩)) :: (.pointer (some ⟨bx, 0, none⟩)) :: vl :: x33 :: (.slice p 64 c) :: x35 :: x36 :: x37 :: (.pointer (some ⟨bx, 0, none⟩)) :: (.pointer (some ⟨bx, 0, none⟩)) :: (.pointer (some ⟨bx, 1, none⟩)) :: vk :: x42 :: (.slice p 64 c) :: x44 :: x45 :: x46 :: (.pointer (some ⟨bx, 0, none⟩)) :: (.pointer (some ⟨bx, 0, none⟩)) :: (.pointer (some ⟨bx, 2, none⟩)) :: vw :: x51 :: x52 :: t53 :: t54 :: t55 :: t56 :: t57 :: t58 :: t59 :: t60 :: []), ds⟩ W := by
    intro x33 x35 x36 x37 x42 x44 x45 x46 x51 x52 W b X fl fk fw f42
    refine wpAnyH_ready (rs := [7, 25]) (by kernel_rfl) (by simp) ?_
    refine AllReadyH.cons (o := ⟨some 33, .buildSlice 31 0 #[], 31, "ref.go:37", #[], none⟩) rfl (fun K hK => ?_) (AllReadyH.cons (o := ⟨some 51, .buildSlice 72 1 #[(0, .const (.bool false))], 72, "ref.go:37", #[], none⟩) rfl (fun K hK => ?_) AllReadyH.nil)
    · go_simp
      have bA := (Below.refl W.heap.size W).alloc (Nat.le_refl _) (.cells #[] 5)
      have hsz := Nat.le_trans hbase b.size
      have X' : (W.alloc (.cells #[] 5)).heap[bx]? = some (.cells #[vl, vk, vw, .int .i64 (-1), .bool false, .int .i64 0] 74 (0, 0)) := ((bA.block bx (Array.getElem?_eq_some_iff.1 X).1).trans X)
      refine hK.out _ _ (hSx _ X') (fun _ => ?_)
      exact h110 (.slice (some ⟨W.heap.size, 0, none⟩) 0 0) x35 x36 x37 x42 x44 x45 x46 x51 x52 (W.alloc (.cells #[] 5)) (b.trans (bA.mono hsz)) X' (fl.later bA) (fk.later bA) (owns_later fw bA) (EM.made W base hsz) (f42.later bA) f42.fresh
    · go_simp
      have bA := (Below.refl W.heap.size W).alloc (Nat.le_refl _) (.cells #[.bool false] 4)
      have hsz := Nat.le_trans hbase b.size
      have X' : (W.alloc (.cells #[.bool false] 4)).heap[bx]? = some (.cells #[vl, vk, vw, .int .i64 (-1), .bool false, .int .i64 0] 74 (0, 0)) := ((bA.block bx (Array.getElem?_eq_some_iff.1 X).1).trans X)
      refine hK.out _ _ (hSx _ X') (fun _ => ?_)
      exact h011 x33 x35 x36 x37 x42 x44 x45 x46 (.slice (some ⟨W.heap.size, 0, none⟩) 1 1) x52 (W.alloc (.cells #[.bool false] 4)) (b.trans (bA.mono hsz)) X' (fl.later bA) (fk.later bA) (owns_later fw bA) (f42.later bA) (N1.made W 4 (.bool false))
  have h001 : ∀ (x33 x35 x36 x37 x42 x44 x45 x46 x51 x52 : Value) (W : World), (Below base w W) → (W.heap[bx]? = some (.cells #[vl, vk, vw, .int .i64 (-1), .bool false, .int .i64 0] 74 (0, 0))) → (RO W base vl k sig) → (RO W base vk k sig) → (W.ownsRow base 4 1 vw k (List.replicate k (.bool false))) → (N1 W 4 x51 (.bool false)) → wpAnyH Try.prog .any of9a (headPost Try.prog .any of9o Q 27 9) (fun W => W.cell? ⟨bx, 0, none⟩ = some vl ∧ W.cell? ⟨bx, 1, none⟩ = some vk ∧ W.cell? ⟨bx, 2, none⟩ = some vw) 9 #[true, true, true, true, true, true, true, false, true, false, false, false, true, true, true, true, false, true, false, false, false, true, true, true, true, true, false] ⟨List.toArray (t0 :: t1 :: t2 :: t3 :: (.pointer (some ⟨bx, 0, none⟩)) :: t5 :: (.slice p 64 c) :: t7 :: t8 :: t9 :: t10 :: t11 :: t12 :: t13 :: t14 :: t15 :: t16 :: t17 :: t18 :: t19 :: t20 :: t21 :: t22 :: t23 :: t24 :: t25 :: (.pointer (some ⟨bx, 0, none⟩)) :: (.pointer (some ⟨bx, 0, none⟩)) :: (.pointer (some ⟨bx, 0, none⟩)) :: (.pointer (some ⟨bx, 0, none⟩)) :: (.pointer (some ⟨bx, 0, none⟩)) :: (.pointer (some ⟨bx, 0, none⟩)) :: vl :: x33 :: (.slice p 64 c) :: x35 :: x36 :: x37 :: (.pointer (some ⟨bx, 0, none⟩)) :: (.pointer (some ⟨bx, 0, none⟩)) :: (.pointer (some ⟨bx, 1, none⟩)) :: vk :: x42 :: (.slice p 64 c) :: x44 :: x45 :: x46 :: (.pointer (some ⟨bx, 0, none⟩)) :: (.pointer (some ⟨bx, 0, none⟩)) :: (.pointer (some ⟨bx, 2, none⟩)) :: vw :: x51 :: x52 :: t53 :: t54 :: t55 :: t56 :: t57 :: t58 :: t59 :: t60 :: []), ds⟩ W := by
    intro x33 x35 x36 x37 x42 x44 x45 x46 x51 x52 W b X fl fk fw f51
    refine wpAnyH_ready (rs := [7, 16]) (by kernel_rfl) (by simp) ?_
    refine AllReadyH.cons (o := ⟨some 33, .buildSlice 31 0 #[], 31, "ref.go:37", #[], none⟩) rfl (fun K hK => ?_) (AllReadyH.cons (o := ⟨some 42, .buildSlice 31 0 #[], 31, "ref.go:37", #[], none⟩) rfl (fun K hK => ?_) AllReadyH.nil)
    · go_simp
      have bA := (Below.refl W.heap.size W).alloc (Nat.le_refl _) (.cells #[] 5)
      have hsz := Nat.le_trans hbase b.size
      have X' : (W.alloc (.cells #[] 5)).heap[bx]? = some (.cells #[vl, vk, vw, .int .i64 (-1), .bool false, .int .i64 0] 74 (0, 0)) := ((bA.block bx (Array.getElem?_eq_some_iff.1 X).1).trans X)
      refine hK.out _ _ (hSx _ X') (fun _ => ?_)
      exact h101 (.slice (some ⟨W.heap.size, 0, none⟩) 0 0) x35 x36 x37 x42 x44 x45 x46 x51 x52 (W.alloc (.cells #[] 5)) (b.trans (bA.mono hsz)) X' (fl.later bA) (fk.later bA) (owns_later fw bA) (EM.made W base hsz) (f51.later bA)
    · go_simp
      have bA := (Below.refl W.heap.size W).alloc (Nat.le_refl _) (.cells #[] 5)
      have hsz := Nat.le_trans hbase b.size
      have X' : (W.alloc (.cells #[] 5)).heap[bx]? = some (.cells #[vl, vk, vw, .int .i64 (-1), .bool false, .int .i64 0] 74 (0, 0)) := ((bA.block bx (Array.getElem?_eq_some_iff.1 X).1).trans X)
      refine hK.out _ _ (hSx _ X') (fun _ => ?_)
      exact h011 x33 x35 x36 x37 (.slice (some ⟨W.heap.size, 0, none⟩) 0 0) x44 x45 x46 x51 x52 (W.alloc (.cells #[] 5)) (b.trans (bA.mono hsz)) X' (fl.later bA) (fk.later bA) (owns_later fw bA) (EM.made W base hsz) (f51.later bA)
  have h000 : ∀ (x33 x35 x36 x37 x42 x44 x45 x46 x51 x52 : Value) (W : World), (Below base w W) → (W.heap[bx]? = some (.cells #[vl, vk, vw, .int .i64 (-1), .bool false, .int .i64 0] 74 (0, 0))) → (RO W base vl k sig) → (RO W base vk k sig) → (W.ownsRow base 4 1 vw k (List.replicate k (.bool false))) → wpAnyH Try.prog .any of9a (headPost Try.prog .any of9o Q 27 9) (fun W => W.cell? ⟨bx, 0, none⟩ = some vl ∧ W.cell? ⟨bx, 1, none⟩ = some vk ∧ W.cell? ⟨bx, 2, none⟩ = some vw) 10 #[true, true, true, true, true, true, true, false, true, false, false, false, true, true, true, true, false, true, false, false, false, true, true, true, true, false, false] ⟨List.toArray (t0 :: t1 :: t2 :: t3 :: (.pointer (some ⟨bx, 0, none⟩)) :: t5 :: (.slice p 64 c) :: t7 :: t8 :: t9 :: t10 :: t11 :: t12 :: t13 :: t14 :: t15 :: t16 :: t17 :: t18 :: t19 :: t20 :: t21 :: t22 :: t23 :: t24 :: t25 :: (.pointer (some ⟨bx, 0, none⟩)) :: (.pointer (some ⟨bx, 0, none⟩)) :: (.pointer (some ⟨bx, 0, none⟩)) :: (.pointer (some ⟨bx, 0, none⟩)) :: (.pointer (some ⟨bx, 0, none⟩)) :: (.pointer (some ⟨bx, 0, none⟩)) :: vl :: x33 :: (.slice p 64 c) :: x35 :: x36 :: x37 :: (.pointer (some ⟨bx, 0, none⟩)) :: (.pointer (some ⟨bx, 0, none⟩)) :: (.pointer (some ⟨bx, 1, none⟩)) :: vk :: x42 :: (.slice p 64 c) :: x44 :: x45 :: x46 :: (.pointer (some ⟨bx, 0, none⟩)) :: (.pointer (some ⟨bx, 0, none⟩)) :: (.pointer (some ⟨bx, 2, none⟩)) :: vw :: x51 :: x52 :: t53 :: t54 :: t55 :: t56 :: t57 :: t58 :: t59 :: t60 :: []), ds⟩ W := by
    intro x33 x35 x36 x37 x42 x44 x45 x46 x51 x52 W b X fl fk fw
    refine wpAnyH_ready (rs := [7, 16, 25]) (by kernel_rfl) (by simp) ?_
    refine AllReadyH.cons (o := ⟨some 33, .buildSlice 31 0 #[], 31, "ref.go:37", #[], none⟩) rfl (fun K hK => ?_) (AllReadyH.cons (o := ⟨some 42, .buildSlice 31 0 #[], 31, "ref.go:37", #[], none⟩) rfl (fun K hK => ?_) (AllReadyH.cons (o := ⟨some 51, .buildSlice 72 1 #[(0, .const (.bool false))], 72, "ref.go:37", #[], none⟩) rfl (fun K hK => ?_) AllReadyH.nil))
    · go_simp
      have bA := (Below.refl W.heap.size W).alloc (Nat.le_refl _) (.cells #[] 5)
      have hsz := Nat.le_trans hbase b.size
      have X' : (W.alloc (.cells #[] 5)).heap[bx]? = some (.cells #[vl, vk, vw, .int .i64 (-1), .bool false, .int .i64 0] 74 (0, 0)) := ((bA.block bx (Array.getElem?_eq_some_iff.1 X).1).trans X)
      refine hK.out _ _ (hSx _ X') (fun _ => ?_)
      exact h100 (.slice (some ⟨W.heap.size, 0, none⟩) 0 0) x35 x36 x37 x42 x44 x45 x46 x51 x52 (W.alloc (.cells #[] 5)) (b.trans (bA.mono hsz)) X' (fl.later bA) (fk.later bA) (owns_later fw bA) (EM.made W base hsz)
    · go_simp
      have bA := (Below.refl W.heap.size W).alloc (Nat.le_refl _) (.cells #[] 5)
      have hsz := Nat.le_trans hbase b.size
      have X' : (W.alloc (.cells #[] 5)).heap[bx]? = some (.cells #[vl, vk, vw, .int .i64 (-1), .bool false, .int .i64 0] 74 (0, 0)) := ((bA.block bx (Array.getElem?_eq_some_iff.1 X).1).trans X)
      refine hK.out _ _ (hSx _ X') (fun _ => ?_)
      exact h010 x33 x35 x36 x37 (.slice (some ⟨W.heap.size, 0, none⟩) 0 0) x44 x45 x46 x51 x52 (W.alloc (.cells #[] 5)) (b.trans (bA.mono hsz)) X' (fl.later bA) (fk.later bA) (owns_later fw bA) (EM.made W base hsz)
    · go_simp
      have bA := (Below.refl W.heap.size W).alloc (Nat.le_refl _) (.cells #[.bool false] 4)
      have hsz := Nat.le_trans hbase b.size
      have X' : (W.alloc (.cells #[.bool false] 4)).heap[bx]? = some (.cells #[vl, vk, vw, .int .i64 (-1), .bool false, .int .i64 0] 74 (0, 0)) := ((bA.block bx (Array.getElem?_eq_some_iff.1 X).1).trans X)
      refine hK.out _ _ (hSx _ X') (fun _ => ?_)
      exact h001 x33 x35 x36 x37 x42 x44 x45 x46 (.slice (some ⟨W.heap.size, 0, none⟩) 1 1) x52 (W.alloc (.cells #[.bool false] 4)) (b.trans (bA.mono hsz)) X' (fl.later bA) (fk.later bA) (owns_later fw bA) (N1.made W 4 (.bool false))
  refine wp_region_any (by kernel_rfl) ?_
  refine wpAny_take (i := 1) (oi := ⟨some 27, .move (.tmp 4), 27, "ref.go:37", #[⟨29, .gcOnly .lateStores⟩], none⟩) (v := .pointer (some ⟨bx, 0, none⟩)) (by rfl) (by kernel_rfl) (by kernel_rfl) (by kernel_rfl) (fun c a w h => hQp c _ a w h) (Or.inl ⟨by rfl, fun w => rfl⟩) ?_
  refine wpAny_take (i := 2) (oi := ⟨some 28, .move (.tmp 4), 27, "ref.go:37", #[⟨32, .gcOnly .lateStores⟩], none⟩) (v := .pointer (some ⟨bx, 0, none⟩)) (by rfl) (by kernel_rfl) (by kernel_rfl) (by kernel_rfl) (fun c a w h => hQp c _ a w h) (Or.inl ⟨by rfl, fun w => rfl⟩) ?_
  simp only [Act.put, List.setIfInBounds_toArray, List.set_cons_zero, List.set_cons_succ]
  refine wpAny_cut (P := Try.prog) (ops := of9o) (fun W => W.cell? ⟨bx, 0, none⟩ = some vl ∧ W.cell? ⟨bx, 1, none⟩ = some vk ∧ W.cell? ⟨bx, 2, none⟩ = some vw) 27 9 [1, 2] of9a (by kernel_rfl) (by kernel_rfl) #[false, true, true, false, false, false, false, false, false, false, false, false, false, false, false, false, false, false, false, false, false, false, false, false, false, false, false] (by rfl) (by rfl) (by kernel_rfl) 25 ?_
  refine tkY 0 ⟨some 26, .move (.tmp 4), 27, "ref.go:37", #[], none⟩ ?v0 hHeld ?y0 ?r0 (hQ := fun c a w h => hQh c _ a w h)
  case y0 => (intro w hSw; (try dsimp only at hSw); go_simp) <;> with_reducible rfl
  simp only [Act.put, List.setIfInBounds_toArray, List.set_cons_zero, List.set_cons_succ]
  refine tkY 3 ⟨some 29, .move (.tmp 4), 27, "ref.go:37", #[], none⟩ ?v3 hHeld ?y3 ?r3 (hQ := fun c a w h => hQh c _ a w h)
  case y3 => (intro w hSw; (try dsimp only at hSw); go_simp) <;> with_reducible rfl
  simp only [Act.put, List.setIfInBounds_toArray, List.set_cons_zero, List.set_cons_succ]
  refine tkY 4 ⟨some 30, .nilCheck (.tmp 29), 0, "ref.go:37", #[⟨3, .data⟩], none⟩ ?v4 hHeld ?y4 ?r4 (hQ := fun c a w h => hQh c _ a w h)
  case y4 => (intro w hSw; (try dsimp only at hSw); go_simp) <;> with_reducible rfl
  simp only [Act.put, List.setIfInBounds_toArray, List.set_cons_zero, List.set_cons_succ]
  refine tkY 5 ⟨some 31, .fieldAddr 74 (.tmp 30) 0, 0, "ref.go:37", #[⟨4, .data⟩], none⟩ ?v5 hHeld ?y5 ?r5 (hQ := fun c a w h => hQh c _ a w h)
  case y5 => (intro w hSw; (try dsimp only at hSw); go_simp) <;> with_reducible rfl
  simp only [Act.put, List.setIfInBounds_toArray, List.set_cons_zero, List.set_cons_succ]
  refine tkY 6 ⟨some 32, .load 36 (.tmp 31), 36, "ref.go:37", #[⟨5, .data⟩], none⟩ ?v6 hHeld ?y6 ?r6 (hQ := fun c a w h => hQh c _ a w h)
  case y6 => (intro w hSw; (try dsimp only at hSw); go_simp) <;> with_reducible rfl
  simp only [Act.put, List.setIfInBounds_toArray, List.set_cons_zero, List.set_cons_succ]
  refine tkY 8 ⟨some 34, .move (.tmp 6), 31, "ref.go:37", #[], none⟩ ?v8 hHeld ?y8 ?r8 (hQ := fun c a w h => hQh c _ a w h)
  case y8 => (intro w hSw; (try dsimp only at hSw); go_simp) <;> with_reducible rfl
  simp only [Act.put, List.setIfInBounds_toArray, List.set_cons_zero, List.set_cons_succ]
  refine tkY 12 ⟨some 38, .move (.tmp 4), 27, "ref.go:37", #[], none⟩ ?v12 hHeld ?y12 ?r12 (hQ := fun c a w h => hQh c _ a w h)
  case y12 => (intro w hSw; (try dsimp only at hSw); go_simp) <;> with_reducible rfl
  simp only [Act.put, List.setIfInBounds_toArray, List.set_cons_zero, List.set_cons_succ]
  refine tkY 13 ⟨some 39, .nilCheck (.tmp 38), 0, "ref.go:37", #[⟨12, .data⟩], none⟩ ?v13 hHeld ?y13 ?r13 (hQ := fun c a w h => hQh c _ a w h)
  case y13 => (intro w hSw; (try dsimp only at hSw); go_simp) <;> with_reducible rfl
  simp only [Act.put, List.setIfInBounds_toArray, List.set_cons_zero, List.set_cons_succ]
  refine tkY 14 ⟨some 40, .fieldAddr 74 (.tmp 39) 1, 0, "ref.go:37", #[⟨13, .data⟩], none⟩ ?v14 hHeld ?y14 ?r14 (hQ := fun c a w h => hQh c _ a w h)
  case y14 => (intro w hSw; (try dsimp only at hSw); go_simp) <;> with_reducible rfl
  simp only [Act.put, List.setIfInBounds_toArray, List.set_cons_zero, List.set_cons_succ]
  refine tkY 15 ⟨some 41, .load 36 (.tmp 40), 36, "ref.go:37", #[⟨14, .data⟩], none⟩ ?v15 hHeld ?y15 ?r15 (hQ := fun c a w h => hQh c _ a w h)
  case y15 => (intro w hSw; (try dsimp only at hSw); go_simp) <;> with_reducible rfl
  simp only [Act.put, List.setIfInBounds_toArray, List.set_cons_zero, List.set_cons_succ]
  refine tkY 17 ⟨some 43, .move (.tmp 6), 31, "ref.go:37", #[], none⟩ ?v17 hHeld ?y17 ?r17 (hQ := fun c a w h => hQh c _ a w h)
  case y17 => (intro w hSw; (try dsimp only at hSw); go_simp) <;> with_reducible rfl
  simp only [Act.put, List.setIfInBounds_toArray, List.set_cons_zero, List.set_cons_succ]
  refine tkY 21 ⟨some 47, .move (.tmp 4), 27, "ref.go:37", #[], none⟩ ?v21 hHeld ?y21 ?r21 (hQ := fun c a w h => hQh c _ a w h)
  case y21 => (intro w hSw; (try dsimp only at hSw); go_simp) <;> with_reducible rfl
  simp only [Act.put, List.setIfInBounds_toArray, List.set_cons_zero, List.set_cons_succ]
  refine tkY 22 ⟨some 48, .nilCheck (.tmp 47), 0, "ref.go:37", #[⟨21, .data⟩], none⟩ ?v22 hHeld ?y22 ?r22 (hQ := fun c a w h => hQh c _ a w h)
  case y22 => (intro w hSw; (try dsimp only at hSw); go_simp) <;> with_reducible rfl
  simp only [Act.put, List.setIfInBounds_toArray, List.set_cons_zero, List.set_cons_succ]
  refine tkY 23 ⟨some 49, .fieldAddr 74 (.tmp 48) 2, 0, "ref.go:37", #[⟨22, .data⟩], none⟩ ?v23 hHeld ?y23 ?r23 (hQ := fun c a w h => hQh c _ a w h)
  case y23 => (intro w hSw; (try dsimp only at hSw); go_simp) <;> with_reducible rfl
  simp only [Act.put, List.setIfInBounds_toArray, List.set_cons_zero, List.set_cons_succ]
  refine tkY 24 ⟨some 50, .load 72 (.tmp 49), 72, "ref.go:37", #[⟨23, .data⟩], none⟩ ?v24 hHeld ?y24 ?r24 (hQ := fun c a w h => hQh c _ a w h)
  case y24 => (intro w hSw; (try dsimp only at hSw); go_simp) <;> with_reducible rfl
  simp only [Act.put, List.setIfInBounds_toArray, List.set_cons_zero, List.set_cons_succ]
  have bD : Below w.heap.size w w.drew := (Below.refl _ _).drew
  exact h000 t33 t35 t36 t37 t42 t44 t45 t46 t51 t52 w.drew (bD.mono hbase) hx (hl.later bD) (hk.later bD) (owns_later hw bD)

set_option maxRecDepth 10000 in
theorem of9 (w : World) (base bx k c : Nat) (p : Option Addr) (vl vk vw : Value) (l : List UInt8) (sig : Nat → List UInt8) (ds : List Deferred) (t0 t1 t2 t3 t5 t7 t8 t9 t10 t11 t12 t13 t14 t15 t16 t17 t18 t19 t20 t21 t22 t23 t24 t25 t26 t27 t28 t29 t30 t31 t32 t33 t34 t35 t36 t37 t38 t39 t40 t41 t42 t43 t44 t45 t46 t47 t48 t49 t50 t51 t52 t53 t54 t55 t56 t57 t58 t59 t60 : Value) (Q : Exit → Act → World → Prop)
    (hx : w.heap[bx]? = some (.cells #[vl, vk, vw, .int .i64 (-1), .bool false, .int .i64 0] 74 (0, 0))) (hbase : base ≤ w.heap.size) (hbx : base ≤ bx)
    (hl : RO w base vl k sig) (hk : RO w base vk k sig) (hw : w.ownsRow base 4 1 vw k (List.replicate k (.bool false))) (hne : ∀ g, vl.ownBlock = some g → vk.ownBlock ≠ some g)
    (hb : HB w (.slice p 64 c) l) (hpb : ∀ a, p = some a → a.block < base) (hlen : sig k = l) (hsig : ∀ j, j ≤ k → (sig j).length = 64) (hkm : k < 16384)
    (hQ : ∀ (s26 s27 s28 s29 s30 s31 s32 s33 s34 s35 s36 s37 s38 s39 s40 s41 s42 s43 s44 s45 s46 s47 s48 s49 s50 s51 s52 s53 s54 s55 s56 s57 s58 : Value) (g1 g2 g3 c1 c2 c3 : Nat) (W : World), RO W base (.slice (some ⟨g1, 0, none⟩) (k + 1) c1) (k + 1) sig → RO W base (.slice (some ⟨g2, 0, none⟩) (k + 1) c2) (k + 1) sig → W.ownsRow base 4 1 (.slice (some ⟨g3, 0, none⟩) (k + 1) c3) (k + 1) (List.replicate (k + 1) (.bool false)) → g1 ≠ g2 →
      W.heap[bx]? = some (.cells #[.slice (some ⟨g1, 0, none⟩) (k + 1) c1, .slice (some ⟨g2, 0, none⟩) (k + 1) c2, .slice (some ⟨g3, 0, none⟩) (k + 1) c3, .int .i64 (-1), .bool false, .int .i64 0] 74 (0, 0)) → Below base w W → Q .normal ⟨List.toArray (t0 :: t1 :: t2 :: t3 :: (.pointer (some ⟨bx, 0, none⟩)) :: t5 :: (.slice p 64 c) :: t7 :: t8 :: t9 :: t10 :: t11 :: t12 :: t13 :: t14 :: t15 :: t16 :: t17 :: t18 :: t19 :: t20 :: t21 :: t22 :: t23 :: t24 :: t25 :: s26 :: s27 :: s28 :: s29 :: s30 :: s31 :: s32 :: s33 :: s34 :: s35 :: s36 :: s37 :: s38 :: s39 :: s40 :: s41 :: s42 :: s43 :: s44 :: s45 :: s46 :: s47 :: s48 :: s49 :: s50 :: s51 :: s52 :: s53 :: s54 :: s55 :: s56 :: s57 :: s58 :: t59 :: t60 :: []), ds⟩ W) :
    (Code.region 9 of9o true).wp Try.prog Q ⟨List.toArray (t0 :: t1 :: t2 :: t3 :: (.pointer (some ⟨bx, 0, none⟩)) :: t5 :: (.slice p 64 c) :: t7 :: t8 :: t9 :: t10 :: t11 :: t12 :: t13 :: t14 :: t15 :: t16 :: t17 :: t18 :: t19 :: t20 :: t21 :: t22 :: t23 :: t24 :: t25 :: t26 :: t27 :: t28 :: t29 :: t30 :: t31 :: t32 :: t33 :: t34 :: t35 :: t36 :: t37 :: t38 :: t39 :: t40 :: t41 :: t42 :: t43 :: t44 :: t45 :: t46 :: t47 :: t48 :: t49 :: t50 :: t51 :: t52 :: t53 :: t54 :: t55 :: t56 :: t57 :: t58 :: t59 :: t60 :: []), ds⟩ w :=
  wp_region_noPanic (of9_core w base bx k c p vl vk vw l sig ds t0 t1 t2 t3 t5 t7 t8 t9 t10 t11 t12 t13 t14 t15 t16 t17 t18 t19 t20 t21 t22 t23 t24 t25 t26 t27 t28 t29 t30 t31 t32 t33 t34 t35 t36 t37 t38 t39 t40 t41 t42 t43 t44 t45 t46 t47 t48 t49 t50 t51 t52 t53 t54 t55 t56 t57 t58 t59 t60 (NoPanic Q) hx hbase hbx hl hk hw hne hb hpb hlen hsig hkm (fun _ _ _ _ h => h) (fun s26 s27 s28 s29 s30 s31 s32 s33 s34 s35 s36 s37 s38 s39 s40 s41 s42 s43 s44 s45 s46 s47 s48 s49 s50 s51 s52 s53 s54 s55 s56 s57 s58 g1 g2 g3 c1 c2 c3 W e1 e2 e3 e4 e5 e6 => NoPanic.normal (hQ s26 s27 s28 s29 s30 s31 s32 s33 s34 s35 s36 s37 s38 s39 s40 s41 s42 s43 s44 s45 s46 s47 s48 s49 s50 s51 s52 s53 s54 s55 s56 s57 s58 g1 g2 g3 c1 c2 c3 W e1 e2 e3 e4 e5 e6)))

end Go.Proofs.Ytmikhebbcmniaaa
