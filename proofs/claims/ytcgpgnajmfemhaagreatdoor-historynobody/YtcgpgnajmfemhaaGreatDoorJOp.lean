/- What this text proves: where the two tables of package sha read as the program's own text lays them, their variables hold SHA-256's numbers, and a world of that kind is there. What this text proves: an argument that is a slice of bytes, or a slice of slices of bytes, as the claim's reading has it, holds bytes in memory; and its length is that of the reading's elements. What this text holds: plain facts (no program) on the links of an epoch, the next epoch on a way, the way, and how long it may be. What this text proves: the walks of math/bits' TrailingZeros64 and TrailingZeros over this program, where the table lies in its variable. What this text proves: where the tables of package math/bits read as the program's own text lays them, the second one's variable holds its numbers; closed facts that a card's proof asks. What this text proves: an argument that is a slice of bindings, as the claim's reading has it, has that form. -/
import Derived.Test.YtcgpgnajmfemhaaGreatDoorCards
import Derived.Test.YtcgpgnajmfemhaaGreatDoorTie
import Derived.Test.YtcgpgnajmfemhaaGreatDoorJSm
import Derived.ProofKit
import Derived.OpenShut
import Derived.ChangeOld
import Derived.Deep.DeepHandedRow
import Derived.Lib.LaidTab
import Derived.Stop.LaidErr
import Derived.Test.YtcgpgnajmfemhaaGreatDoorRows
import Derived.SizedLaws
import Derived.JoinedCond
import Derived.Deep.Matrix
import Derived.Lib.TrailingZeros
import Derived.Test.YtcgpgnajmfemhaaGreatDoorJOw
import Derived.Laws.Bits64b
namespace Go.Proofs.YtcgpgnajmfemhaaGreatDoor
open Go.ChangeShapes Go.WideShapes Go.ChangeAt Go.RowKit

theorem own : ownKnob Tryz.prog.godebug = none := by kernel_rfl
theorem laidOut : laidOutB Tryz.prog = true := by kernel_rfl
theorem gStart : Tryz.prog.globalNamed "annals/sha.start" = some 0 := by kernel_rfl
theorem gStartType : (Tryz.prog.globals[0]?).map (·.type) = some 217 := by kernel_rfl
theorem gRounds : Tryz.prog.globalNamed "annals/sha.rounds" = some 1 := by kernel_rfl
theorem gRoundsType : (Tryz.prog.globals[1]?).map (·.type) = some 248 := by kernel_rfl
theorem cellsSt8 : Tryz.prog.cellsOf 217 = 8 := by kernel_rfl
theorem cellsSt64 : Tryz.prog.cellsOf 248 = 64 := by kernel_rfl
theorem cellsU32 : Tryz.prog.cellsOf 107 = 1 := by kernel_rfl

def startZ : List Int := [1779033703, 3144134277, 1013904242, 2773480762, 1359893119, 2600822924, 528734635, 1541459225]
def roundsZ : List Int := [1116352408, 1899447441, 3049323471, 3921009573, 961987163, 1508970993, 2453635748, 2870763221, 3624381080, 310598401, 607225278, 1426881987, 1925078388, 2162078206, 2614888103, 3248222580, 3835390401, 4022224774, 264347078, 604807628, 770255983, 1249150122, 1555081692, 1996064986, 2554220882, 2821834349, 2952996808, 3210313671, 3336571891, 3584528711, 113926993, 338241895, 666307205, 773529912, 1294757372, 1396182291, 1695183700, 1986661051, 2177026350, 2456956037, 2730485921, 2820302411, 3259730800, 3345764771, 3516065817, 3600352804, 4094571909, 275423344, 430227734, 506948616, 659060556, 883997877, 958139571, 1322822218, 1537002063, 1747873779, 1955562222, 2024104815, 2227730452, 2361852424, 2428436474, 2756734187, 3204031479, 3329325298]
theorem startZ_eq : (startZ.map fun z => Value.int .u32 z) = wcs (stL startSt) := by kernel_rfl
theorem roundsZ_eq : (roundsZ.map fun z => Value.int .u32 z) = wcs kTab := by kernel_rfl
theorem laidStart : (Rows.laid_annals_sha_start : DataW Unit) = Lib.tabData .u32 startZ := by kernel_rfl
theorem laidRounds : (Rows.laid_annals_sha_rounds : DataW Unit) = Lib.tabData .u32 roundsZ := by kernel_rfl

/-- What the row's list gives: the tables. -/
theorem tabs_of {W : World} (h : laidMet Tryz.prog [("annals/sha.start", Rows.laid_annals_sha_start), ("annals/sha.rounds", Rows.laid_annals_sha_rounds)] W) : Tabs W := by
  have h2 := laidMet.tail h
  rw [laidStart] at h
  rw [laidRounds] at h2
  have t1 := Lib.tabIs_of_head gStart gStartType Tryz.underlying217 Tryz.underlying107 cellsU32 cellsSt8 h
  have t2 := Lib.tabIs_of_head gRounds gRoundsType Tryz.underlying248 Tryz.underlying107 cellsU32 cellsSt64 h2
  unfold Lib.TabIs at t1 t2
  rw [startZ_eq] at t1
  rw [roundsZ_eq] at t2
  constructor
  · unfold World.var? at t1
    rw [gStart] at t1
    simp only [Option.bind_some] at t1
    split at t1
    · rename_i cs t fr he
      simp only [Option.some.injEq] at t1
      subst t1
      exact ⟨t, fr, he⟩
    · cases t1
  · intro i x hx
    have := World.var?_cell gRounds t2 i
    rw [this]
    simp [wcs, hx, wc]

def startCells : Array Value := (startZ.map fun z => Value.int .u32 z).toArray
def roundsCells : Array Value := (roundsZ.map fun z => Value.int .u32 z).toArray

end Go.Proofs.YtcgpgnajmfemhaaGreatDoor

namespace Go.Proofs.YtcgpgnajmfemhaaGreatDoor
open Go.ChangeShapes Go.WideShapes Go.ChangeAt Go.RowKit

/-- The bytes of numbers. -/
def bytesOf (zs : List Int) : List UInt8 := zs.map fun z => UInt8.ofNat z.toNat

theorem u8_wf {z : Int} (h : (Lit.int .u8 z).wf = true) : 0 ≤ z ∧ z ≤ 255 := bounds_u8 h

theorem bc_ofNat {z : Int} (h : (Lit.int .u8 z).wf = true) : bc (UInt8.ofNat z.toNat) = .int .u8 z := by
  have := u8_wf h
  simp [bc]
  omega

theorem hb_cells {W : World} {x : Addr} {len cap : Nat} {zs : List Int} (hl : len ≤ cap) (hm : cap ≤ maxLen) (hz : zs.length = cap) (hcell : ∀ i, i < zs.length → W.cell? (x.add i) = some (.int .u8 (zs.getD i 0))) (hwz : ∀ n ∈ zs, (Lit.int .u8 n).wf = true) :
    HB W (.slice (some x) len cap) (bytesOf (zs.take len)) := by
  refine ⟨some x, cap, ?_, ?_, hm, (fun h => by cases h), fun hne => ?_⟩
  · congr 1
    simp [bytesOf]
    omega
  · simp [bytesOf]
    omega
  · have h0 : 0 < zs.length := by
      rcases Nat.eq_zero_or_pos zs.length with h | h
      · have : zs = [] := List.eq_nil_of_length_eq_zero h
        subst this
        exact absurd (by simp [bytesOf]) hne
      · exact h
    obtain ⟨b, o, spot⟩ := x
    have hs : spot = none := by simpa [Addr.add] using World.cell?_spot (hcell 0 h0)
    subst hs
    refine ⟨b, o, rfl, fun i y hy => ?_⟩
    have hi : i < (zs.take len).length := by
      have := (List.getElem?_eq_some_iff.1 hy).1
      simpa [bytesOf] using this
    have hi2 : i < zs.length := by simp at hi; omega
    have hc := hcell i hi2
    have ha : (⟨b, o, none⟩ : Addr).add i = ⟨b, o + i, none⟩ := by unfold Addr.add; split <;> simp_all
    rw [ha] at hc
    rw [hc]
    have hil : i < len := by simp at hi; omega
    have e : y = UInt8.ofNat (zs.getD i 0).toNat := by
      have : (bytesOf (zs.take len))[i]? = some (UInt8.ofNat (zs.getD i 0).toNat) := by
        simp [bytesOf, hil, hi2, List.getD]
      rw [this] at hy
      simpa using hy.symm
    rw [e, bc_ofNat (hwz _ (by simp [List.getD, hi2]))]

set_option maxRecDepth 100000 in
set_option maxHeartbeats 400000 in
theorem open_hb {H : Type} {enc : TypeId × Value → H} {W : World} {base : Nat} {v0 : Value} {d0 : DataW H} {p0 : List MemPlace}
    (hval : Value.okWide Tryz.prog W .any base 37 v0) (h0 : DataW.Trod enc Tryz.prog W 0 (fun _ => true) true 37 v0 d0 p0) :
    ∃ l : List UInt8, HB W v0 l ∧ (l = [] ∨ ∃ elems spare, d0 = .slice elems spare ∧ elems.length = l.length) := by
  obtain ⟨a0, len0, cap0, rfl⟩ := okWide_slice Tryz.underlying37 hval
  obtain ⟨fuel, hf⟩ := h0
  rcases open_ints Tryz.underlying37 Tryz.underlying5 (by kernel_rfl) hf with ⟨hcs, _⟩ | ⟨x, l, c, zs, hcs, _, hl, hm, hz, hx, hcell, hwz⟩
  · simp [Value.cells] at hcs
    obtain ⟨rfl, rfl, rfl⟩ := hcs
    exact ⟨[], HB.nil W, .inl rfl⟩
  · simp [Value.cells] at hcs
    obtain ⟨rfl, rfl, rfl⟩ := hcs
    have hzc : zs.length = cap0 := by simpa using hz
    simp only [Prod.mk.injEq] at hx
    exact ⟨bytesOf (zs.take len0), hb_cells hl hm hzc hcell hwz, .inr ⟨_, _, hx.1, by simp [lits, bytesOf]⟩⟩

theorem bytes_u8 : Tryz.prog.bytesOf 5 = 1 := by kernel_rfl
theorem hb_reach {H : Type} {ts : List TypeId} {ds : List (DataW H)} {d0 : DataW H} {l : List UInt8} (h : (DataW.weightsEach Tryz.prog ts ds).all (· ≤ reachBytes) = true) (j : Nat) (ht : ts[j]? = some 37) (hd : ds[j]? = some d0) (hl : l = [] ∨ ∃ elems spare, d0 = .slice elems spare ∧ elems.length = l.length) : l.length ≤ 140737488351232 := by
  rcases hl with rfl | ⟨elems, spare, rfl, e⟩
  · simp
  · have := sized_slice h ht hd Tryz.underlying37
    rw [bytes_u8] at this
    unfold reachBytes at this
    omega

set_option maxRecDepth 100000 in
set_option maxHeartbeats 400000 in
theorem open_pa {H : Type} {enc : TypeId × Value → H} {W : World} {base : Nat} {v0 : Value} {d0 : DataW H} {p0 : List MemPlace}
    (hval : Value.okWide Tryz.prog W .any base 38 v0) (h0 : DataW.Trod enc Tryz.prog W 0 (fun _ => true) true 38 v0 d0 p0) :
    ∃ ls : List (List UInt8), PA W v0 ls := by
  obtain ⟨a0, len0, cap0, rfl⟩ := okWide_slice Tryz.underlying38 hval
  obtain ⟨fuel, hf⟩ := h0
  rcases Go.Deep.open_int_rows Tryz.underlying38 Tryz.underlying37 Tryz.underlying5 (by kernel_rfl) (by kernel_rfl) hf with ⟨hcs, _⟩ | ⟨a, len, cap, A, L, C, Z, hcs, _, hl, hm, _, hx⟩
  · simp [Value.cells] at hcs
    obtain ⟨rfl, rfl, rfl⟩ := hcs
    exact ⟨[], PA.nil W⟩
  · simp [Value.cells] at hcs
    obtain ⟨rfl, rfl, rfl⟩ := hcs
    refine ⟨(List.range len0).map fun r => bytesOf ((Z r).take (L r)), some a, cap0, (List.range len0).map fun r => .slice (A r) (L r) (C r), by simp, by simpa using hl, hm, (fun h => by cases h), by simp, fun hne => ?_, fun i x l hxi hli => ?_⟩
    · have hlen : 0 < len0 := by
        rcases Nat.eq_zero_or_pos len0 with h | h
        · subst h
          exact absurd rfl hne
        · exact h
      have hc0 := (hx 0 (by omega)).1
      obtain ⟨b, o, spot⟩ := a
      have hs : spot = none := by simpa [Addr.add] using World.cell?_spot hc0
      subst hs
      refine ⟨b, o, rfl, fun i x hxi => ?_⟩
      have hi : i < len0 := by
        have := (List.getElem?_eq_some_iff.1 hxi).1
        simpa using this
      have hc := (hx i (by omega)).1
      have ha : (⟨b, o, none⟩ : Addr).add i = ⟨b, o + i, none⟩ := by unfold Addr.add; split <;> simp_all
      rw [ha] at hc
      rw [hc]
      simp [hi] at hxi
      rw [hxi]
    · have hi : i < len0 := by
        have := (List.getElem?_eq_some_iff.1 hxi).1
        simpa using this
      simp [hi] at hxi hli
      subst hxi; subst hli
      obtain ⟨_, h1, h2, h3, h4, h5, h6⟩ := hx i (by omega)
      cases hA : A i with
      | none =>
        have hc := h5 hA
        have hL : L i = 0 := by omega
        rw [hL, hc]
        simp only [List.take_zero, bytesOf, List.map_nil]
        exact HB.nil W
      | some a' =>
        exact hb_cells h1 h2 h3 (fun j hj => (h6 a' hA).2 j (by omega)) h4

end Go.Proofs.YtcgpgnajmfemhaaGreatDoor

namespace Go.Proofs.YtcgpgnajmfemhaaGreatDoor

/-- How many times 2 divides e. -/
def tz (e : Nat) : Nat := Lib.ctz 64 e

theorem tz_spec (e : Nat) (h0 : 0 < e) (h : e < 9223372036854775808) : ∃ m, e = 2 ^ tz e * (2 * m + 1) ∧ tz e < 63 := by
  obtain ⟨m, hm, hk⟩ := Lib.ctzFrom_spec 64 e h0 (by omega)
  have e1 : tz e = Lib.ctzFrom 64 e := by unfold tz Lib.ctz; rw [if_neg (by omega)]
  rw [← e1] at hm hk
  refine ⟨m, hm, ?_⟩
  apply Nat.lt_of_not_le
  intro hle
  have h1 : 2 ^ 63 ≤ 2 ^ tz e := Nat.pow_le_pow_right (by decide) hle
  have h2 : 2 ^ tz e ≤ 2 ^ tz e * (2 * m + 1) := Nat.le_mul_of_pos_right _ (by omega)
  have h3 : (2 : Nat) ^ 63 = 9223372036854775808 := by decide
  omega

theorem tz_dvd (e k : Nat) (h0 : 0 < e) (h : e < 9223372036854775808) (hk : k ≤ tz e) : 2 ^ k ∣ e := by
  obtain ⟨m, hm, _⟩ := tz_spec e h0 h
  have h1 : 2 ^ k ∣ 2 ^ tz e := Nat.pow_dvd_pow 2 hk
  have h2 : 2 ^ k ∣ 2 ^ tz e * (2 * m + 1) := Nat.dvd_trans h1 (Nat.dvd_mul_right _ _)
  rwa [← hm] at h2

theorem tz_not (e : Nat) (h0 : 0 < e) (h : e < 9223372036854775808) : ¬ 2 ^ (tz e + 1) ∣ e := by
  obtain ⟨m, hm, _⟩ := tz_spec e h0 h
  rintro ⟨c, hc⟩
  rw [Nat.pow_succ, Nat.mul_assoc] at hc
  rw [hc] at hm
  have h2 : 2 * c = 2 * m + 1 := by
    have hp : 0 < 2 ^ tz (2 ^ tz e * (2 * c)) := Nat.pow_pos (by decide)
    rw [← hc] at hm hp
    rw [hc] at hm
    have : 2 ^ tz e * (2 * c) = 2 ^ tz e * (2 * m + 1) := by
      have e2 : tz (2 ^ tz e * (2 * c)) = tz e := by rw [← hc]
      rw [e2] at hm
      exact hm
    exact Nat.eq_of_mul_eq_mul_left (Nat.pow_pos (by decide)) this
  omega

theorem tz_ge (e k : Nat) (h0 : 0 < e) (h : e < 9223372036854775808) (hk : 2 ^ k ∣ e) : k ≤ tz e := by
  apply Nat.le_of_not_lt
  intro hlt
  exact tz_not e h0 h (Nat.dvd_trans (Nat.pow_dvd_pow 2 hlt) hk)

theorem tz_pow_le (e k : Nat) (h0 : 0 < e) (h : e < 9223372036854775808) (hk : k ≤ tz e) : 2 ^ k ≤ e := Nat.le_of_dvd h0 (tz_dvd e k h0 h hk)

/-- The first n links of e. -/
def lk (e n : Nat) : List Nat := (List.range n).map fun k => e - 2 ^ k
theorem lk_length (e n : Nat) : (lk e n).length = n := by simp [lk]
theorem lk_succ (e n : Nat) : lk e (n + 1) = lk e n ++ [e - 2 ^ n] := by simp [lk, List.range_succ]
theorem lk_zero (e : Nat) : lk e 0 = [] := rfl

/-- The links of an epoch. -/
def linksL (e : Nat) : List Nat := if e = 0 then [] else lk e (tz e + 1)
theorem linksL_zero : linksL 0 = [] := rfl
theorem linksL_pos (e : Nat) (h : 0 < e) : linksL e = lk e (tz e + 1) := by unfold linksL; rw [if_neg (by omega)]
theorem linksL_len (e : Nat) (h : e < 9223372036854775808) : (linksL e).length ≤ 63 := by
  unfold linksL
  split
  · simp
  · rw [lk_length]
    have := (tz_spec e (by omega) h).choose_spec.2
    omega

theorem mem_lk {e n x : Nat} (h : x ∈ lk e n) : ∃ k, k < n ∧ x = e - 2 ^ k := by
  unfold lk at h
  obtain ⟨k, hk, rfl⟩ := List.mem_map.1 h
  exact ⟨k, List.mem_range.1 hk, rfl⟩

theorem mem_linksL {e x : Nat} (he : e < 9223372036854775808) (h : x ∈ linksL e) : x < e := by
  unfold linksL at h
  split at h
  · cases h
  · obtain ⟨k, hk, rfl⟩ := mem_lk h
    have := Nat.pow_pos (n := k) (show 0 < 2 by decide)
    omega

/-- The last one of those that is not below b, else a. -/
def nxF (b : Nat) (a : Nat) (ls : List Nat) : Nat := ls.foldl (fun n l => if b ≤ l then l else n) a
theorem nxF_snoc (b a : Nat) (ls : List Nat) (x : Nat) : nxF b a (ls ++ [x]) = if b ≤ x then x else nxF b a ls := by simp [nxF]
theorem nxF_nil (b a : Nat) : nxF b a [] = a := rfl

theorem nxF_none (b a : Nat) (ls : List Nat) (h : ∀ x ∈ ls, x < b) : nxF b a ls = a := by
  induction ls generalizing a with
  | nil => rfl
  | cons x t ih =>
    have hx := h x (by simp)
    have : nxF b a (x :: t) = nxF b a t := by simp only [nxF, List.foldl_cons, if_neg (show ¬ b ≤ x by omega)]
    rw [this]
    exact ih a (fun y hy => h y (by simp [hy]))

/-- The next epoch on the way. -/
def nextN (a b : Nat) : Nat := nxF b a (linksL a)
theorem nextN_far (a b : Nat) (ha : a < 9223372036854775808) (h : a ≤ b) : nextN a b = a := nxF_none b a _ fun x hx => by have := mem_linksL ha hx; omega

theorem nxF_mem (b a : Nat) (ls : List Nat) : nxF b a ls = a ∨ (nxF b a ls ∈ ls ∧ b ≤ nxF b a ls) := by
  induction ls generalizing a with
  | nil => exact .inl rfl
  | cons x t ih =>
    have e : nxF b a (x :: t) = nxF b (if b ≤ x then x else a) t := rfl
    rw [e]
    rcases ih (if b ≤ x then x else a) with h | ⟨h1, h2⟩
    · rw [h]
      split
      · exact .inr ⟨by simp, by assumption⟩
      · exact .inl rfl
    · exact .inr ⟨by simp [h1], h2⟩

theorem nxF_first (b a x : Nat) (t : List Nat) (hx : b ≤ x) : nxF b a (x :: t) ∈ x :: t ∧ b ≤ nxF b a (x :: t) := by
  have e : nxF b a (x :: t) = nxF b x t := by simp [nxF, hx]
  rw [e]
  rcases nxF_mem b x t with h | ⟨h1, h2⟩
  · rw [h]; exact ⟨by simp, hx⟩
  · exact ⟨by simp [h1], h2⟩

theorem linksL_cons (a : Nat) (h : 0 < a) : ∃ t, linksL a = (a - 1) :: t := by
  rw [linksL_pos a h]
  refine ⟨(List.range (tz a)).map fun k => a - 2 ^ (k + 1), ?_⟩
  unfold lk
  rw [List.range_succ_eq_map]
  simp [Function.comp_def]

theorem nextN_mem (a b : Nat) (h : b < a) : nextN a b ∈ linksL a ∧ b ≤ nextN a b := by
  obtain ⟨t, e⟩ := linksL_cons a (by omega)
  unfold nextN
  rw [e]
  exact nxF_first b a (a - 1) t (by omega)

theorem nextN_lt (a b : Nat) (ha : a < 9223372036854775808) (h : b < a) : nextN a b < a := mem_linksL ha (nextN_mem a b h).1
theorem nextN_ge (a b : Nat) (h : b < a) : b ≤ nextN a b := (nextN_mem a b h).2
theorem nextN_le (a b : Nat) (ha : a < 9223372036854775808) : nextN a b ≤ a := by
  rcases Nat.lt_or_ge b a with h | h
  · exact Nat.le_of_lt (nextN_lt a b ha h)
  · rw [nextN_far a b ha h]; exact Nat.le_refl _

/-- The way, by fuel. -/
def wayF : Nat → Nat → Nat → List Nat
  | 0, _, _ => []
  | f + 1, a, b => if a ≤ b then [] else nextN a b :: wayF f (nextN a b) b

theorem wayF_at (f a b : Nat) (h : a ≤ b) : wayF f a b = [] := by cases f <;> simp [wayF, h]

theorem wayF_fuel : ∀ (f g a b : Nat), a < 9223372036854775808 → a - b ≤ f → a - b ≤ g → wayF f a b = wayF g a b := by
  intro f
  induction f with
  | zero => intro g a b _ h1 h2; rw [wayF_at 0 a b (by omega), wayF_at g a b (by omega)]
  | succ f ih =>
    intro g a b ha h1 h2
    rcases Nat.lt_or_ge b a with h | h
    · cases g with
      | zero => omega
      | succ g =>
        have hl := nextN_lt a b ha h
        have hg := nextN_ge a b h
        simp only [wayF, if_neg (show ¬ a ≤ b by omega)]
        rw [ih g (nextN a b) b (by omega) (by omega) (by omega)]
    · rw [wayF_at _ a b h, wayF_at _ a b h]

def wayN (a b : Nat) : List Nat := wayF (a - b) a b
theorem wayN_at (a b : Nat) (h : a ≤ b) : wayN a b = [] := wayF_at _ a b h
theorem wayN_step (a b : Nat) (ha : a < 9223372036854775808) (h : b < a) : wayN a b = nextN a b :: wayN (nextN a b) b := by
  have hl := nextN_lt a b ha h
  have hg := nextN_ge a b h
  unfold wayN
  obtain ⟨f, hf⟩ : ∃ f, a - b = f + 1 := ⟨a - b - 1, by omega⟩
  rw [hf]
  simp only [wayF, if_neg (show ¬ a ≤ b by omega)]
  rw [wayF_fuel f (nextN a b - b) (nextN a b) b (by omega) (by omega) (by omega)]

theorem wayN_len : ∀ (n a b : Nat), a - b ≤ n → a < 9223372036854775808 → (wayN a b).length ≤ a - b := by
  intro n
  induction n with
  | zero => intro a b h _; rw [wayN_at a b (by omega)]; simp
  | succ n ih =>
    intro a b h ha
    rcases Nat.lt_or_ge b a with hb | hb
    · have hl := nextN_lt a b ha hb
      have hg := nextN_ge a b hb
      rw [wayN_step a b ha hb, List.length_cons]
      have := ih (nextN a b) b (by omega) (by omega)
      omega
    · rw [wayN_at a b hb]; simp

/-- The next one lies 2^k ahead, for the greatest k that may be. -/
theorem nxF_lk (a b : Nat) : ∀ n, (∃ k, k < n ∧ b ≤ a - 2 ^ k) → ∃ k, k < n ∧ nxF b a (lk a n) = a - 2 ^ k ∧ b ≤ a - 2 ^ k ∧ ∀ j, j < n → k < j → ¬ b ≤ a - 2 ^ j := by
  intro n
  induction n with
  | zero => rintro ⟨k, hk, _⟩; omega
  | succ n ih =>
    intro h
    rw [lk_succ, nxF_snoc]
    by_cases hn : b ≤ a - 2 ^ n
    · rw [if_pos hn]
      exact ⟨n, by omega, rfl, hn, fun j h1 h2 => by omega⟩
    · rw [if_neg hn]
      obtain ⟨k, hk, hb⟩ := h
      have hkn : k < n := by
        rcases Nat.lt_or_ge k n with h | h
        · exact h
        · obtain rfl : k = n := by omega
          exact absurd hb hn
      obtain ⟨j, h1, h2, h3, h4⟩ := ih ⟨k, hkn, hb⟩
      refine ⟨j, by omega, h2, h3, fun i hi hj => ?_⟩
      by_cases he : i = n
      · subst he; exact hn
      · exact h4 i (by omega) hj

theorem nextN_pow (a b : Nat) (ha : a < 9223372036854775808) (h : b < a) : ∃ k, k ≤ tz a ∧ nextN a b = a - 2 ^ k ∧ 2 ^ k ≤ a - b ∧ ∀ j, 2 ^ j ∣ a → k < j → a - b < 2 ^ j := by
  have h0 : 0 < a := by omega
  unfold nextN
  rw [linksL_pos a h0]
  obtain ⟨k, h1, h2, h3, h4⟩ := nxF_lk a b (tz a + 1) ⟨0, by omega, by simp; omega⟩
  have hle : 2 ^ k ≤ a := tz_pow_le a k h0 ha (by omega)
  refine ⟨k, by omega, h2, by omega, fun j hj hkj => ?_⟩
  have hjt := tz_ge a j h0 ha hj
  have := h4 j (by omega) hkj
  have hp := tz_pow_le a j h0 ha hjt
  omega

theorem dvd_sub_pow {a k m : Nat} (h : 2 ^ m ∣ a) (hk : k ≤ m) : 2 ^ k ∣ a - 2 ^ k := Nat.dvd_sub (Nat.dvd_trans (Nat.pow_dvd_pow 2 hk) h) (Nat.dvd_refl _)

/-- Where 2^m divides a and the distance is below it, the way falls in its powers. -/
theorem way_fall : ∀ (m a b : Nat), a < 9223372036854775808 → b ≤ a → 2 ^ m ∣ a → a - b < 2 ^ m → (wayN a b).length ≤ m := by
  intro m
  induction m using Nat.strongRecOn with
  | _ m ih =>
    intro a b ha hb hd hlt
    rcases Nat.lt_or_ge b a with h | h
    · obtain ⟨k, h1, h2, h3, h4⟩ := nextN_pow a b ha h
      have hkm : k < m := by
        apply Nat.lt_of_not_le
        intro hle
        have : 2 ^ m ≤ 2 ^ k := Nat.pow_le_pow_right (by decide) hle
        omega
      have hle : 2 ^ k ≤ a := by omega
      have hnext : a - b < 2 ^ (k + 1) := h4 (k + 1) (Nat.dvd_trans (Nat.pow_dvd_pow 2 hkm) hd) (by omega)
      rw [Nat.pow_succ] at hnext
      rw [wayN_step a b ha h, List.length_cons, h2]
      have := ih k hkm (a - 2 ^ k) b (by omega) (by omega) (dvd_sub_pow hd (by omega)) (by omega)
      omega
    · rw [wayN_at a b h]; simp

/-- Where 2^t divides a and the distance is below 2^L. -/
theorem way_rise : ∀ (n t a b L : Nat), L - t ≤ n → a < 9223372036854775808 → b ≤ a → 2 ^ t ∣ a → a - b < 2 ^ L → t ≤ L → (wayN a b).length ≤ (L - t) + L := by
  intro n
  induction n with
  | zero =>
    intro t a b L hn ha hb hd hlt htl
    obtain rfl : t = L := by omega
    have := way_fall t a b ha hb hd hlt
    omega
  | succ n ih =>
    intro t a b L hn ha hb hd hlt htl
    rcases Nat.lt_or_ge b a with h | h
    · by_cases htL : t = L
      · subst htL
        have := way_fall t a b ha hb hd hlt
        omega
      · by_cases hd2 : 2 ^ (t + 1) ∣ a
        · have := ih (t + 1) a b L (by omega) ha hb hd2 hlt (by omega)
          omega
        · by_cases hsm : a - b < 2 ^ t
          · have := way_fall t a b ha hb hd hsm
            omega
          · obtain ⟨k, h1, h2, h3, h4⟩ := nextN_pow a b ha h
            have hkt : k = t := by
              have h5 : ¬ k < t := fun hlt2 => hsm (h4 t hd hlt2)
              have h6 : ¬ t < k := fun hlt2 => hd2 (Nat.dvd_trans (Nat.pow_dvd_pow 2 hlt2) (tz_dvd a k (by omega) ha h1))
              omega
            subst hkt
            have hle : 2 ^ k ≤ a := by omega
            have hd3 : 2 ^ (k + 1) ∣ a - 2 ^ k := by
              obtain ⟨c, hc⟩ := hd
              have hodd : c % 2 = 1 := by
                rcases Nat.mod_two_eq_zero_or_one c with h | h
                · exact absurd ⟨c / 2, by rw [Nat.pow_succ, Nat.mul_assoc]; rw [show 2 * (c / 2) = c by omega]; exact hc⟩ hd2
                · exact h
              refine ⟨c / 2, ?_⟩
              have hc2 : c = 2 * (c / 2) + 1 := by omega
              rw [Nat.pow_succ, Nat.mul_assoc, hc]
              conv => lhs; rw [hc2, Nat.mul_add, Nat.mul_one]
              omega
            rw [wayN_step a b ha h, List.length_cons, h2]
            have hp := Nat.pow_pos (n := k) (show 0 < 2 by decide)
            have := ih (k + 1) (a - 2 ^ k) b L (by omega) (by omega) (by omega) hd3 (by omega) (by omega)
            omega
    · rw [wayN_at a b h]; simp

/-- How many a way has at most. -/
def mostN (d : Nat) : Nat := if d = 0 then 0 else 2 * Nat.log2 d + 2

theorem way_short (a b : Nat) (ha : a < 9223372036854775808) (hb : b ≤ a) : (wayN a b).length ≤ mostN (a - b) := by
  rcases Nat.eq_zero_or_pos (a - b) with h | h
  · rw [wayN_at a b (by omega)]; simp
  · unfold mostN
    rw [if_neg (by omega)]
    have := way_rise (Nat.log2 (a - b) + 1) 0 a b (Nat.log2 (a - b) + 1) (by omega) ha hb (by simp) Nat.lt_log2_self (by omega)
    omega

/-- The way as a walk sees it: what is behind, and the rest. -/
theorem way_all (a b : Nat) (ha : a < 9223372036854775808) (hb : b ≤ a) : ∀ x ∈ wayN a b, b ≤ x ∧ x < a := by
  suffices ∀ n a, a - b ≤ n → a < 9223372036854775808 → b ≤ a → ∀ x ∈ wayN a b, b ≤ x ∧ x < a from this (a - b) a (Nat.le_refl _) ha hb
  intro n
  induction n with
  | zero => intro a h _ _ x hx; rw [wayN_at a b (by omega)] at hx; cases hx
  | succ n ih =>
    intro a h ha hb x hx
    rcases Nat.lt_or_ge b a with hb2 | hb2
    · have hl := nextN_lt a b ha hb2
      have hg := nextN_ge a b hb2
      rw [wayN_step a b ha hb2] at hx
      rcases List.mem_cons.1 hx with rfl | hx
      · exact ⟨hg, hl⟩
      · have := ih (nextN a b) (by omega) (by omega) hg x hx
        omega
    · rw [wayN_at a b hb2] at hx; cases hx

end Go.Proofs.YtcgpgnajmfemhaaGreatDoor

namespace Go.Proofs.YtcgpgnajmfemhaaGreatDoor
open Go.RowKit

/-- The table of package math/bits lies in its variable. -/
def TD (w : World) : Prop := ∀ j, j < 64 → w.cell? ⟨3, j, none⟩ = some (.int .u8 (Lib.deBruijn64tab.getD j 0))
theorem TD.later {w w' : World} (h : TD w) (hb : Below w.heap.size w w') : TD w' := fun j hj => cell_later hb (h j hj)

set_option maxRecDepth 100000 in
set_option maxHeartbeats 1000000 in
theorem tz64_core (x k idx : Nat) (w : World) (hx0 : ((x : Int) == 0) = false)
    (key : IntKind.u64.wrap (bits BinOp.and IntKind.u64 (x : Int) (IntKind.u64.wrap (-(x : Int))) * 285870213051353865) / 288230376151711744 = (idx : Int))
    (hi : idx < 64) (hk : k < 64) (hcell : w.cell? ⟨3, idx, none⟩ = some (.int .u8 k)) :
    Calls Tryz.prog 171 #[.int .u64 x] w fun e w' => e = .returned (.int .i64 k) ∧ w' = w := by
  go_enter Tryz.func171, Tryz.ntmps171
  go_wp2_with (simp only [key])
  go_ret
  exact ⟨rfl, rfl⟩

theorem tz64_key (x a : Nat) (hx : x < 18446744073709551616) (hx0 : x ≠ 0) (hlow : x &&& (18446744073709551616 - x) = a) :
    IntKind.u64.wrap (bits BinOp.and IntKind.u64 (x : Int) (IntKind.u64.wrap (-(x : Int))) * 285870213051353865) / 288230376151711744 = ((a * 285870213051353865 % 18446744073709551616 / 288230376151711744 : Nat) : Int) := by
  have e1 : IntKind.u64.wrap (-(x : Int)) = ((18446744073709551616 - x : Nat) : Int) := by rw [IntKind.wrap_u64]; omega
  rw [e1, bits_and_u64_nat x _ hx (by omega), hlow, IntKind.wrap_u64]
  omega

theorem tz64_any (x : Nat) (hx : x < 18446744073709551616) (hx0 : x ≠ 0) (w : World) (hT : TD w) :
    Calls Tryz.prog 171 #[.int .u64 x] w fun e w' => e = .returned (.int .i64 (tz x : Nat)) ∧ w' = w := by
  obtain ⟨hlow, hk⟩ := Lib.lowest_bit 64 x hx0 hx
  obtain ⟨hi, htab⟩ := Lib.deBruijn64_at _ hk
  have hcell := hT _ hi
  rw [htab] at hcell
  exact tz64_core x _ _ w (by simp; omega) (tz64_key x _ hx hx0 hlow) hi hk hcell

set_option maxRecDepth 100000 in
set_option maxHeartbeats 1000000 in
theorem tz_any (x : Nat) (hx : x < 18446744073709551616) (hx0 : x ≠ 0) (w : World) (hT : TD w) :
    Calls Tryz.prog 138 #[.int .u64 x] w fun e w' => e = .returned (.int .i64 (tz x : Nat)) ∧ w' = w := by
  have hC := tz64_any x hx hx0 w hT
  generalize tz x = T at *
  have hw : IntKind.u64.wrap (x : Int) = (x : Int) := by rw [IntKind.wrap_u64]; omega
  go_enter Tryz.func138, Tryz.ntmps138
  go_wp2_with fail
  refine hC.mono ?_
  rintro e w1 ⟨rfl, hw1⟩
  subst hw1
  go_wp2
  go_ret
  exact ⟨rfl, rfl⟩

end Go.Proofs.YtcgpgnajmfemhaaGreatDoor

namespace Go.Proofs.YtcgpgnajmfemhaaGreatDoor
open Go.ChangeShapes Go.WideShapes Go.ChangeAt Go.RowKit

theorem gTab64 : Tryz.prog.globalNamed "math/bits.deBruijn64tab" = some 3 := by kernel_rfl
theorem gTab64Type : (Tryz.prog.globals[3]?).map (·.type) = some 213 := by kernel_rfl
theorem cellsTab64 : Tryz.prog.cellsOf 213 = 64 := by kernel_rfl
theorem cellsU8 : Tryz.prog.cellsOf 5 = 1 := by kernel_rfl

def tab64Z : List Int := Lib.deBruijn64tab.map fun n : Nat => (n : Int)
def tab32Z : List Int := Lib.deBruijn32tab.map fun n : Nat => (n : Int)
theorem laidTab64 : (Rows.laid_math_bits_deBruijn64tab : DataW Unit) = Lib.tabData .u8 tab64Z := by kernel_rfl
theorem tab64_get : ∀ j, j < 64 → (tab64Z.map fun z => Value.int .u8 z)[j]? = some (.int .u8 (Lib.deBruijn64tab.getD j 0 : Nat)) := by
  intro j hj
  simp only [tab64Z, List.map_map, List.getElem?_map]
  have hl : j < Lib.deBruijn64tab.length := by
    have : Lib.deBruijn64tab.length = 64 := by decide
    omega
  simp [hl, List.getD]

/-- What the row's list gives: the table. -/
theorem td_of {W : World} {rest : List (String × DataW Unit)} (h : laidMet Tryz.prog (("math/bits.deBruijn32tab", Rows.laid_math_bits_deBruijn32tab) :: ("math/bits.deBruijn64tab", Rows.laid_math_bits_deBruijn64tab) :: rest) W) : TD W := by
  have h2 := laidMet.tail h
  rw [laidTab64] at h2
  have t2 := Lib.tabIs_of_head gTab64 gTab64Type Tryz.underlying213 Tryz.underlying5 cellsU8 cellsTab64 h2
  unfold Lib.TabIs at t2
  intro j hj
  have := World.var?_cell gTab64 t2 j
  rw [this]
  have := tab64_get j hj
  simpa using this

def tab64Cells : Array Value := (tab64Z.map fun z => Value.int .u8 z).toArray
def tab32Cells : Array Value := (tab32Z.map fun z => Value.int .u8 z).toArray

end Go.Proofs.YtcgpgnajmfemhaaGreatDoor

namespace Go.Proofs.YtcgpgnajmfemhaaGreatDoor
open Go.ChangeShapes Go.WideShapes Go.ChangeAt Go.RowKit

set_option maxRecDepth 100000 in
theorem open_bindsH {W : World} {base : Nat} {v0 : Value} (hval : Value.okWide Tryz.prog W .any base 22 v0) :
    ∃ (pl : Option Addr) (nl cl : Nat), v0 = .slice pl nl cl := okWide_slice Tryz.underlying22 hval

end Go.Proofs.YtcgpgnajmfemhaaGreatDoor
