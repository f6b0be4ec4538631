/- What this text holds: plain facts (no program): what a device has, what its changes and a crash make of it; rows of 64 bytes one behind the other. -/
import Derived.Test.YtnmjggljicanmaaDoorOwn
namespace Go.Proofs.YtnmjggljicanmaaDoor

/-- What a device has: what was written last, of the sectors that wait what they were, how many changes are left (-1: no fuse), whether it has stopped, how many changes were done, how much room its sectors' row has. -/
structure DevS where
  now : List (List UInt8)
  old : Nat → Option (List UInt8)
  fuse : Int
  dead : Bool
  ch : Nat
  cap : Nat

/-- A device that may be. -/
structure DevS.Ok (s : DevS) : Prop where
  pos : 1 ≤ s.now.length
  most : s.now.length ≤ 16384
  rows : ∀ r ∈ s.now, r.length = 64
  olds : ∀ i l, s.old i = some l → i < s.now.length ∧ l.length = 64
  fuse0 : -1 ≤ s.fuse
  fuse1 : s.fuse ≤ 9223372036854775807
  chs : s.ch ≤ 1099511627776

/-- Does it stop here? -/
def DevS.stops (s : DevS) : Bool := s.dead || s.fuse == 0

/-- A change is counted. -/
def DevS.counted (s : DevS) : DevS := if s.stops then { s with dead := true } else { s with fuse := if s.fuse = -1 then -1 else s.fuse - 1, ch := s.ch + 1 }
def DevS.err (s : DevS) : Int := if s.stops then 70 else 0

def oldW (s : DevS) (i : Nat) : Nat → Option (List UInt8) := fun j => if j = i then (match s.old i with | some l => some l | none => s.now[i]?) else s.old j

/-- A sector is written. -/
def DevS.write (s : DevS) (i : Nat) (l : List UInt8) : DevS := if s.stops then s.counted else { s.counted with old := oldW s i, now := s.now.set i l }
/-- All is synced. -/
def DevS.sync (s : DevS) : DevS := if s.stops then s.counted else { s.counted with old := fun _ => none }
def DevS.fused (s : DevS) (n : Int) : DevS := { s with fuse := n }

/-- The sectors that wait, rising. -/
def DevS.waits (s : DevS) : List Nat := (List.range s.now.length).filter fun i => (s.old i).isSome

/-- Does keep have a byte at k that is not 0? -/
def keeps (keep : List UInt8) (k : Nat) : Bool := match keep[k]? with | some b => b != 0 | none => false

/-- What is left behind a crash, of the sectors that wait, from the k-th on. -/
def crashTo (old : Nat → Option (List UInt8)) (keep : List UInt8) (now : List (List UInt8)) : List Nat → Nat → List (List UInt8)
  | [], _ => now
  | i :: r, k => crashTo old keep (if keeps keep k then now else now.set i ((old i).getD [])) r (k + 1)

def DevS.crash (s : DevS) (keep : List UInt8) : DevS := { s with now := crashTo s.old keep s.now s.waits 0, old := fun _ => none, fuse := -1, dead := false }

theorem counted_now (s : DevS) : s.counted.now = s.now := by unfold DevS.counted; split <;> rfl
theorem counted_old (s : DevS) : s.counted.old = s.old := by unfold DevS.counted; split <;> rfl
theorem counted_cap (s : DevS) : s.counted.cap = s.cap := by unfold DevS.counted; split <;> rfl
theorem counted_ch (s : DevS) : s.counted.ch ≤ s.ch + 1 := by unfold DevS.counted; split <;> simp

theorem DevS.Ok.counted {s : DevS} (h : s.Ok) (hc : s.ch + 1 ≤ 1099511627776) : s.counted.Ok := by
  obtain ⟨h1, h2, h3, h4, h5, h6, h7⟩ := h
  unfold DevS.counted
  split
  · exact ⟨h1, h2, h3, h4, h5, h6, h7⟩
  · rename_i hs
    simp [DevS.stops] at hs
    refine ⟨h1, h2, h3, h4, ?_, ?_, hc⟩ <;> simp only <;> split <;> omega

theorem DevS.Ok.write {s : DevS} (h : s.Ok) (hc : s.ch + 1 ≤ 1099511627776) (i : Nat) (l : List UInt8) (hi : i < s.now.length) (hl : l.length = 64) : (s.write i l).Ok := by
  unfold DevS.write
  split
  · exact h.counted hc
  · obtain ⟨h1, h2, h3, h4, h5, h6, h7⟩ := h.counted hc
    rw [counted_now] at h1 h2 h3 h4
    rw [counted_old] at h4
    refine ⟨by simpa using h1, by simpa using h2, ?_, ?_, h5, h6, h7⟩
    · intro r hr
      rcases List.mem_or_eq_of_mem_set hr with h | h
      · exact h3 r h
      · exact h ▸ hl
    · intro j m hj
      simp only [oldW] at hj
      simp only [List.length_set]
      split at hj
      · rename_i e
        subst e
        split at hj
        · rename_i l' e2
          cases hj
          exact h4 _ _ e2
        · exact ⟨hi, h3 m (List.mem_of_getElem? hj)⟩
      · exact h4 _ _ hj

theorem DevS.Ok.sync {s : DevS} (h : s.Ok) (hc : s.ch + 1 ≤ 1099511627776) : s.sync.Ok := by
  unfold DevS.sync
  split
  · exact h.counted hc
  · obtain ⟨h1, h2, h3, h4, h5, h6, h7⟩ := h.counted hc
    exact ⟨h1, h2, h3, fun i l e => (by cases e), h5, h6, h7⟩

theorem DevS.Ok.fused {s : DevS} (h : s.Ok) (n : Int) (h0 : 0 ≤ n) (h1 : n ≤ 9223372036854775807) : (s.fused n).Ok := by
  obtain ⟨a1, a2, a3, a4, a5, a6, a7⟩ := h
  exact ⟨a1, a2, a3, a4, by simp only [DevS.fused]; omega, h1, a7⟩

theorem crashTo_rows (old : Nat → Option (List UInt8)) (keep : List UInt8) (N : Nat) (ho : ∀ i l, old i = some l → i < N ∧ l.length = 64) : ∀ (ws : List Nat) (k : Nat) (now : List (List UInt8)), now.length = N → (∀ i ∈ ws, (old i).isSome = true) → (∀ r ∈ now, r.length = 64) →
    (crashTo old keep now ws k).length = N ∧ ∀ r ∈ crashTo old keep now ws k, r.length = 64
  | [], _, now, hn, _, hr => ⟨hn, hr⟩
  | i :: ws, k, now, hn, hw, hr => by
    unfold crashTo
    refine crashTo_rows old keep N ho ws (k + 1) _ ?_ (fun j hj => hw j (List.mem_cons_of_mem _ hj)) ?_
    · split
      · exact hn
      · simpa using hn
    · split
      · exact hr
      · intro r h
        rcases List.mem_or_eq_of_mem_set h with h | h
        · exact hr r h
        · obtain ⟨l, hl⟩ := Option.isSome_iff_exists.1 (hw i List.mem_cons_self)
          rw [hl] at h
          rw [h]
          exact (ho i l hl).2

theorem waits_some (s : DevS) : ∀ i ∈ s.waits, (s.old i).isSome = true := fun _ hi => (List.mem_filter.1 hi).2
theorem waits_lt (s : DevS) : ∀ i ∈ s.waits, i < s.now.length := fun _ hi => List.mem_range.1 (List.mem_filter.1 hi).1

theorem DevS.Ok.crash {s : DevS} (h : s.Ok) (keep : List UInt8) : (s.crash keep).Ok := by
  obtain ⟨h1, h2, h3, h4, h5, h6, h7⟩ := h
  obtain ⟨e1, e2⟩ := crashTo_rows s.old keep s.now.length h4 s.waits 0 s.now rfl (waits_some s) h3
  refine ⟨?_, ?_, e2, fun i l e => (by cases e), by simp [DevS.crash], by simp [DevS.crash], h7⟩
  · simp only [DevS.crash, e1]; exact h1
  · simp only [DevS.crash, e1]; exact h2

theorem flat_get (L : List (List UInt8)) (h : ∀ r ∈ L, r.length = 64) (i j : Nat) (hj : j < 64) : L.flatten[i * 64 + j]? = (L[i]?).bind fun r => r[j]? := by
  induction L generalizing i with
  | nil => simp
  | cons r L ih =>
    have hr := h r List.mem_cons_self
    cases i with
    | zero =>
      rw [List.flatten_cons, Nat.zero_mul, Nat.zero_add, List.getElem?_append_left (by omega)]
      simp
    | succ i =>
      rw [List.flatten_cons, List.getElem?_append_right (by omega), hr, show (i + 1) * 64 + j - 64 = i * 64 + j by omega, ih (fun r hr => h r (List.mem_cons_of_mem _ hr))]
      simp

theorem flat_len (L : List (List UInt8)) (h : ∀ r ∈ L, r.length = 64) : L.flatten.length = L.length * 64 := by
  induction L with
  | nil => rfl
  | cons r L ih =>
    rw [List.flatten_cons, List.length_append, h r List.mem_cons_self, ih (fun r hr => h r (List.mem_cons_of_mem _ hr)), List.length_cons]
    omega

end Go.Proofs.YtnmjggljicanmaaDoor
