/- What this text proves: the walk of seek.search over this program: the looks, as a function tells of each. -/
import Derived.Test.YtjackljpikkidaaEkPlain
import Derived.Test.YtjackljpikkidaaInts
namespace Go.Proofs.Ytjackljpikkidaa
open Go.RowKit

set_option maxHeartbeats 1000000 in
theorem search_any (K : Nat) (caps : Array Value) (eg : ∀ args w, (callFunc K args).run Try.prog w = .ok (.enter K args) w) (g : List Nat → Nat → Bool × Bool) (last : Nat) (hlast : last < 4611686018427387904) (J : List Nat → World → Prop) (w : World) (hJ : J [] w)
    (hK : ∀ l m w, m ≤ last → l.length ≤ last → J l w → Calls Try.prog K (#[.int .i64 (m : Int)] ++ caps) w fun x w' => x = .returned (.tuple #[.bool (g l m).1, .bool (g l m).2]) ∧ J (l ++ [m]) w') :
    Calls Try.prog 18 #[.int .i64 (last : Int), .func (.func K) #[] caps] w fun x w' => J (srchA g last).1 w' ∧ (((srchA g last).2 = none ∧ x = .returned (.tuple #[.int .i64 0, .bool false])) ∨ ∃ n : Nat, (srchA g last).2 = some n ∧ x = .returned (.tuple #[.int .i64 (n : Int), .bool true])) := by
  have hK0 := hK [] 0 w (Nat.zero_le _) (Nat.zero_le _) hJ
  simp only [Int.ofNat_zero, List.nil_append] at hK0
  have HS : Hid (∀ R, srchA g last = R ↔ (if (g [] 0).2 = true ∧ (g [] 0).1 = true then srchI g [0] 0 last else ([0], none)) = R) := fun R => Iff.rfl
  obtain ⟨R, hR⟩ : ∃ R, srchA g last = R := ⟨_, rfl⟩
  have hS := (HS.out R).1 hR
  rw [hR]
  clear hR HS hJ
  obtain ⟨a0, ha0⟩ : ∃ a, (g [] 0).1 = a := ⟨_, rfl⟩
  obtain ⟨b0, hb0⟩ : ∃ b, (g [] 0).2 = b := ⟨_, rfl⟩
  rw [ha0, hb0] at hK0 hS
  have HK : Hid (∀ l m w, m ≤ last → l.length ≤ last → J l w → Calls Try.prog K (#[.int .i64 (m : Int)] ++ caps) w fun x w' => x = .returned (.tuple #[.bool (g l m).1, .bool (g l m).2]) ∧ J (l ++ [m]) w') := hK
  clear hK ha0 hb0
  have HS : Hid ((if b0 = true ∧ a0 = true then srchI g [0] 0 last else ([0], none)) = R) := hS
  clear hS
  go_enter Try.func18, Try.ntmps18
  go_wp2_with fail
  refine hK0.mono ?_
  rintro x w1 ⟨rfl, hJ1⟩
  clear hK0
  by_cases hf : b0 = true ∧ a0 = true
  · obtain ⟨rfl, rfl⟩ := hf
    have HR : Hid (srchI g [0] 0 last = R) := by
      have := HS.out
      simp only [and_self, if_true] at this
      exact this
    clear HS
    go_wp2
    go_loopw [8, 9] (fun v u wr => ∃ (l : List Nat) (lo hi : Nat), lo ≤ hi ∧ hi ≤ last ∧ l.length + (hi - lo) ≤ last + 1 ∧ v = .int .i64 (lo : Int) ∧ u = .int .i64 (hi : Int) ∧ Hid (srchI g l lo hi = R) ∧ J l wr) (fun v u _ => (intOf u).toNat - (intOf v).toNat)
    case atStart => exact ⟨[0], 0, last, Nat.zero_le _, Nat.le_refl _, by simp; omega, rfl, rfl, HR, hJ1⟩
    case round =>
      obtain ⟨l, lo, hi, h1, h2, h3, rfl, rfl, hI, hJl⟩ := hrel
      by_cases hlt : lo < hi
      · obtain ⟨m, hm⟩ : ∃ m, m = (lo + hi + 1) / 2 := ⟨_, rfl⟩
        have hm1 : lo < m := by omega
        have hm2 : m ≤ hi := by omega
        have em : (((lo : Int) + (hi : Int) + 1) / 2) = (m : Int) := by omega
        have et : Int.tdiv ((lo : Int) + (hi : Int) + 1) 2 = (m : Int) := by rw [Int.tdiv_eq_ediv_of_nonneg (by omega)]; exact em
        have hC := HK.out l m wr (by omega) (by omega) hJl
        have Hy : Hid ((g l m).1 = true → (g l m).2 = true → srchI g (l ++ [m]) m hi = R) := fun e1 e2 => (srchI_yes g l lo hi m hlt hm e1 e2).symm.trans hI.out
        have Hn : Hid ((g l m).1 = false → (g l m).2 = true → srchI g (l ++ [m]) lo (m - 1) = R) := fun e1 e2 => (srchI_no g l lo hi m hlt hm e1 e2).symm.trans hI.out
        have Hs : Hid ((g l m).2 = false → (l ++ [m], none) = R) := fun e2 => (srchI_stop g l lo hi m hlt hm e2).symm.trans hI.out
        generalize (g l m).1 = a1 at *
        generalize (g l m).2 = b1 at *
        have hlt2 : (lo : Int) < (hi : Int) := by omega
        clear hm hI HR
        go_wp2_with fail
        refine hC.mono ?_
        rintro x w2 ⟨rfl, hJ2⟩
        clear hC
        cases b1 with
        | false =>
          have hE := Hs.out rfl
          clear Hs Hy Hn HK
          go_wp2
          go_ret2
          subst hE
          exact ⟨hJ2, .inl ⟨rfl, rfl⟩⟩
        | true =>
          cases a1 with
          | true =>
            have hE : Hid (srchI g (l ++ [m]) m hi = R) := Hy.out rfl rfl
            have hq : (l ++ [m]).length + (hi - m) ≤ last + 1 := by simp; omega
            clear Hs Hy Hn
            go_wp2
            go_roundw
            case rel => first | exact ⟨l ++ [m], m, hi, hm2, h2, hq, rfl, rfl, hE, hJ2⟩ | ((repeat apply Exists.intro); exact ⟨⟨l ++ [m], m, hi, hm2, h2, hq, rfl, rfl, hE, hJ2⟩, rfl⟩)
            case measure => simp [intOf]; omega
          | false =>
            have hE : Hid (srchI g (l ++ [m]) lo (m - 1) = R) := Hn.out rfl rfl
            have hq : (l ++ [m]).length + (m - 1 - lo) ≤ last + 1 := by simp; omega
            have es : (m : Int) - 1 = ((m - 1 : Nat) : Int) := by omega
            clear Hs Hy Hn
            go_wp2
            go_roundw
            case rel => first | exact ⟨l ++ [m], lo, m - 1, by omega, by omega, hq, rfl, by go_num, hE, hJ2⟩ | ((repeat apply Exists.intro); exact ⟨⟨l ++ [m], lo, m - 1, by omega, by omega, hq, rfl, by go_num, hE, hJ2⟩, rfl⟩)
            case measure => simp [intOf]; omega
      · have hE := hI.out
        rw [srchI_end g l lo hi hlt] at hE
        clear hI HR HK
        have hle : ¬ ((lo : Int) < (hi : Int)) := by omega
        go_wp2
        go_ret2
        subst hE
        exact ⟨hJl, .inr ⟨lo, rfl, rfl⟩⟩
  · have HR : ([0], none) = R := by
      have := HS.out
      rwa [if_neg hf] at this
    clear HS HK
    cases b0 with
    | false =>
      go_wp2
      go_ret2
      subst HR
      exact ⟨hJ1, .inl ⟨rfl, rfl⟩⟩
    | true =>
      cases a0 with
      | true => exact absurd ⟨rfl, rfl⟩ hf
      | false =>
        go_wp2
        go_ret2
        subst HR
        exact ⟨hJ1, .inl ⟨rfl, rfl⟩⟩

end Go.Proofs.Ytjackljpikkidaa
