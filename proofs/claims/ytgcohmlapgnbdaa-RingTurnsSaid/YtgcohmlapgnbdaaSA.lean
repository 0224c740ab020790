/- Frames of the law's; what a ring holds when frames were put; rows of one's own that may be written. -/
import Derived.Test.YtgcohmlapgnbdaaRS
import Derived.Test.YtgcohmlapgnbdaaVC
import Derived.Test.YtgcohmlapgnbdaaAB
namespace Go.Proofs.Ytgcohmlapgnbdaa
open Go.RowKit Go.Shelf Go.Deep

def FrB (l : List (List Int)) (w : World) (e : Ending) (w' : World) : Prop := ∃ b, e = .returned (.bool b) ∧ (b = true → l.length ≤ 600) ∧ w = w'
set_option maxRecDepth 100000 in
theorem frames25_any (l : List (List Int)) (v : Value) (w : World) (hv : MatIn w l v) : Calls Try.prog 25 #[v] w (FrB l w) := by
  obtain ⟨a, ca, rfl, hin, hal, _⟩ := hv
  have HIN := Lib.hid hin
  clear hin
  go_enter Try.func25, Try.ntmps25
  go_wp2_with fail
  go_loop [3] (fun i => ∃ j : Nat, i = .int .i64 j ∧ j ≤ l.length) (fun i => l.length - (intOf i).toNat)
  case atStart => exact ⟨0, rfl, Nat.zero_le _⟩
  case round =>
    obtain ⟨j, rfl, hj⟩ := hrel
    by_cases hlt : j < l.length
    · have w4 : (j : Int) < (l.length : Int) := by omega
      by_cases h6 : j < 600
      · have w5 : (j : Int) < 600 := by omega
        obtain ⟨ba, off, u, rfl, hc, hu⟩ := HIN.out j hlt
        obtain ⟨fa, fc, rfl, _, hfl, _⟩ := hu
        obtain ⟨m, hm⟩ : ∃ m, (l.getD j []).length = m := ⟨_, rfl⟩
        rw [hm] at hc hfl
        clear hm
        by_cases h12 : (12 : Int) < (m : Int)
        · go_wp2_with fail
          go_ret
          exact ⟨false, rfl, fun h => (by cases h), rfl⟩
        · go_wp2_with fail
          go_round
          case rel => exact ⟨j + 1, by go_num, by omega⟩
          case measure => simp [intOf]; omega
      · have w5 : ¬ (j : Int) < 600 := by omega
        have w6 : decide ((j : Int) < 600) = false := decide_eq_false w5
        go_wp2_with fail
        go_ret
        exact ⟨_, rfl, fun h => by have := of_decide_eq_true h; omega, rfl⟩
    · have w4 : ¬ (j : Int) < (l.length : Int) := by omega
      go_wp2_with fail
      go_ret
      exact ⟨_, rfl, fun h => by have := of_decide_eq_true h; omega, rfl⟩

theorem siz_dvd {n : Nat} (h : sizB n = true) : n ∣ 65536 := by
  have hm : (n : Int) ∈ pow2 := by simpa [sizB] using h
  simp [pow2] at hm
  have : n = 1 ∨ n = 2 ∨ n = 4 ∨ n = 8 ∨ n = 16 ∨ n = 32 ∨ n = 64 ∨ n = 128 ∨ n = 256 ∨ n = 512 ∨ n = 1024 := by omega
  rcases this with rfl | rfl | rfl | rfl | rfl | rfl | rfl | rfl | rfl | rfl | rfl <;> decide
theorem plp_add {g : Rg} (hs : sizB g.sz = true) {c : Int} (hc : 0 ≤ c) (j : Nat) : plp g ((c + j) % 65536) = (c.toNat + j) % g.sz := by
  unfold plp
  have e : ((c + j) % 65536).toNat = (c.toNat + j) % 65536 := by omega
  rw [e, Nat.mod_mod_of_dvd _ (siz_dvd hs)]
theorem plp_ne {g : Rg} (hs : sizB g.sz = true) {c : Int} (hc : 0 ≤ c) {i j : Nat} (hij : i ≠ j) (hi : i < g.sz) (hj : j < g.sz) : plp g ((c + i) % 65536) ≠ plp g ((c + j) % 65536) := by
  rw [plp_add hs hc, plp_add hs hc]
  intro h
  by_cases hlt : i < j
  · have h1 := Nat.sub_mod_eq_zero_of_mod_eq h.symm
    rw [show c.toNat + j - (c.toNat + i) = j - i by omega, Nat.mod_eq_of_lt (by omega)] at h1
    omega
  · have h1 := Nat.sub_mod_eq_zero_of_mod_eq h
    rw [show c.toNat + i - (c.toNat + j) = i - j by omega, Nat.mod_eq_of_lt (by omega)] at h1
    omega
theorem putsM_len {g : Rg} {l : List (List Int)} (h : g.m.length = g.sz) : ∀ j, (putsM g l j).length = g.sz
  | 0 => h
  | j + 1 => by show ((putsM g l j).set _ _).length = g.sz; rw [List.length_set]; exact putsM_len h j
/-- What was put is there. -/
theorem putsM_at {g : Rg} {l : List (List Int)} (hs : sizB g.sz = true) (hl : g.m.length = g.sz) (hw : 0 ≤ g.wc) {j : Nat} : ∀ i, j < i → i ≤ g.sz → (putsM g l i).getD (plp g ((g.wc + j) % 65536)) [] = l.getD j []
  | 0, h, _ => absurd h (Nat.not_lt_zero _)
  | i + 1, h, hi => by
    show ((putsM g l i).set (plp g ((g.wc + i) % 65536)) (l.getD i [])).getD (plp g ((g.wc + j) % 65536)) [] = l.getD j []
    rw [List.getD_eq_getElem?_getD, List.getElem?_set]
    by_cases e : j = i
    · subst e
      rw [if_pos rfl, if_pos (by rw [putsM_len hl]; exact plp_lt (by omega) _)]
      rfl
    · rw [if_neg (fun h2 => plp_ne hs hw (fun e2 => e e2.symm) (by omega) (by omega) h2), ← List.getD_eq_getElem?_getD]
      exact putsM_at hs hl hw i (by omega) (by omega)
end Go.Proofs.Ytgcohmlapgnbdaa
