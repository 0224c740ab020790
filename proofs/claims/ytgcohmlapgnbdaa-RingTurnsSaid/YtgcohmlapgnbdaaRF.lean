/- Frames that fit, the program's. -/
import Derived.Test.YtgcohmlapgnbdaaRE
namespace Go.Proofs.Ytgcohmlapgnbdaa
open Go.RowKit Go.Shelf Go.Deep

theorem all_no_at' {α : Type} {f : α → Bool} {l : List α} {d : α} {k : Nat} (hk : k < l.length) (h : f (l.getD k d) = false) : l.all f = false := by
  cases hc : l.all f with
  | false => rfl
  | true =>
    rw [List.all_eq_true] at hc
    have := hc (l.getD k d) (by rw [List.getD_eq_getElem?_getD, List.getElem?_eq_getElem hk]; exact List.getElem_mem _)
    rw [this] at h; cases h
theorem all_yes_of' {α : Type} {f : α → Bool} {l : List α} {d : α} (h : ∀ j, j < l.length → f (l.getD j d) = true) : l.all f = true := by
  rw [List.all_eq_true]
  intro x hx
  obtain ⟨i, hi, rfl⟩ := List.getElem_of_mem hx
  have := h i hi
  simpa [List.getD, hi] using this
theorem all_at' {α : Type} {f : α → Bool} {l : List α} {d : α} (h : l.all f = true) {k : Nat} (hk : k < l.length) : f (l.getD k d) = true := by
  rw [List.all_eq_true] at h
  exact h _ (by rw [List.getD_eq_getElem?_getD, List.getElem?_eq_getElem hk]; exact List.getElem_mem _)

def smB (n : Int) : Bool := decide (-8388607 ≤ n) && decide (n ≤ 8388607)
def frm (ch : Int) (f : List Int) : Bool := decide ((f.length : Int) = ch) && f.all smB
def frms (ch : Int) (l : List (List Int)) : Bool := l.all (frm ch)
theorem smB_t {n : Int} (h : smB n = true) : -8388607 ≤ n ∧ n ≤ 8388607 := by simpa [smB] using h
theorem frm_no_len {ch : Int} {f : List Int} (h : ¬ (f.length : Int) = ch) : frm ch f = false := by simp [frm, h]
theorem frm_no_smp {ch : Int} {f : List Int} {k : Nat} (hk : k < f.length) (h : smB (f.getD k 0) = false) : frm ch f = false := by
  unfold frm
  rw [all_no_at' (d := 0) hk h, Bool.and_false]
theorem frm_yes {ch : Int} {f : List Int} (h : (f.length : Int) = ch) (h2 : ∀ k, k < f.length → smB (f.getD k 0) = true) : frm ch f = true := by
  unfold frm
  rw [all_yes_of' (d := 0) h2, Bool.and_true]
  exact decide_eq_true h

def FramesEnd (ch : Int) (l : List (List Int)) (w : World) (e : Ending) (w' : World) : Prop := ((frms ch l = true ∧ e = .returned (.tuple #[])) ∨ (frms ch l = false ∧ e = .panicked (misfit 1))) ∧ w = w'
set_option maxHeartbeats 2000000 in
set_option maxRecDepth 100000 in
theorem frames_any (ch : Int) (l : List (List Int)) (v : Value) (w : World) (hv : MatIn w l v) : Calls Try.prog 51 #[.int .i64 ch, v] w (FramesEnd ch l w) := by
  obtain ⟨a, ca, rfl, hin, hal, _⟩ := hv
  have hy := must_yes 1 w
  have hn := must_no 1 w
  have HIN := Lib.hid hin
  clear hin
  go_enter Try.func51, Try.ntmps51
  go_wp2_with fail
  go_loop [10] (fun i => ∃ j : Nat, i = .int .i64 j ∧ j ≤ l.length ∧ ∀ k, k < j → frm ch (l.getD k []) = true) (fun i => l.length - (intOf i).toNat)
  case atStart => exact ⟨0, rfl, Nat.zero_le _, fun k hk => absurd hk (Nat.not_lt_zero _)⟩
  case round =>
    obtain ⟨j, rfl, hj, hok⟩ := hrel
    have HOK := Lib.hid hok
    clear hok
    by_cases hlt : j < l.length
    · have w4 : (j : Int) < (l.length : Int) := by omega
      obtain ⟨ba, off, u, rfl, hc, hu⟩ := HIN.out j hlt
      obtain ⟨f, hf⟩ : ∃ f, l.getD j [] = f := ⟨_, rfl⟩
      rw [hf] at hu
      have HF := Lib.hid hf
      obtain ⟨fa, fc, rfl, hfin, hfl, _⟩ := hu
      have HFIN := Lib.hid hfin
      clear hf hfin
      by_cases he : (f.length : Int) = ch
      · have he2 : ((f.length : Int) == ch) = true := by simpa using he
        have HE := Lib.hid he
        subst he
        go_wp2_with (go_at_call 38; (with_reducible refine hy.mono ?_); rintro e w1 ⟨rfl, rfl⟩)
        go_loop [21] (fun i => ∃ q : Nat, i = .int .i64 q ∧ q ≤ f.length ∧ ∀ k, k < q → smB (f.getD k 0) = true) (fun i => f.length - (intOf i).toNat)
        case atStart => exact ⟨0, rfl, Nat.zero_le _, fun k hk => absurd hk (Nat.not_lt_zero _)⟩
        case round =>
          obtain ⟨q, rfl, hq, hok2⟩ := hrel
          have HOK2 := Lib.hid hok2
          clear hok2
          by_cases hlt2 : q < f.length
          · have w5 : (q : Int) < (f.length : Int) := by omega
            obtain ⟨bb, ob, rfl, hcq, _⟩ := HFIN.out q hlt2
            obtain ⟨n, hnn⟩ : ∃ n, f.getD q 0 = n := ⟨_, rfl⟩
            rw [hnn] at hcq
            have HN := Lib.hid hnn
            clear hnn
            by_cases h1 : -8388607 ≤ n
            · by_cases h2 : n ≤ 8388607
              · have HS : Hid (smB n = true) := Lib.hid (by simp [smB, h1, h2])
                go_wp2_with (go_at_call 38; (with_reducible refine hy.mono ?_); rintro e w1 ⟨rfl, rfl⟩)
                go_round
                case rel =>
                  refine ⟨q + 1, by go_num, by omega, fun k hk => ?_⟩
                  by_cases e : k = q
                  · subst e; rw [HN.out]; exact HS.out
                  · exact HOK2.out k (by omega)
                case measure => simp [intOf]; omega
              · have HS : Hid (smB n = false) := Lib.hid (by simp [smB, h2])
                go_wp2_with (go_at_call 38; (with_reducible refine hn.mono ?_); rintro e w1 ⟨rfl, rfl⟩)
                exact ⟨rfl, .inr ⟨all_no_at' (d := []) hlt (by rw [HF.out]; exact frm_no_smp hlt2 (by rw [HN.out]; exact HS.out)), rfl⟩, rfl⟩
            · have HS : Hid (smB n = false) := Lib.hid (by simp [smB, h1])
              go_wp2_with (go_at_call 38; (with_reducible refine hn.mono ?_); rintro e w1 ⟨rfl, rfl⟩)
              exact ⟨rfl, .inr ⟨all_no_at' (d := []) hlt (by rw [HF.out]; exact frm_no_smp hlt2 (by rw [HN.out]; exact HS.out)), rfl⟩, rfl⟩
          · have w5 : ¬ (q : Int) < (f.length : Int) := by omega
            go_wp2_with fail
            go_round
            case rel =>
              refine ⟨j + 1, by go_num, by omega, fun k hk => ?_⟩
              by_cases e : k = j
              · subst e; rw [HF.out]; exact frm_yes rfl (fun k hk => HOK2.out k (by omega))
              · exact HOK.out k (by omega)
            case measure => simp [intOf]; omega
      · have he2 : ((f.length : Int) == ch) = false := by simpa using he
        have HE := Lib.hid he
        go_wp2_with (go_at_call 38; (with_reducible refine hn.mono ?_); rintro e w1 ⟨rfl, rfl⟩)
        exact ⟨rfl, .inr ⟨all_no_at' (d := []) hlt (by rw [HF.out]; exact frm_no_len HE.out), rfl⟩, rfl⟩
    · have w4 : ¬ (j : Int) < (l.length : Int) := by omega
      go_wp2_with fail
      go_end0
      exact ⟨.inl ⟨all_yes_of' (d := []) fun k hk => HOK.out k (by omega), rfl⟩, rfl⟩
end Go.Proofs.Ytgcohmlapgnbdaa
