/- The document's Play that fails. -/
import Derived.Test.YtgcohmlapgnbdaaUR
namespace Go.Proofs.Ytgcohmlapgnbdaa
open Go.RowKit Go.Shelf Go.Deep

def NewGen (sz ch fi : Int) (w : World) (e : Ending) (w' : World) : Prop := ∃ a b c d up x uc k, e = .returned (.tuple #[rgV a b c 0 0 0 0 d d (.slice up x uc), .int .i64 k]) ∧ (newB sz ch fi = true → k = 0) ∧ (newB sz ch fi = false → k = 7) ∧ Below w.heap.size w w'
theorem refNew_gen (sz ch fi : Int) (w : World) : Calls Try.prog 11 #[.int .i64 sz, .int .i64 ch, .int .i64 fi] w (NewGen sz ch fi w) := by
  cases hn : newB sz ch fi with
  | false =>
    refine (refNew_no sz ch fi w hn).mono ?_
    rintro e w' ⟨rfl, hb⟩
    exact ⟨_, _, _, _, _, _, _, _, rfl, fun h => absurd (hn.symm.trans h) (by decide), fun _ => rfl, hb⟩
  | true =>
    have h1 : (sizB sz = true ∧ chB ch = true) ∧ ctrB fi = true := by simpa only [newB, Bool.and_eq_true] using hn
    have h2 := sizB_t h1.1.1
    have h3 := h1.1.2
    simp [chB] at h3
    obtain ⟨S, rfl⟩ := Int.eq_ofNat_of_zero_le (show 0 ≤ sz by omega)
    obtain ⟨C, rfl⟩ := Int.eq_ofNat_of_zero_le (show 0 ≤ ch by omega)
    refine (refNew_yes S C fi w hn).mono ?_
    rintro e w' ⟨up, uc, rfl, _, hb⟩
    exact ⟨_, _, _, _, _, _, _, _, rfl, fun _ => rfl, fun h => absurd (hn.symm.trans h) (by decide), hb⟩
def PlayNo (k : Int) (w : World) (e : Ending) (w' : World) : Prop := e = .returned (.tuple #[.slice none 0 0, .int .i64 0, .int .i64 k]) ∧ Below w.heap.size w w'
set_option maxHeartbeats 4000000 in
set_option maxRecDepth 100000 in
theorem refPlay_frames (sz ch fi : Int) (l : List (List Int)) (lv : Value) (pa : Option Addr) (pl pc : Nat) (w : World) (hM : MatIn w l lv) (hf : frms ch l = false) :
    Calls Try.prog 27 #[.int .i64 sz, .int .i64 ch, .int .i64 fi, lv, .slice pa pl pc] w (PlayNo 1 w) := by
  have hnew := refNew_gen sz ch fi w
  have HM := Lib.hid hM
  have HF := Lib.hid hf
  obtain ⟨a, ca, rfl, _, hal, _⟩ := hM
  have HFR := Lib.hid fun (f : List Int) (v : Value) x (hv : RowIn x f v) => refFrame_any 0 ch 0 0 0 0 0 0 0 none 0 0 f v x hv
  clear hf
  go_enter Try.func27, Try.ntmps27
  go_wp2_with (go_at_call 11; (with_reducible refine hnew.mono ?_); rintro e w1 ⟨na, nb, nc, nd, up, ux, uc, k, rfl, _, _, hb⟩; have HB1 := Lib.hid hb; clear hb hnew)
  have hb2 : Below w.heap.size w (w1.alloc (.cells (rgC na nb nc 0 0 0 0 nd nd (.slice up ux uc)) 31)) := Below.then HB1.out (Nat.le_refl _) ((Below.refl _ _).alloc (Nat.le_refl _) _)
  have HB2 := Lib.hid hb2
  clear hb2
  go_loopw [15] (fun i wr => ∃ j : Nat, i = .int .i64 j ∧ j ≤ l.length ∧ (∀ q, q < j → frm ch (l.getD q []) = true) ∧ Below w.heap.size w wr) (fun i _ => l.length - (intOf i).toNat)
  case atStart => exact ⟨0, rfl, Nat.zero_le _, fun q hq => absurd hq (Nat.not_lt_zero _), HB2.out⟩
  case round =>
    obtain ⟨j, rfl, hj, hok, hb⟩ := hrel
    have HOK := Lib.hid hok
    have HB := Lib.hid hb
    clear hok hb
    by_cases hlt : j < l.length
    · have w4 : (j : Int) < (l.length : Int) := by omega
      obtain ⟨a2, ca2, e2, hin, _, _⟩ := HM.out.mono (Same.of_below HB.out)
      simp only [Value.slice.injEq, true_and] at e2
      obtain ⟨rfl, rfl⟩ := e2
      obtain ⟨bb, ob, u, rfl, hcj, hu⟩ := hin j hlt
      have hcall := HFR.out _ u wr hu
      obtain ⟨f, hfe⟩ : ∃ f, l.getD j [] = f := ⟨_, rfl⟩
      rw [hfe] at hu hcall
      obtain ⟨ra, rc, rfl, _, hrl, _⟩ := hu
      have HFE := Lib.hid hfe
      clear hin hfe
      by_cases h1 : (f.length : Int) = ch
      · cases hff : frm ch f with
        | true =>
          rw [hff] at hcall
          have HY : Hid (frm ch f = true) := Lib.hid hff
          clear hff
          go_wp2_with (go_at_call 82; (with_reducible refine hcall.mono ?_); rintro e w3 ⟨rfl, b3⟩; have HB3 := Lib.hid (Below.then HB.out (Nat.le_refl _) b3); clear b3 hcall hcj)
          go_roundw
          case rel =>
            refine ⟨j + 1, by go_num, by omega, fun q hq => ?_, HB3.out⟩
            by_cases e : q = j
            · subst e; rw [HFE.out]; exact HY.out
            · exact HOK.out q (by omega)
          case measure => simp [intOf]; omega
        | false =>
          rw [hff] at hcall
          clear hff
          go_wp2_with (go_at_call 82; (with_reducible refine hcall.mono ?_); rintro e w3 ⟨rfl, b3⟩; have HB3 := Lib.hid (Below.then HB.out (Nat.le_refl _) b3); clear b3 hcall hcj)
          go_ret3
          exact ⟨rfl, HB3.out⟩
      · have h1' : ((f.length : Int) != ch) = true := by simpa using h1
        go_wp2_with fail
        go_ret3
        exact ⟨rfl, HB.out⟩
    · exfalso
      have := all_yes_of' (f := frm ch) (d := []) fun q hq => HOK.out q (by omega : q < j)
      have h2 : frms ch l = true := this
      rw [HF.out] at h2
      cases h2
end Go.Proofs.Ytgcohmlapgnbdaa
