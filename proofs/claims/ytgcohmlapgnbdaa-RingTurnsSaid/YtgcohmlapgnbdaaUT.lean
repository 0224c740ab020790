/- The document's Play whose frames are right, and which fails. -/
import Derived.Test.YtgcohmlapgnbdaaUS
namespace Go.Proofs.Ytgcohmlapgnbdaa
open Go.RowKit Go.Shelf Go.Deep

set_option maxHeartbeats 4000000 in
set_option maxRecDepth 100000 in
theorem refPlay_new (sz ch fi : Int) (l : List (List Int)) (lv : Value) (ps : List Pass) (pv : Value) (w : World) (hM : MatIn w l lv) (hP : PassIn w ps pv) (hf : frms ch l = true) (hn : newB sz ch fi = false) :
    Calls Try.prog 27 #[.int .i64 sz, .int .i64 ch, .int .i64 fi, lv, pv] w (PlayNo 7 w) := by
  have hnew : Calls Try.prog 11 #[.int .i64 sz, .int .i64 ch, .int .i64 fi] w fun e w' => ∃ a b c d up x uc, e = .returned (.tuple #[rgV a b c 0 0 0 0 d d (.slice up x uc), .int .i64 7]) ∧ Below w.heap.size w w' := (refNew_gen sz ch fi w).mono (by
    rintro e w' ⟨a, b, c, d, up, x, uc, k, rfl, h1, h2, hb⟩
    obtain rfl := h2 hn
    exact ⟨a, b, c, d, up, x, uc, rfl, hb⟩)
  have HM := Lib.hid hM
  have HF := Lib.hid hf
  have HP := Lib.hid hP
  obtain ⟨a, ca, rfl, _, hal, _⟩ := hM
  obtain ⟨pa, pc, rfl, _, hpl, _⟩ := hP
  have HFR := Lib.hid fun (f : List Int) (v : Value) x (hv : RowIn x f v) => refFrame_any 0 ch 0 0 0 0 0 0 0 none 0 0 f v x hv
  clear hf
  go_enter Try.func27, Try.ntmps27
  go_wp2_with (go_at_call 11; (with_reducible refine hnew.mono ?_); rintro e w1 ⟨na, nb, nc, nd, up, ux, uc, rfl, hb⟩; have HB1 := Lib.hid hb; clear hb hnew)
  have hb2 : Below w.heap.size w (w1.alloc (.cells (rgC na nb nc 0 0 0 0 nd nd (.slice up ux uc)) 31)) := Below.then HB1.out (Nat.le_refl _) ((Below.refl _ _).alloc (Nat.le_refl _) _)
  have HB2 := Lib.hid hb2
  clear hb2
  go_loopw [15] (fun i wr => ∃ j : Nat, i = .int .i64 j ∧ j ≤ l.length ∧ Below w.heap.size w wr) (fun i _ => l.length - (intOf i).toNat)
  case atStart => exact ⟨0, rfl, Nat.zero_le _, HB2.out⟩
  case round =>
    obtain ⟨j, rfl, hj, hb⟩ := hrel
    have HB := Lib.hid hb
    clear hb
    by_cases hlt : j < l.length
    · have w4 : (j : Int) < (l.length : Int) := by omega
      obtain ⟨a2, ca2, e2, hin, _, _⟩ := HM.out.mono (Same.of_below HB.out)
      simp only [Value.slice.injEq, true_and] at e2
      obtain ⟨rfl, rfl⟩ := e2
      obtain ⟨bb, ob, u, rfl, hcj, hu⟩ := hin j hlt
      have hcall := HFR.out _ u wr hu
      have hfj : frm ch (l.getD j []) = true := all_at' (d := []) HF.out hlt
      rw [hfj] at hcall
      have h1 : ((l.getD j []).length : Int) = ch := by simp [frm] at hfj; simpa [List.getD] using hfj.1
      obtain ⟨f, hfe⟩ : ∃ f, l.getD j [] = f := ⟨_, rfl⟩
      rw [hfe] at hu h1
      obtain ⟨ra, rc, rfl, _, hrl, _⟩ := hu
      clear hin hfe hfj
      go_wp2_with (go_at_call 82; (with_reducible refine hcall.mono ?_); rintro e w3 ⟨rfl, b3⟩; have HB3 := Lib.hid (Below.then HB.out (Nat.le_refl _) b3); clear b3 hcall hcj)
      go_roundw
      case rel => exact ⟨j + 1, by go_num, by omega, HB3.out⟩
      case measure => simp [intOf]; omega
    · have w4 : ¬ (j : Int) < (l.length : Int) := by omega
      go_wp2_with fail
      go_ret3
      exact ⟨rfl, HB.out⟩
set_option maxHeartbeats 4000000 in
set_option maxRecDepth 100000 in
theorem refPlay_turns (sz ch fi : Int) (l : List (List Int)) (lv : Value) (ps : List Pass) (pv : Value) (w : World) (hM : MatIn w l lv) (hP : PassIn w ps pv) (hf : frms ch l = true) (hn : newB sz ch fi = true) (hps : passesB ps = false) :
    Calls Try.prog 27 #[.int .i64 sz, .int .i64 ch, .int .i64 fi, lv, pv] w (PlayNo 7 w) := by
  have HPS := Lib.hid hps
  clear hps
  have hnew : Calls Try.prog 11 #[.int .i64 sz, .int .i64 ch, .int .i64 fi] w fun e w' => ∃ a b c d up x uc, e = .returned (.tuple #[rgV a b c 0 0 0 0 d d (.slice up x uc), .int .i64 0]) ∧ Below w.heap.size w w' := (refNew_gen sz ch fi w).mono (by
    rintro e w' ⟨a, b, c, d, up, x, uc, k, rfl, h1, h2, hb⟩
    obtain rfl := h1 hn
    exact ⟨a, b, c, d, up, x, uc, rfl, hb⟩)
  have HM := Lib.hid hM
  have HF := Lib.hid hf
  have HP := Lib.hid hP
  obtain ⟨a, ca, rfl, _, hal, _⟩ := hM
  obtain ⟨pa, pc, rfl, _, hpl, _⟩ := hP
  have HFR := Lib.hid fun (f : List Int) (v : Value) x (hv : RowIn x f v) => refFrame_any 0 ch 0 0 0 0 0 0 0 none 0 0 f v x hv
  clear hf
  go_enter Try.func27, Try.ntmps27
  go_wp2_with (go_at_call 11; (with_reducible refine hnew.mono ?_); rintro e w1 ⟨na, nb, nc, nd, up, ux, uc, rfl, hb⟩; have HB1 := Lib.hid hb; clear hb hnew)
  have hb2 : Below w.heap.size w (w1.alloc (.cells (rgC na nb nc 0 0 0 0 nd nd (.slice up ux uc)) 31)) := Below.then HB1.out (Nat.le_refl _) ((Below.refl _ _).alloc (Nat.le_refl _) _)
  have HB2 := Lib.hid hb2
  clear hb2
  go_loopw [15] (fun i wr => ∃ j : Nat, i = .int .i64 j ∧ j ≤ l.length ∧ Below w.heap.size w wr) (fun i _ => l.length - (intOf i).toNat)
  case atStart => exact ⟨0, rfl, Nat.zero_le _, HB2.out⟩
  case round =>
    obtain ⟨j, rfl, hj, hb⟩ := hrel
    have HB := Lib.hid hb
    clear hb
    by_cases hlt : j < l.length
    · have w4 : (j : Int) < (l.length : Int) := by omega
      obtain ⟨a2, ca2, e2, hin, _, _⟩ := HM.out.mono (Same.of_below HB.out)
      simp only [Value.slice.injEq, true_and] at e2
      obtain ⟨rfl, rfl⟩ := e2
      obtain ⟨bb, ob, u, rfl, hcj, hu⟩ := hin j hlt
      have hcall := HFR.out _ u wr hu
      have hfj : frm ch (l.getD j []) = true := all_at' (d := []) HF.out hlt
      rw [hfj] at hcall
      have h1 : ((l.getD j []).length : Int) = ch := by simp [frm] at hfj; simpa [List.getD] using hfj.1
      obtain ⟨f, hfe⟩ : ∃ f, l.getD j [] = f := ⟨_, rfl⟩
      rw [hfe] at hu h1
      obtain ⟨ra, rc, rfl, _, hrl, _⟩ := hu
      clear hin hfe hfj
      go_wp2_with (go_at_call 82; (with_reducible refine hcall.mono ?_); rintro e w3 ⟨rfl, b3⟩; have HB3 := Lib.hid (Below.then HB.out (Nat.le_refl _) b3); clear b3 hcall hcj)
      go_roundw
      case rel => exact ⟨j + 1, by go_num, by omega, HB3.out⟩
      case measure => simp [intOf]; omega
    · have w4 : ¬ (j : Int) < (l.length : Int) := by omega
      go_wp2_with fail
      go_loopw [16] (fun i wr => ∃ j : Nat, i = .int .i64 j ∧ j ≤ ps.length ∧ (∀ q, q < j → passB (pAt ps q) = true) ∧ Below w.heap.size w wr) (fun i _ => ps.length - (intOf i).toNat)
      case atStart => exact ⟨0, rfl, Nat.zero_le _, fun q hq => absurd hq (Nat.not_lt_zero _), HB.out⟩
      case round =>
        clear HB
        obtain ⟨jj, rfl, hjj, hok, hb⟩ := hrel
        have HOK := Lib.hid hok
        have HB := Lib.hid hb
        clear hok hb
        by_cases hlt2 : jj < ps.length
        · have w5 : (jj : Int) < (ps.length : Int) := by omega
          obtain ⟨a3, ca3, e3, hin3, _, _⟩ := HP.out.mono (Same.of_below HB.out)
          simp only [Value.slice.injEq, true_and] at e3
          obtain ⟨rfl, rfl⟩ := e3
          obtain ⟨b, off, rfl, c0, c1, c2⟩ := hin3 jj hlt2
          obtain ⟨p, hp⟩ : ∃ p, pAt ps jj = p := ⟨_, rfl⟩
          rw [hp] at c0 c1 c2
          have HPJ := Lib.hid hp
          have HBN := Lib.hid (HB.out.alloc HB.out.size (.cells #[.int .i64 p.who, .int .i64 p.kind, .int .i64 p.n] 118))
          obtain ⟨who, kind, n⟩ := p
          dsimp only at c0 c1 c2 HBN
          clear hin3 hp
          by_cases hpb : passB ⟨who, kind, n⟩ = true
          · obtain ⟨⟨x1, x2⟩, ⟨x3, x4⟩, x5⟩ := passB_t hpb
            have HPB := Lib.hid hpb
            clear hpb
            dsimp only at x1 x2 x3 x4 x5
            have y1 : ¬ who < 0 := by omega
            have y2 : ¬ 1 < who := by omega
            have y3 : ¬ kind < 0 := by omega
            have y4 : ¬ 3 < kind := by omega
            by_cases hk1 : kind = 1
            · have y5 : ¬ n < 0 := by have := x5 hk1; omega
              subst hk1
              clear x1 x2 x3 x4 x5
              go_wp2_with fail
              go_roundw
              case rel =>
                refine ⟨jj + 1, by go_num, by omega, fun q hq => ?_, HBN.out⟩
                by_cases e : q = jj
                · subst e; rw [HPJ.out]; exact HPB.out
                · exact HOK.out q (by omega)
              case measure => simp [intOf]; omega
            · have y5 : (kind == 1) = false := by simpa using hk1
              clear x1 x2 x3 x4 x5
              go_wp2_with fail
              go_roundw
              case rel =>
                refine ⟨jj + 1, by go_num, by omega, fun q hq => ?_, HBN.out⟩
                by_cases e : q = jj
                · subst e; rw [HPJ.out]; exact HPB.out
                · exact HOK.out q (by omega)
              case measure => simp [intOf]; omega
          · by_cases y1 : who < 0
            · go_wp2_with fail
              go_ret3
              exact ⟨rfl, HBN.out⟩
            · by_cases y2 : 1 < who
              · go_wp2_with fail
                go_ret3
                exact ⟨rfl, HBN.out⟩
              · by_cases y3 : kind < 0
                · go_wp2_with fail
                  go_ret3
                  exact ⟨rfl, HBN.out⟩
                · by_cases y4 : 3 < kind
                  · go_wp2_with fail
                    go_ret3
                    exact ⟨rfl, HBN.out⟩
                  · have hk1 : kind = 1 ∧ n < 0 := by
                      have h6 : ¬ (passB ⟨who, kind, n⟩ = true) := hpb
                      simp [passB] at h6
                      have := h6 (by omega) (by omega) (by omega) (by omega)
                      exact this
                    obtain ⟨rfl, y5⟩ := hk1
                    go_wp2_with fail
                    go_ret3
                    exact ⟨rfl, HBN.out⟩
        · exfalso
          have := all_yes_of' (f := passB) (d := Pass.zero) fun q hq => HOK.out q (by omega : q < jj)
          have h2 : passesB ps = true := this
          rw [HPS.out] at h2
          cases h2
set_option maxHeartbeats 4000000 in
set_option maxRecDepth 100000 in
theorem refPlay_limit (sz ch fi : Int) (l : List (List Int)) (lv : Value) (ps : List Pass) (pv : Value) (w : World) (hM : MatIn w l lv) (hP : PassIn w ps pv) (hf : frms ch l = true) (hn : newB sz ch fi = true) (hps : passesB ps = true) (hlm : ¬ (l.length ≤ 2000 ∧ ps.length ≤ 5000)) :
    Calls Try.prog 27 #[.int .i64 sz, .int .i64 ch, .int .i64 fi, lv, pv] w (PlayNo 4 w) := by
  have HPS := Lib.hid hps
  have HLM := Lib.hid hlm
  clear hps hlm
  have hnew : Calls Try.prog 11 #[.int .i64 sz, .int .i64 ch, .int .i64 fi] w fun e w' => ∃ a b c d up x uc, e = .returned (.tuple #[rgV a b c 0 0 0 0 d d (.slice up x uc), .int .i64 0]) ∧ Below w.heap.size w w' := (refNew_gen sz ch fi w).mono (by
    rintro e w' ⟨a, b, c, d, up, x, uc, k, rfl, h1, h2, hb⟩
    obtain rfl := h1 hn
    exact ⟨a, b, c, d, up, x, uc, rfl, hb⟩)
  have HM := Lib.hid hM
  have HF := Lib.hid hf
  have HP := Lib.hid hP
  obtain ⟨a, ca, rfl, _, hal, _⟩ := hM
  obtain ⟨pa, pc, rfl, _, hpl, _⟩ := hP
  have HFR := Lib.hid fun (f : List Int) (v : Value) x (hv : RowIn x f v) => refFrame_any 0 ch 0 0 0 0 0 0 0 none 0 0 f v x hv
  clear hf
  go_enter Try.func27, Try.ntmps27
  go_wp2_with (go_at_call 11; (with_reducible refine hnew.mono ?_); rintro e w1 ⟨na, nb, nc, nd, up, ux, uc, rfl, hb⟩; have HB1 := Lib.hid hb; clear hb hnew)
  have hb2 : Below w.heap.size w (w1.alloc (.cells (rgC na nb nc 0 0 0 0 nd nd (.slice up ux uc)) 31)) := Below.then HB1.out (Nat.le_refl _) ((Below.refl _ _).alloc (Nat.le_refl _) _)
  have HB2 := Lib.hid hb2
  clear hb2
  go_loopw [15] (fun i wr => ∃ j : Nat, i = .int .i64 j ∧ j ≤ l.length ∧ Below w.heap.size w wr) (fun i _ => l.length - (intOf i).toNat)
  case atStart => exact ⟨0, rfl, Nat.zero_le _, HB2.out⟩
  case round =>
    obtain ⟨j, rfl, hj, hb⟩ := hrel
    have HB := Lib.hid hb
    clear hb
    by_cases hlt : j < l.length
    · have w4 : (j : Int) < (l.length : Int) := by omega
      obtain ⟨a2, ca2, e2, hin, _, _⟩ := HM.out.mono (Same.of_below HB.out)
      simp only [Value.slice.injEq, true_and] at e2
      obtain ⟨rfl, rfl⟩ := e2
      obtain ⟨bb, ob, u, rfl, hcj, hu⟩ := hin j hlt
      have hcall := HFR.out _ u wr hu
      have hfj : frm ch (l.getD j []) = true := all_at' (d := []) HF.out hlt
      rw [hfj] at hcall
      have h1 : ((l.getD j []).length : Int) = ch := by simp [frm] at hfj; simpa [List.getD] using hfj.1
      obtain ⟨f, hfe⟩ : ∃ f, l.getD j [] = f := ⟨_, rfl⟩
      rw [hfe] at hu h1
      obtain ⟨ra, rc, rfl, _, hrl, _⟩ := hu
      clear hin hfe hfj
      go_wp2_with (go_at_call 82; (with_reducible refine hcall.mono ?_); rintro e w3 ⟨rfl, b3⟩; have HB3 := Lib.hid (Below.then HB.out (Nat.le_refl _) b3); clear b3 hcall hcj)
      go_roundw
      case rel => exact ⟨j + 1, by go_num, by omega, HB3.out⟩
      case measure => simp [intOf]; omega
    · have w4 : ¬ (j : Int) < (l.length : Int) := by omega
      go_wp2_with fail
      go_loopw [16] (fun i wr => ∃ j : Nat, i = .int .i64 j ∧ j ≤ ps.length ∧ (∀ q, q < j → passB (pAt ps q) = true) ∧ Below w.heap.size w wr) (fun i _ => ps.length - (intOf i).toNat)
      case atStart => exact ⟨0, rfl, Nat.zero_le _, fun q hq => absurd hq (Nat.not_lt_zero _), HB.out⟩
      case round =>
        clear HB
        obtain ⟨jj, rfl, hjj, hok, hb⟩ := hrel
        have HOK := Lib.hid hok
        have HB := Lib.hid hb
        clear hok hb
        by_cases hlt2 : jj < ps.length
        · have w5 : (jj : Int) < (ps.length : Int) := by omega
          obtain ⟨a3, ca3, e3, hin3, _, _⟩ := HP.out.mono (Same.of_below HB.out)
          simp only [Value.slice.injEq, true_and] at e3
          obtain ⟨rfl, rfl⟩ := e3
          obtain ⟨b, off, rfl, c0, c1, c2⟩ := hin3 jj hlt2
          obtain ⟨p, hp⟩ : ∃ p, pAt ps jj = p := ⟨_, rfl⟩
          rw [hp] at c0 c1 c2
          have HPJ := Lib.hid hp
          have HBN := Lib.hid (HB.out.alloc HB.out.size (.cells #[.int .i64 p.who, .int .i64 p.kind, .int .i64 p.n] 118))
          obtain ⟨who, kind, n⟩ := p
          dsimp only at c0 c1 c2 HBN
          clear hin3 hp
          by_cases hpb : passB ⟨who, kind, n⟩ = true
          · obtain ⟨⟨x1, x2⟩, ⟨x3, x4⟩, x5⟩ := passB_t hpb
            have HPB := Lib.hid hpb
            clear hpb
            dsimp only at x1 x2 x3 x4 x5
            have y1 : ¬ who < 0 := by omega
            have y2 : ¬ 1 < who := by omega
            have y3 : ¬ kind < 0 := by omega
            have y4 : ¬ 3 < kind := by omega
            by_cases hk1 : kind = 1
            · have y5 : ¬ n < 0 := by have := x5 hk1; omega
              subst hk1
              clear x1 x2 x3 x4 x5
              go_wp2_with fail
              go_roundw
              case rel =>
                refine ⟨jj + 1, by go_num, by omega, fun q hq => ?_, HBN.out⟩
                by_cases e : q = jj
                · subst e; rw [HPJ.out]; exact HPB.out
                · exact HOK.out q (by omega)
              case measure => simp [intOf]; omega
            · have y5 : (kind == 1) = false := by simpa using hk1
              clear x1 x2 x3 x4 x5
              go_wp2_with fail
              go_roundw
              case rel =>
                refine ⟨jj + 1, by go_num, by omega, fun q hq => ?_, HBN.out⟩
                by_cases e : q = jj
                · subst e; rw [HPJ.out]; exact HPB.out
                · exact HOK.out q (by omega)
              case measure => simp [intOf]; omega
          · exfalso
            have h6 := all_at' (f := passB) (d := Pass.zero) HPS.out hlt2
            rw [show ps.getD jj Pass.zero = pAt ps jj from rfl, HPJ.out] at h6
            exact hpb h6
        · have w5 : ¬ (jj : Int) < (ps.length : Int) := by omega
          by_cases z1 : l.length ≤ 2000
          · have z2 : (5000 : Int) < (ps.length : Int) := by have := HLM.out; omega
            have z3 : ¬ (2000 : Int) < (l.length : Int) := by omega
            go_wp2_with fail
            go_ret3
            exact ⟨rfl, HB.out⟩
          · have z3 : (2000 : Int) < (l.length : Int) := by omega
            go_wp2_with fail
            go_ret3
            exact ⟨rfl, HB.out⟩
theorem refPlay_no (sz ch fi : Int) (l : List (List Int)) (lv : Value) (ps : List Pass) (pv : Value) (w : World) (hM : MatIn w l lv) (hP : PassIn w ps pv) (hk : playK sz ch fi l ps ≠ 0) :
    Calls Try.prog 27 #[.int .i64 sz, .int .i64 ch, .int .i64 fi, lv, pv] w (PlayNo (playK sz ch fi l ps) w) := by
  unfold playK at hk ⊢
  cases hf : frms ch l with
  | false =>
    rw [if_pos rfl]
    obtain ⟨pa, pc, rfl, _⟩ := hP
    exact refPlay_frames sz ch fi l lv pa _ pc w hM hf
  | true =>
    rw [if_neg (by decide)]
    cases hn : newB sz ch fi with
    | false => rw [if_pos rfl]; exact refPlay_new sz ch fi l lv ps pv w hM hP hf hn
    | true =>
      rw [if_neg (by decide)]
      cases hps : passesB ps with
      | false => rw [if_pos rfl]; exact refPlay_turns sz ch fi l lv ps pv w hM hP hf hn hps
      | true =>
        rw [if_neg (by decide)]
        by_cases hlm : l.length ≤ 2000 ∧ ps.length ≤ 5000
        · rw [hf, hn, hps, if_neg (by decide), if_neg (by decide), if_neg (by decide), if_pos hlm] at hk
          exact absurd rfl hk
        · rw [if_neg hlm]
          exact refPlay_limit sz ch fi l lv ps pv w hM hP hf hn hps hlm
end Go.Proofs.Ytgcohmlapgnbdaa
