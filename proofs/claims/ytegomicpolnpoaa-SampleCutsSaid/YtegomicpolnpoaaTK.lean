/- Join: the program's. -/
import Derived.Test.YtegomicpolnpoaaTJ
namespace Go.Proofs.Ytegomicpolnpoaa
open Go.RowKit Go.Shelf Go.Deep

/-- Row i of the first q blocks. -/
def rc (l : List (List (List Int))) (i : Nat) : Nat → List Int
  | 0 => []
  | q + 1 => rc l i q ++ (l.getD q []).getD i []
theorem rc_len {l : List (List (List Int))} (hv : okV l = true) (hc : okC l = true) {i : Nat} (hi : i < (l.getD 0 []).length) : ∀ q, q ≤ l.length → (rc l i q).length = sumTo l q
  | 0, _ => by simp [rc, sumTo]
  | q + 1, h => by
    have hq : q < l.length := by omega
    have h0 := validB_parts (all_at (d := []) hv hq)
    have hcn : (l.getD q []).length = (l.getD 0 []).length := by have := all_at (d := []) hc hq; simpa using this
    rw [rc, List.length_append, rc_len hv hc hi q (by omega), sumTo_succ, h0.2.2.2 i (by omega)]
theorem jn_rc {l : List (List (List Int))} (hv : okV l = true) (hc : okC l = true) {i : Nat} (hi : i < (l.getD 0 []).length) : ∀ n, n < l.length → (jn l n).getD i [] = rc l i (n + 1)
  | 0, hn => by
    have h0 := validB_parts (all_at (d := []) hv hn)
    rw [jn, partM_at hi, List.drop_zero, List.take_of_length_le (by rw [h0.2.2.2 i hi]; omega)]
    simp [rc]
  | n + 1, hn => by rw [jn, behindM_at (by rw [jn_len]; exact hi), jn_rc hv hc hi n (by omega)]; rfl
/-- The numbers when q blocks and i0 rows of the next one were copied. -/
def jF (l : List (List (List Int))) (q i0 i j : Nat) : Int := if i < i0 then (rc l i (q + 1)).getD j 0 else (rc l i q).getD j 0
theorem jF_zero (l : List (List (List Int))) (q i j : Nat) : jF l q 0 i j = (rc l i q).getD j 0 := if_neg (by omega)
theorem jF_full {l : List (List (List Int))} {q i0 i : Nat} (j : Nat) (h : i < i0) : jF l q i0 i j = jF l (q + 1) 0 i j := by rw [jF_zero]; exact if_pos h

theorem joinK_zero {l : List (List (List Int))} (h : joinK l = 0) : okV l = true ∧ 0 < l.length ∧ okC l = true ∧ sumTo l l.length ≤ 4096 := by
  unfold joinK at h
  by_cases h1 : okV l = false
  · rw [if_pos h1] at h; omega
  rw [if_neg h1] at h
  by_cases h2 : l.length = 0
  · rw [if_pos h2] at h; omega
  rw [if_neg h2] at h
  by_cases h3 : okC l = false
  · rw [if_pos h3] at h; omega
  rw [if_neg h3] at h
  by_cases h4 : 4096 < sumTo l l.length
  · rw [if_pos h4] at h; omega
  exact ⟨by simpa using h1, by omega, by simpa using h3, by omega⟩
theorem getD_app {r s : List Int} {j : Nat} : (r ++ s).getD j 0 = if j < r.length then r.getD j 0 else s.getD (j - r.length) 0 := by
  by_cases h : j < r.length
  · rw [if_pos h]; simp [List.getD, List.getElem?_append_left h]
  · rw [if_neg h]; simp [List.getD, List.getElem?_append_right (show r.length ≤ j by omega)]
theorem getD_out {r : List Int} {j : Nat} (h : r.length ≤ j) : r.getD j 0 = 0 := by simp [List.getD, List.getElem?_eq_none h]
theorem join_mat {l : List (List (List Int))} (h : joinK l = 0) : tabM (l.getD 0 []).length (sumTo l l.length) (fun i j => (rc l i l.length).getD j 0) = joinR l := by
  obtain ⟨hv, hp, hc, _⟩ := joinK_zero h
  unfold joinR
  rw [if_pos h]
  have e : l.length - 1 + 1 = l.length := by omega
  apply mat_eq_of (by rw [tabM_len, jn_len])
  intro i hi
  rw [tabM_len] at hi
  rw [tabM_row _ hi, jn_rc hv hc hi _ (by omega), e]
  have hl := rc_len hv hc hi l.length (Nat.le_refl _)
  apply list_eq_of (by simp [hl])
  intro j hj
  simp at hj
  simp [List.getD, hj]
theorem rc_I64 {w : World} {l : List (List (List Int))} {v : Value} (h : BlksIn w l v) (i : Nat) : ∀ q j, I64 ((rc l i q).getD j 0)
  | 0, j => by simp [rc, I64]
  | q + 1, j => by
    rw [rc, getD_app]
    split
    · exact rc_I64 h i q j
    · generalize j - (rc l i q).length = p
      by_cases hq : q < l.length
      · obtain ⟨a, cap, _, h2, _, _⟩ := h
        obtain ⟨_, _, u, _, _, a2, c2, _, hr, _, _⟩ := h2 q hq
        by_cases hi : i < (l.getD q []).length
        · obtain ⟨_, _, u2, _, _, a3, c3, _, hx, _, _⟩ := hr i hi
          by_cases hp : p < ((l.getD q []).getD i []).length
          · obtain ⟨_, _, _, _, hI⟩ := hx p hp; exact hI
          · rw [getD_out (by omega)]; simp [I64]
        · have : (l.getD q []).getD i [] = [] := by
            generalize l.getD q [] = z at *
            simp [List.getD, List.getElem?_eq_none (show z.length ≤ i by omega)]
          rw [this]; simp [I64]
      · have : l.getD q [] = [] := by simp [List.getD, List.getElem?_eq_none (show l.length ≤ q by omega)]
        rw [this]; simp [I64]

theorem spl_jF {l : List (List (List Int))} {q k sq C : Nat} {Lf : Nat → Int} (hLf : (fun j => ((l.getD q []).getD k []).getD j 0) = Lf) (h1 : (rc l k q).length = sq) (h2 : ((l.getD q []).getD k []).length = C) (i : Nat) :
    spl (fun i => Value.int .i64 (jF l q k k i)) sq C Lf i = .int .i64 (jF l q (k + 1) k i) := by
  have e1 : jF l q (k + 1) k i = (rc l k q ++ (l.getD q []).getD k []).getD i 0 := if_pos (by omega)
  have e2 : jF l q k k i = (rc l k q).getD i 0 := if_neg (by omega)
  subst hLf
  unfold spl
  simp only [e1, e2, getD_app, h1]
  by_cases a : i < sq
  · rw [if_neg (by omega), if_pos a]
  · rw [if_neg a]
    by_cases b : i < sq + C
    · rw [if_pos ⟨by omega, b⟩]
    · rw [if_neg (by omega), getD_out (by omega), getD_out (r := (l.getD q []).getD k []) (by omega)]

set_option maxHeartbeats 8000000 in
set_option maxRecDepth 100000 in
theorem join1_no (l : List (List (List Int))) (v : Value) (Bl : Nat) (w : World) (hL : BlksIn w l v) (k0 : w.cell? ⟨Bl, 0, none⟩ = some v) (hK : joinK l ≠ 0) :
    Calls Try.prog 97 #[at0 Bl] w (LeavesX (joinK l) w) := by
  have h98 := joined_any l v w hL
  obtain ⟨a, ca, rfl, _, _, _⟩ := hL
  go_enter Try.func97, Try.ntmps97
  go_wp2_with (go_at_call 98; (with_reducible refine h98.mono ?_); rintro e w1 ⟨_, h2, h3⟩; obtain rfl := h2 hK)
  exact ⟨rfl, rfl, h3⟩

set_option maxHeartbeats 8000000 in
set_option maxRecDepth 100000 in
theorem join1_yes (l : List (List (List Int))) (v : Value) (Bl : Nat) (w : World) (hL : BlksIn w l v) (k0 : w.cell? ⟨Bl, 0, none⟩ = some v) (hK : joinK l = 0) :
    Calls Try.prog 97 #[at0 Bl] w (Gives (fun u w => MatIn w (joinR l) u) w) := by
  have h98 := joined_any l v w hL
  obtain ⟨hv, hp, hc, hs⟩ := joinK_zero hK
  obtain ⟨a, ca, rfl, hin, hal, _⟩ := id hL
  have HX : Hid (∀ x, Below w.heap.size w x → BlksIn x l (.slice a l.length ca) ∧ x.cell? ⟨Bl, 0, none⟩ = some (.slice a l.length ca)) := Lib.hid fun x hx => ⟨hL.mono (Same.of_below hx), (Same.of_below hx).cell k0⟩
  have HI := Lib.hid (rc_I64 hL)
  have HJM := Lib.hid (join_mat hK)
  obtain ⟨g1, g2, g3, g4⟩ := validB_parts (all_at (d := []) hv hp)
  have hsil := fun w => silent_gr (r := (l.getD 0 []).length) (c := sumTo l l.length) g1 g2 hs w
  obtain ⟨n0, hn0⟩ : ∃ n0, (l.getD 0 []).length = n0 := ⟨_, rfl⟩
  obtain ⟨T, hT⟩ : ∃ T, sumTo l l.length = T := ⟨_, rfl⟩
  have h98' : Calls Try.prog 98 #[.slice a l.length ca] w fun e w' => e = .returned (.agg #[.int .i64 n0, .int .i64 T]) ∧ Below w.heap.size w w' :=
    h98.mono fun e w' ⟨q1, _, q3⟩ => ⟨by rw [← hn0, ← hT]; exact q1 hK, q3⟩
  rw [hn0, hT] at hsil
  have HS := Lib.hid hsil
  have HN0 := Lib.hid hn0
  have HT := Lib.hid hT
  have HV := Lib.hid hv
  have HC := Lib.hid hc
  have hTs : T ≤ 4096 := by omega
  rw [hn0] at g1 g2
  clear h98 hL hin hv hc g3 g4 hsil hn0 hT hs hK
  go_enter Try.func97, Try.ntmps97
  go_wp2_with (first
    | (go_at_call 98; (with_reducible refine h98'.mono ?_); rintro e w1 ⟨rfl, hb1⟩; have HB1 := Lib.hid hb1; have kx := (HX.out _ (hb1.alloc hb1.size (.cells #[.int .i64 n0, .int .i64 T] 87))).2; clear hb1)
    | (go_at_call 80; (with_reducible refine (HS.out _).mono ?_); rintro e w2 ⟨rfl, hg, hb2⟩; have HG := Lib.hid hg; have HB2 := Lib.hid (Below.then (HB1.out.alloc HB1.out.size _) (Nat.le_refl _) hb2); have ky := (HX.out _ HB2.out).2; clear hg hb2))
  obtain ⟨N, hN⟩ : ∃ N, w1.heap.size + 1 = N := ⟨_, rfl⟩
  have hNw : w.heap.size ≤ N := by have := HB1.out.size; omega
  have HG2 : Hid (Gr N n0 T (fun _ _ => 0) w2) := Lib.hid (by have := HG.out; simp only [World.size_alloc] at this; rw [hN] at this; exact this)
  rw [hN]
  have HNW := Lib.hid hNw
  clear hN hNw HG kx ky k0 h98'
  go_loopw [5, 22] (fun o i wr => ∃ q : Nat, i = .int .i64 q ∧ q ≤ l.length ∧ o = .int .i64 (sumTo l q) ∧ Gr N n0 T (jF l q 0) wr ∧ Below w.heap.size w wr) (fun _ i _ => l.length - (RowKit.intOf i).toNat)
  case atStart => exact ⟨0, rfl, Nat.zero_le _, by simp [sumTo], HG2.out.congr fun i j _ _ => by simp [jF_zero, rc], HB2.out⟩
  case round =>
    clear HG2 HB2 HB1
    obtain ⟨q, rfl, hq, rfl, hg, hb⟩ := hrel
    by_cases hlt : q < l.length
    · have w4 : (q : Int) < (l.length : Int) := by omega
      obtain ⟨bb, ob, u, rfl, hcj0, hu⟩ := blks_at (HX.out _ (Below.refl _ w)).1 hlt
      obtain ⟨g3, g4, g5, g6⟩ := validB_parts (all_at (d := []) HV.out hlt)
      have hnq : (l.getD q []).length = n0 := by have := all_at (d := []) HC.out hlt; rw [← HN0.out]; simpa using this
      have hss := sumTo_succ l q
      have hmo := sumTo_mono l (show q + 1 ≤ l.length from hlt)
      rw [HT.out] at hmo
      obtain ⟨au, cu, rfl, hbin, _, _⟩ := id hu
      obtain ⟨b9, o9, u9, rfl, hc90, a9, c9, rfl, _, _, _⟩ := hbin 0 (by omega)
      simp only [Nat.add_zero] at hc90
      change w.cell? _ = some (Value.slice a9 (cols (l.getD q [])) c9) at hc90
      obtain ⟨C, hC⟩ : ∃ C, cols (l.getD q []) = C := ⟨_, rfl⟩
      rw [hC] at hc90 g5 g6 hss
      rw [hnq] at hcj0 g6
      have hu' : MatIn w (l.getD q []) (.slice (some ⟨b9, o9, none⟩) n0 cu) := by rw [← hnq]; exact hu
      have HQ : Hid (∀ x, Below w.heap.size w x → x.cell? ⟨bb, ob + q, none⟩ = some (.slice (some ⟨b9, o9, none⟩) n0 cu) ∧ x.cell? ⟨b9, o9, none⟩ = some (.slice a9 C c9) ∧ MatIn x (l.getD q []) (.slice (some ⟨b9, o9, none⟩) n0 cu) ∧ x.cell? ⟨Bl, 0, none⟩ = some (.slice (some ⟨bb, ob, none⟩) l.length ca)) :=
        Lib.hid fun x hx => ⟨(Same.of_below hx).cell hcj0, (Same.of_below hx).cell hc90, hu'.mono (Same.of_below hx), (HX.out _ hx).2⟩
      have HRL := Lib.hid g6
      have HSS := Lib.hid hss
      have HHQ := Lib.hid hnq
      have hsc : sumTo l q + C ≤ T := by omega
      obtain ⟨sq, hsq⟩ : ∃ sq, sumTo l q = sq := ⟨_, rfl⟩
      rw [hsq] at hsc HSS ⊢
      have HSQ := Lib.hid hsq
      have HRC : Hid (∀ i, i < n0 → (rc l i q).length = sq) := Lib.hid fun i hi => by rw [← hsq]; exact rc_len HV.out HC.out (by rw [HN0.out]; exact hi) q (by omega)
      obtain ⟨kc1, kc2, _, kc4⟩ := HQ.out _ hb
      have HG := Lib.hid hg
      have HB := Lib.hid hb
      clear hcj0 hc90 hu hu' hbin g6 hss hnq hmo hsq hC hg hb
      go_wp2_with fail
      clear kc1 kc2 kc4
      obtain ⟨wo, hwo⟩ : ∃ wo : World, wo = wr := ⟨_, rfl⟩
      subst hwo
      go_loopw [28] (fun i wr => ∃ k : Nat, i = .int .i64 k ∧ k ≤ n0 ∧ Gr N n0 T (jF l q k) wr ∧ Below w.heap.size w wr) (fun i _ => n0 - (RowKit.intOf i).toNat)
      case atStart => exact ⟨0, rfl, Nat.zero_le _, HG.out, HB.out⟩
      case round =>
        clear HG HB
        obtain ⟨k, rfl, hk, hg, hb⟩ := hrel
        obtain ⟨kc1, kc2, kc3, kc4⟩ := HQ.out _ hb
        by_cases hlt2 : k < n0
        · have w5 : (k : Int) < (n0 : Int) := by omega
          obtain ⟨_, _, e2, hin2, _, _⟩ := kc3
          simp only [Value.slice.injEq, Option.some.injEq] at e2
          obtain ⟨rfl, hxx, rfl⟩ := e2
          clear hxx
          obtain ⟨_, _, ur, e3, hcr, hur⟩ := hin2 k (by rw [HHQ.out]; exact hlt2)
          simp only [Option.some.injEq, Addr.mk.injEq, and_true] at e3
          obtain ⟨rfl, rfl⟩ := e3
          obtain ⟨ar, cr, rfl, hrin, _, hcap⟩ := hur
          have hrl := HRL.out k hlt2
          rw [hrl] at hcr hcap
          have hct := hg.top.cell hlt2
          rw [show topZ N T n0 k = .slice (some ⟨N + 1 + k, 0, none⟩) T T by simp [topZ, hlt2]] at hct
          have HSRC := Lib.hid (row_src hrin)
          have HRL2 := Lib.hid hrl
          obtain ⟨Lf, hLf⟩ : ∃ Lf : Nat → Int, (fun j => ((l.getD q []).getD k []).getD j 0) = Lf := ⟨_, rfl⟩
          have HLF := Lib.hid hLf
          have HSRC2 : Hid (0 < C → ∃ ad, ar = some ad ∧ ∀ j, j < C → wr.cell? (ad.add j) = some (.int .i64 (Lf j))) := Lib.hid fun h => by
            obtain ⟨ad, z1, z2⟩ := HSRC.out (by rw [hrl]; exact h)
            exact ⟨ad, z1, fun j hj => by rw [← hLf]; exact z2 j (by rw [hrl]; exact hj)⟩
          clear hLf
          have HG := Lib.hid hg
          have HB := Lib.hid hb
          have d5 : (sq : Int) ≤ (T : Int) := by omega
          clear hin2 hrin hg hb hrl
          by_cases hat : T = sq
          · subst hat
            obtain rfl : C = 0 := by omega
            go_wp2_with (with_reducible refine wpList_copy_grid rfl (.tmp 38) (.tmp 39) 34 34 rfl 3 Try.underlying34 Try.one3 (some ⟨N + 1 + k, 0, none⟩) ar 0 0 0 cr rfl rfl (N + 1 + k) T T _ 3 (HG.out.rows k hlt2) 0 Lf (by simp) (fun h => absurd h (by omega)) (by omega) ?_)
            intro w' hr' hg'
            have hG2 : Gr N n0 T (jF l q (k + 1)) w' := Gr.row HG.out hlt2 hg' (hr'.congr fun i hi => spl_jF HLF.out (HRC.out k hlt2) HRL2.out i) (fun j i hj hjk _ => by
              unfold jF
              by_cases e : j < k
              · rw [if_pos e, if_pos (by omega)]
              · rw [if_neg e, if_neg (by omega)])
            have hB2 : Below w.heap.size w w' := HB.out.grown hg' HB.out.size fun z hz => by have := HNW.out; simp at hz; omega
            have HG2 := Lib.hid hG2
            have HB2 := Lib.hid hB2
            clear hr' hg' hG2 hB2
            go_wp2_with fail
            go_roundw
            case rel => exact ⟨k + 1, by go_num, by omega, HG2.out, HB2.out⟩
            case measure => simp [RowKit.intOf]; omega
          · go_wp2_with (with_reducible refine wpList_copy_grid rfl (.tmp 38) (.tmp 39) 34 34 rfl 3 Try.underlying34 Try.one3 (some ⟨N + 1 + k, sq, none⟩) ar (T - sq) (T - sq) C cr rfl rfl (N + 1 + k) sq T _ 3 (HG.out.rows k hlt2) C Lf (by simp only [Nat.min_def]; split <;> omega) (fun h => ⟨rfl, HSRC2.out h⟩) (by omega) ?_)
            intro w' hr' hg'
            have hG2 : Gr N n0 T (jF l q (k + 1)) w' := Gr.row HG.out hlt2 hg' (hr'.congr fun i hi => spl_jF HLF.out (HRC.out k hlt2) HRL2.out i) (fun j i hj hjk _ => by
              unfold jF
              by_cases e : j < k
              · rw [if_pos e, if_pos (by omega)]
              · rw [if_neg e, if_neg (by omega)])
            have hB2 : Below w.heap.size w w' := HB.out.grown hg' HB.out.size fun z hz => by have := HNW.out; simp at hz; omega
            have HG2 := Lib.hid hG2
            have HB2 := Lib.hid hB2
            clear hr' hg' hG2 hB2
            go_wp2_with fail
            go_roundw
            case rel => exact ⟨k + 1, by go_num, by omega, HG2.out, HB2.out⟩
            case measure => simp [RowKit.intOf]; omega
        · have w5 : ¬ (k : Int) < (n0 : Int) := by omega
          obtain rfl : k = n0 := by omega
          have HG := Lib.hid (hg.congr (G := jF l (q + 1) 0) fun i j hi _ => jF_full j hi)
          have HB := Lib.hid hb
          have hpn : 0 < k := by omega
          have hpnI : (0 : Int) < (k : Int) := by omega
          clear hg hb kc3
          go_wp2_with fail
          go_roundw
          case rel => exact ⟨q + 1, by go_num, by omega, by rw [HSS.out]; go_num, HG.out, HB.out⟩
          case measure => simp [RowKit.intOf]; omega
    · have w4 : ¬ (q : Int) < (l.length : Int) := by omega
      obtain rfl : q = l.length := by omega
      have hmat := hg.mat g2 hTs (fun j i _ _ => by rw [jF_zero]; exact HI.out _ _ _)
      have hfin : MatIn wr (joinR l) (.slice (some ⟨N, 0, none⟩) n0 n0) := by
        have e := HJM.out
        rw [HN0.out, HT.out] at e
        rw [← e]
        have e2 : (fun i j => (rc l i l.length).getD j 0) = jF l l.length 0 := by funext i j; rw [jF_zero]
        rw [e2]; exact hmat
      have HF := Lib.hid hfin
      have HB := Lib.hid hb
      clear hmat hfin hg hb
      go_wp2_with fail
      go_ret
      exact ⟨_, rfl, HF.out, HB.out⟩
end Go.Proofs.Ytegomicpolnpoaa
