/- SampleCuts' law. -/
import Derived.Test.YtegomicpolnpoaaTL
import Derived.Test.YtegomicpolnpoaaTG
import Derived.Test.YtegomicpolnpoaaTC
import Derived.Test.YtegomicpolnpoaaVC
namespace Go.Proofs.Ytegomicpolnpoaa
open Go.RowKit Go.Shelf Go.Deep

/-- A block of new memory that may be written, or nothing. -/
def OwnV (B : Nat) (M : List (List Int)) (pa : Option Addr) (r : Nat) (w : World) : Prop :=
  ∃ c F, M = tabM r c F ∧ r ≤ 8 ∧ c ≤ 4096 ∧ (∀ i j, I64 (F i j)) ∧ (0 < r → ∃ N, B ≤ N ∧ pa = some ⟨N, 0, none⟩ ∧ Gr N r c F w)
def OwnAns (w : World) (M : List (List Int)) (k : Int) (e : Ending) (w' : World) : Prop := ∃ pa r, e = .returned (.tuple #[.slice pa r r, .int .i64 k]) ∧ OwnV w.heap.size M pa r w' ∧ Below w.heap.size w w'
theorem OwnV.mat {B : Nat} {M : List (List Int)} {pa : Option Addr} {r : Nat} {w : World} (h : OwnV B M pa r w) : MatIn w M (.slice pa r r) := by
  obtain ⟨c, F, rfl, h8, hc, hI, hg⟩ := h
  by_cases h0 : 0 < r
  · obtain ⟨N, _, rfl, hg2⟩ := hg h0
    exact hg2.mat h8 hc fun j i _ _ => hI j i
  · obtain rfl : r = 0 := by omega
    exact ⟨pa, 0, by simp [tabM], (fun i hi => by simp [tabM] at hi), by simp [tabM], by simp [tabM]⟩
theorem OwnV.below {B : Nat} {M : List (List Int)} {pa : Option Addr} {r : Nat} {w w' : World} (h : OwnV B M pa r w) (hb : Below w.heap.size w w') : OwnV B M pa r w' := by
  obtain ⟨c, F, h1, h8, hc, hI, hg⟩ := h
  exact ⟨c, F, h1, h8, hc, hI, fun h0 => by obtain ⟨N, q1, q2, q3⟩ := hg h0; exact ⟨N, q1, q2, q3.below hb⟩⟩

theorem cellM_I64 {w : World} {m : List (List Int)} {v : Value} (h : MatIn w m v) (i j : Nat) : I64 (cellM m i j) := by
  unfold cellM
  obtain ⟨a, ca, rfl, hin, _, _⟩ := h
  by_cases hi : i < m.length
  · obtain ⟨_, _, u, _, _, a3, c3, _, hx, _, _⟩ := hin i hi
    by_cases hj : j < (m.getD i []).length
    · obtain ⟨_, _, _, _, hI⟩ := hx j hj; exact hI
    · rw [getD_out (by omega)]; simp [I64]
  · have : m.getD i [] = [] := by simp [List.getD, List.getElem?_eq_none (show m.length ≤ i by omega)]
    rw [this]; simp [I64]
theorem tab_part {m : List (List Int)} {f t : Nat} (hv : validB m = true) (hft : f ≤ t) (ht : t ≤ cols m) : tabM m.length (t - f) (fun i j => cellM m i (f + j)) = partM m f t := by
  obtain ⟨_, _, _, hr⟩ := validB_parts hv
  apply mat_eq_of (by rw [tabM_len, partM_len])
  intro i hi
  rw [tabM_len] at hi
  rw [tabM_row _ hi, partM_at hi]
  have := hr i hi
  unfold cellM
  generalize m.getD i [] = z at *
  apply list_eq_of (by simp; omega)
  intro j hj
  simp at hj
  simp [List.getD, hj, List.getElem?_take]

/-- Both sides' Cut. -/
theorem cut_both (m : List (List Int)) (v : Value) (w : World) (hM : MatIn w m v) (f t : Int) : ∃ M k, (∀ x, Below w.heap.size w x → Calls Try.prog 43 #[v, .int .i64 f, .int .i64 t] x (OwnAns x M k)) ∧ ∀ x, Below w.heap.size w x → Calls Try.prog 44 #[v, .int .i64 f, .int .i64 t] x (NewAns x M k) := by
  have hno : ∀ k : Int, ((validB m = false ∧ k = 1) ∨ (validB m = true ∧ ¬ (0 ≤ f ∧ f ≤ t ∧ t ≤ cols m) ∧ k = 7)) → ∀ x, Below w.heap.size w x → Calls Try.prog 43 #[v, .int .i64 f, .int .i64 t] x (OwnAns x [] k) := fun k h x hx =>
    (cut_no m v x (hM.mono (Same.of_below hx)) f t k h).mono fun e w' ⟨h1, h2⟩ => ⟨none, 0, h1, ⟨0, fun _ _ => 0, by simp [tabM], by omega, by omega, fun _ _ => by simp [I64], fun h => absurd h (Nat.lt_irrefl _)⟩, h2⟩
  cases hv : validB m with
  | false => exact ⟨[], 1, hno 1 (.inl ⟨hv, rfl⟩), fun x hx => refCut_inv m v x (hM.mono (Same.of_below hx)) hv f t⟩
  | true =>
    by_cases h : 0 ≤ f ∧ f ≤ t ∧ t ≤ cols m
    · obtain ⟨h1, h2, h3⟩ := h
      obtain ⟨f, rfl⟩ : ∃ n : Nat, f = n := ⟨f.toNat, by omega⟩
      obtain ⟨t, rfl⟩ : ∃ n : Nat, t = n := ⟨t.toNat, by omega⟩
      obtain ⟨_, g2, g3, _⟩ := validB_parts hv
      refine ⟨partM m f t, 0, fun x hx => ?_, fun x hx => refCut_yes m v x (hM.mono (Same.of_below hx)) hv f t (by omega) (by omega)⟩
      refine (cut_yes m v x (hM.mono (Same.of_below hx)) hv f t (by omega) (by omega)).mono fun e w' ⟨u, e1, ⟨N, n1, n2, n3⟩, hb⟩ => ?_
      subst n2
      exact ⟨_, _, e1, ⟨t - f, _, (tab_part hv (by omega) (by omega)).symm, g2, by omega, fun i j => cellM_I64 hM i _, fun _ => ⟨N, n1, rfl, n3⟩⟩, hb⟩
    · exact ⟨[], 7, hno 7 (.inr ⟨hv, h, rfl⟩), fun x hx => refCut_bad m v x (hM.mono (Same.of_below hx)) hv f t h⟩

/-- What holds while the numbers of what was cut are written over. -/
def WpK (w w1 w2 : World) (N r c : Nat) (x : World) : Prop := Below w.heap.size w x ∧ (∀ k, w1.heap.size ≤ k → k < w2.heap.size → x.heap[k]? = w2.heap[k]?) ∧ (0 < r → ∃ G, Gr N r c G x)
theorem WpK.set {w w1 w2 x : World} {N r c : Nat} (h : WpK w w1 w2 N r c x) (h1 : w.heap.size ≤ N) (h2 : N + r < w1.heap.size) {i : Nat} (hi : i < r) (j : Nat) (n : Int) : WpK w w1 w2 N r c (x.setCell ⟨N + 1 + i, j, none⟩ (.int .i64 n)) := by
  obtain ⟨a, b, g⟩ := h
  refine ⟨a.setCell (by show w.heap.size ≤ N + 1 + i; omega) _, fun k hk hk2 => ?_, fun h0 => ?_⟩
  · rw [blk_setCell_other _ _ _ _ (by show k ≠ N + 1 + i; omega)]
    exact b k hk hk2
  · obtain ⟨G, hG⟩ := g h0
    exact ⟨_, hG.set hi j n⟩

set_option maxHeartbeats 8000000 in
set_option maxRecDepth 100000 in
theorem cutsLaw_of (b : List (List Int)) (l : List (List (List Int))) (vb vl : Value) (f t : Int) (w : World) (hB : MatIn w b vb) (hL : BlksIn w l vl) (M J : List (List Int)) (k kk : Int)
    (hc : ∀ x, Below w.heap.size w x → Calls Try.prog 43 #[vb, .int .i64 f, .int .i64 t] x (OwnAns x M k)) (hr : ∀ x, Below w.heap.size w x → Calls Try.prog 44 #[vb, .int .i64 f, .int .i64 t] x (NewAns x M k))
    (hj : ∀ x, Below w.heap.size w x → Calls Try.prog 45 #[vl] x (MatAns x J kk)) (hjr : ∀ x, Below w.heap.size w x → Calls Try.prog 46 #[vl] x (NewAns x J kk)) :
    Calls Try.prog 8 #[vb, .int .i64 f, .int .i64 t, vl] w fun e w' => e = .returned (.bool true) ∧ Below w.heap.size w w' := by
  have h19 := light_any b vb w hB
  have h35 := lights_any l vl w hL
  have HB := Lib.hid (fun (x : World) (hx : Below w.heap.size w x) => hB.mono (Same.of_below hx))
  have HL := Lib.hid (fun (x : World) (hx : Below w.heap.size w x) => hL.mono (Same.of_below hx))
  have HC := Lib.hid hc
  have HR := Lib.hid hr
  have HJ := Lib.hid hj
  have HJR := Lib.hid hjr
  obtain ⟨ab, cb, rfl, _, _, _⟩ := hB
  obtain ⟨al, cl, rfl, _, hll, _⟩ := hL
  clear hc hr hj hjr
  have hb00 := Below.refl w.heap.size w
  go_enter Try.func8, Try.ntmps8
  go_wp2_with (first
    | (go_at_call 19; (with_reducible refine h19.mono ?_); rintro e w1 ⟨sb, rfl, rfl⟩; cases sb)
    | (go_at_call 35; (with_reducible refine h35.mono ?_); rintro e w1 ⟨sb, rfl, rfl⟩; cases sb)
    | (go_at_call 18; (with_reducible refine (awake_any _).mono ?_); rintro e wa ⟨rfl, ba⟩)
    | (go_at_call 43; (with_reducible refine (HC.out _ hb00).mono ?_); rintro e w1 ⟨pa, r, rfl, ho1, hb1⟩; have HO1 := Lib.hid ho1; have HB1 := Lib.hid hb1; clear ho1 hb1)
    | (go_at_call 44; (with_reducible refine (HR.out _ HB1.out).mono ?_); rintro e w2 ⟨d, rfl, hd2, hb2⟩; have HD2 := Lib.hid hd2; have HO2 := Lib.hid (HO1.out.below hb2); have HB2 := Lib.hid (Below.then HB1.out (Nat.le_refl _) hb2); have HZ2 := Lib.hid hb2; clear hd2 hb2)
    | (go_at_call 45; (with_reducible refine (HJ.out _ HB2.out).mono ?_); rintro e w3 ⟨j, rfl, hj3, hb3⟩; have HJ3 := Lib.hid hj3; have HO3 := Lib.hid (HO2.out.below hb3); have HB3 := Lib.hid (Below.then HB2.out (Nat.le_refl _) hb3); have HZ3 := Lib.hid hb3; clear hj3 hb3)
    | (go_at_call 46; (with_reducible refine (HJR.out _ HB3.out).mono ?_); rintro e w4 ⟨j2, rfl, hj4, hb4⟩; have HJ4 := Lib.hid hj4; have HO4 := Lib.hid (HO3.out.below hb4); have HB4 := Lib.hid (Below.then HB3.out (Nat.le_refl _) hb4); have HZ4 := Lib.hid hb4; clear hj4 hb4))
  · go_ret
    exact ⟨rfl, ba⟩
  · go_ret
    exact ⟨rfl, ba⟩
  have hz24 : Below w2.heap.size w2 w4 := Below.then HZ3.out (Nat.le_refl _) HZ4.out
  have HD : Hid (∀ x, Below w4.heap.size w4 x → MatIn x M d) := Lib.hid fun x hx => HD2.out.here.mono (Same.of_below (Below.then hz24 (Nat.le_refl _) hx))
  have HCD : Hid (∀ x, Below w4.heap.size w4 x → Calls Try.prog 32 #[.slice pa r r, d] x fun e w' => e = .returned (.bool true) ∧ Below x.heap.size x w') := Lib.hid fun x hx => by
    simpa using sameBlock_any M M _ _ x ((HO4.out.below hx).mat) (HD.out x hx)
  have HJJ : Hid (∀ x, Below w4.heap.size w4 x → Calls Try.prog 32 #[j, j2] x fun e w' => e = .returned (.bool true) ∧ Below x.heap.size x w') := Lib.hid fun x hx => by
    simpa using sameBlock_any J J _ _ x (HJ3.out.mono (Same.of_below (Below.then HZ4.out (Nat.le_refl _) hx))) (HJ4.out.here.mono (Same.of_below hx))
  clear h19 h35 hz24
  refine (HCD.out _ (Below.refl _ _)).mono ?_
  rintro e w5 ⟨rfl, hb5⟩
  have HB5 := Lib.hid hb5
  clear hb5
  go_wp2_with (go_at_call 32; (with_reducible refine (HJJ.out _ HB5.out).mono ?_); rintro e w6 ⟨rfl, hb6⟩; have HB6 := Lib.hid (Below.then HB5.out (Nat.le_refl _) hb6); clear hb6)
  go_loopw [17] (fun i wr => ∃ q : Nat, i = .int .i64 q ∧ q ≤ l.length ∧ Below w4.heap.size w4 wr) (fun i _ => l.length - (intOf i).toNat)
  case atStart => exact ⟨0, rfl, Nat.zero_le _, HB6.out⟩
  case round =>
    clear HB6 HB5
    obtain ⟨q, rfl, hq, hb⟩ := hrel
    have HBw := Lib.hid (Below.then HB4.out (Nat.le_refl _) hb)
    by_cases hlt : q < l.length
    · have w4' : (q : Int) < (l.length : Int) := by omega
      obtain ⟨bb, ob, u, rfl, hcj, hu⟩ := blks_at (HL.out _ HBw.out) hlt
      obtain ⟨sb, hsb⟩ : ∃ sb, decide (b = l.getD q []) = sb := ⟨_, rfl⟩
      have HS1 : Hid (∀ x, Below wr.heap.size wr x → Calls Try.prog 47 #[.slice ab b.length cb, u] x fun e w' => e = .returned (.bool sb) ∧ Below wr.heap.size wr w') := Lib.hid fun x hx =>
        (same_any b (l.getD q []) _ u x ((HB.out _ HBw.out).mono (Same.of_below hx)) (hu.mono (Same.of_below hx))).mono fun e w' ⟨z1, z2⟩ => ⟨by rw [← hsb]; exact z1, Below.then hx (Nat.le_refl _) z2⟩
      have HS2 : Hid (∀ x, Below wr.heap.size wr x → Calls Try.prog 32 #[.slice ab b.length cb, u] x fun e w' => e = .returned (.bool sb) ∧ Below wr.heap.size wr w') := Lib.hid fun x hx =>
        (sameBlock_any b (l.getD q []) _ u x ((HB.out _ HBw.out).mono (Same.of_below hx)) (hu.mono (Same.of_below hx))).mono fun e w' ⟨z1, z2⟩ => ⟨by rw [← hsb]; exact z1, Below.then hx (Nat.le_refl _) z2⟩
      have HK : Hid (∀ wx : World, Below wr.heap.size wr wx → wx.cell? ⟨bb, ob + q, none⟩ = some u ∧ Below wr.heap.size wr wx) := Lib.hid fun wx hx => ⟨(Same.of_below hx).cell hcj, hx⟩
      have HBr := Lib.hid hb
      obtain ⟨au, nu, cu, rfl⟩ : ∃ a n c, u = .slice a n c := by obtain ⟨a, c, e, _⟩ := hu; exact ⟨_, _, _, e⟩
      clear hb hcj hu hsb
      have esb : (sb != sb) = false := by cases sb <;> rfl
      go_upto_region 12 with fail
      go_region_held3 (fun wx => wx.cell? ⟨bb, ob + q, none⟩ = some (.slice au nu cu) ∧ Below wr.heap.size wr wx)
        (first
          | with_reducible exact HK.out _ (Below.refl _ _).drew
          | (go_split_ands; with_reducible exact HK.out _ (by assumption))
          | with_reducible exact HK.out _ hk)
        (first
          | (go_at_call 47; (with_reducible refine (HS1.out _ (by go_split_ands; assumption)).mono ?_); rintro e wk ⟨rfl, hk⟩)
          | (go_at_call 32; (with_reducible refine (HS2.out _ (by go_split_ands; assumption)).mono ?_); rintro e wk ⟨rfl, hk⟩))
      all_goals
        go_split_ands
        go_wp2_with fail
        go_roundw
        case rel => exact ⟨q + 1, by go_num, by omega, Below.then HBr.out (Nat.le_refl _) (by assumption)⟩
        case measure => simp [intOf]; omega
    · have w4' : ¬ (q : Int) < (l.length : Int) := by omega
      have hw1 : ∃ N c, (0 < r → w.heap.size ≤ N ∧ N + r < w1.heap.size ∧ pa = some ⟨N, 0, none⟩ ∧ c ≤ 4096) ∧ WpK w w1 w2 N r c wr := by
        have hD : ∀ k, w1.heap.size ≤ k → k < w2.heap.size → wr.heap[k]? = w2.heap[k]? := fun k _ hk2 => (Below.then (Below.then HZ3.out (Nat.le_refl _) HZ4.out) (Nat.le_refl _) hb).block k hk2
        obtain ⟨c1, F1, _, _, q3, _, q5⟩ := HO1.out
        obtain ⟨c4, F4, _, _, p3, _, p5⟩ := HO4.out
        by_cases h0 : 0 < r
        · obtain ⟨N1, n1, n2, n3⟩ := q5 h0
          obtain ⟨N4, m1, m2, m3⟩ := p5 h0
          rw [n2] at m2
          simp only [Option.some.injEq, Addr.mk.injEq, and_true] at m2
          subst m2
          have hlt1 := (n3.rows (r - 1) (by omega)).lt
          exact ⟨N1, c4, fun _ => ⟨n1, by omega, n2, p3⟩, HBw.out, hD, fun _ => ⟨_, m3.below hb⟩⟩
        · exact ⟨0, 0, fun h => absurd h h0, HBw.out, hD, fun h => absurd h h0⟩
      have hr8 : r ≤ 8 := by obtain ⟨_, _, _, z, _⟩ := HO1.out; exact z
      obtain ⟨N, c, hN, hW⟩ := hw1
      have HN := Lib.hid hN
      have HW := Lib.hid hW
      clear hN hW hb
      go_wp2_with fail
      obtain ⟨wo, hwo⟩ : ∃ wo : World, wo = wr := ⟨_, rfl⟩
      subst hwo
      go_loopw [18] (fun i wr => ∃ i0 : Nat, i = .int .i64 i0 ∧ i0 ≤ r ∧ WpK w w1 w2 N r c wr) (fun i _ => r - (intOf i).toNat)
      case atStart => exact ⟨0, rfl, Nat.zero_le _, HW.out⟩
      case round =>
        clear HW HBw
        obtain ⟨i0, rfl, hi0, hW⟩ := hrel
        by_cases hlt2 : i0 < r
        · obtain ⟨n1, n2, rfl, n4⟩ := HN.out (by omega)
          have w5 : (i0 : Int) < (r : Int) := by omega
          have HW := Lib.hid hW
          clear hW
          go_wp2_with fail
          obtain ⟨wo2, hwo2⟩ : ∃ wo : World, wo = wr := ⟨_, rfl⟩
          subst hwo2
          go_loopw [19] (fun i wr => ∃ j0 : Nat, i = .int .i64 j0 ∧ j0 ≤ c ∧ WpK w w1 w2 N r c wr) (fun i _ => c - (intOf i).toNat)
          case atStart => exact ⟨0, rfl, Nat.zero_le _, HW.out⟩
          case round =>
            clear HW
            obtain ⟨j0, rfl, hj0, hW⟩ := hrel
            obtain ⟨G, hG⟩ := hW.2.2 (by omega)
            have hct := hG.top.cell hlt2
            rw [show topZ N c r i0 = .slice (some ⟨N + 1 + i0, 0, none⟩) c c by simp [topZ, hlt2]] at hct
            by_cases hlt3 : j0 < c
            · have w6 : (j0 : Int) < (c : Int) := by omega
              have hcell := (hG.rows i0 hlt2).cell hlt3
              have hfr := (hG.rows i0 hlt2).frozen j0
              have HW2 := Lib.hid (hW.set n1 n2 hlt2 j0 (-1))
              clear hW hG
              go_wp2_with fail
              go_roundw
              case rel => exact ⟨j0 + 1, by go_num, by omega, HW2.out⟩
              case measure => simp [intOf]; omega
            · have w6 : ¬ (j0 : Int) < (c : Int) := by omega
              have HW := Lib.hid hW
              clear hW hG
              go_wp2_with fail
              go_roundw
              case rel => exact ⟨i0 + 1, by go_num, by omega, HW.out⟩
              case measure => simp [intOf]; omega
        · have w5 : ¬ (i0 : Int) < (r : Int) := by omega
          obtain ⟨hbw, hdd, _⟩ := hW
          have HBW := Lib.hid hbw
          have HDD := Lib.hid (HD2.out _ hdd)
          clear hbw hdd
          go_wp2_with (go_at_call 44; (with_reducible refine (HR.out _ HBW.out).mono ?_); rintro e w8 ⟨xv, rfl, hx8, hb8⟩; have HX8 := Lib.hid hx8; have HB8 := Lib.hid hb8; clear hx8 hb8)
          have HB9 := Lib.hid (Below.then HBW.out (Nat.le_refl _) HB8.out)
          have hxd : ∀ x, Below w8.heap.size w8 x → Calls Try.prog 32 #[xv, d] x fun e w' => e = .returned (.bool true) ∧ Below x.heap.size x w' := fun x hx => by
            simpa using sameBlock_any M M _ _ x (HX8.out.here.mono (Same.of_below hx)) (HDD.out.mono (Same.of_below (Below.then HB8.out (Nat.le_refl _) hx)))
          have hbb : ∀ x, Below w8.heap.size w8 x → Calls Try.prog 47 #[.slice ab b.length cb, .slice ab b.length cb] x fun e w' => e = .returned (.bool true) ∧ Below x.heap.size x w' := fun x hx => by
            simpa using same_any b b _ _ x (HB.out _ (Below.then HB9.out (Nat.le_refl _) hx)) (HB.out _ (Below.then HB9.out (Nat.le_refl _) hx))
          have HBB := Lib.hid hbb
          refine (hxd _ (Below.refl _ _)).mono ?_
          rintro e w9 ⟨rfl, hb9⟩
          have HZ9 := Lib.hid hb9
          clear hb9 hxd hbb
          go_wp2_with (first
            | (go_at_call 47; (with_reducible refine (HBB.out _ HZ9.out).mono ?_); rintro e w10 ⟨rfl, hb10⟩; have HZ10 := Lib.hid (Below.then HZ9.out (Nat.le_refl _) hb10); clear hb10)
            | (go_at_call 18; (with_reducible refine (awake_any _).mono ?_); rintro e w11 ⟨rfl, hb11⟩; have HZ11 := Lib.hid (Below.then HZ10.out (Nat.le_refl _) hb11); clear hb11))
          go_ret
          exact ⟨rfl, Below.then HB9.out (Nat.le_refl _) HZ11.out⟩
theorem cutsLaw_any (b : List (List Int)) (l : List (List (List Int))) (vb vl : Value) (f t : Int) (w : World) (hB : MatIn w b vb) (hL : BlksIn w l vl) :
    Calls Try.prog 8 #[vb, .int .i64 f, .int .i64 t, vl] w fun e w' => e = .returned (.bool true) ∧ Below w.heap.size w w' := by
  obtain ⟨M, k, h1, h2⟩ := cut_both b vb w hB f t
  exact cutsLaw_of b l vb vl f t w hB hL M (joinR l) k (joinK l) h1 h2 (fun x hx => join_any l vl x (hL.mono (Same.of_below hx))) (fun x hx => refJoin_any l vl x (hL.mono (Same.of_below hx)))
end Go.Proofs.Ytegomicpolnpoaa
