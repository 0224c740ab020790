/- Mixing: sums, blocks that are alike, lights. -/
import Derived.Test.YthfagnbecocgdaaRH
import Derived.Test.YthfagnbecocgdaaJA
namespace Go.Proofs.Ythfagnbecocgdaa
open Go.RowKit Go.Shelf Go.Deep

theorem blks_at {w : World} {l : List (List (List Int))} {a : Option Addr} {cap : Nat} (hb : BlksIn w l (.slice a l.length cap)) {i : Nat} (hi : i < l.length) : ∃ b off u, a = some ⟨b, off, none⟩ ∧ w.cell? ⟨b, off + i, none⟩ = some u ∧ MatIn w (l.getD i []) u := by
  obtain ⟨a', cap', e, h2, _, _⟩ := hb
  simp only [Value.slice.injEq] at e
  obtain ⟨rfl, _, rfl⟩ := e
  exact h2 i hi

/-- Some Bool comes back; if it is true, there are so many. -/
def SomeF (n : Nat) (w : World) (e : Ending) (w2 : World) : Prop := ∃ sb : Bool, e = .returned (.bool sb) ∧ w = w2 ∧ (sb = true → n ≤ 30)
set_option maxHeartbeats 1000000 in
set_option maxRecDepth 100000 in
theorem lights_any (l : List (List (List Int))) (v : Value) (w : World) (hL : BlksIn w l v) : Calls Try.prog 39 #[v] w (SomeF l.length w) := by
  obtain ⟨a, ca, rfl, _, hal, _⟩ := id hL
  have HX := Lib.hid hL
  clear hL
  go_enter Try.func39, Try.ntmps39
  go_wp2_with fail
  go_loop [3, 4] (fun n i => ∃ (k : Nat) (x : Int), i = .int .i64 k ∧ k ≤ l.length ∧ n = .int .i64 x) (fun _ i => l.length - (intOf i).toNat)
  case atStart => exact ⟨0, 0, rfl, Nat.zero_le _, rfl⟩
  case round =>
    obtain ⟨k, x, rfl, hk, rfl⟩ := hrel
    by_cases hlt : k < l.length ∧ k < 30
    · obtain ⟨hl1, hl2⟩ := hlt
      have w4 : (k : Int) < (l.length : Int) := by omega
      have q1 : decide (k < l.length) = true := by simp only [decide_eq_true_eq]; omega
      have q2 : decide ((k : Int) < 30) = true := by simp only [decide_eq_true_eq]; omega
      obtain ⟨bb, ob, u, rfl, hcj, hu⟩ := blks_at HX.out hl1
      have h19 := light_any _ u w hu
      have HU := Lib.hid hu
      obtain ⟨au, cu, rfl, _, hbl, _⟩ := hu
      generalize l.getD k [] = p at *
      go_wp2_with (go_at_call 24; (with_reducible refine h19.mono ?_); rintro e w1 ⟨sb, rfl, rfl⟩; cases sb)
      · go_ret
        exact ⟨_, rfl, rfl, fun h => by cases h⟩
      · go_loop [3, 5] (fun n i => ∃ (j : Nat) (y : Int), i = .int .i64 j ∧ j ≤ p.length ∧ n = .int .i64 y) (fun _ i => p.length - (intOf i).toNat)
        case atStart => exact ⟨0, x, rfl, Nat.zero_le _, rfl⟩
        case round =>
          obtain ⟨j, y, rfl, hj, rfl⟩ := hrel
          by_cases hlt2 : j < p.length
          · have w5 : (j : Int) < (p.length : Int) := by omega
            obtain ⟨_, _, e2, hin2, _, _⟩ := HU.out
            simp only [Value.slice.injEq, true_and] at e2
            obtain ⟨rfl, rfl⟩ := e2
            obtain ⟨b2, o2, u2, rfl, hc2, hu2⟩ := hin2 j hlt2
            obtain ⟨a3, c3, rfl, _, _, _⟩ := hu2
            generalize (p.getD j []).length = n3 at *
            clear hin2
            go_wp2_with fail
            go_round
            case rel => exact ⟨j + 1, _, by go_num, by omega, rfl⟩
            case measure => simp [intOf]; omega
          · have w5 : ¬ (j : Int) < (p.length : Int) := by omega
            go_wp2_with fail
            go_round
            case rel => exact ⟨k + 1, y, by go_num, by omega, rfl⟩
            case measure => simp [intOf]; omega
    · have hq : (decide (k < l.length) = true ∧ decide ((k : Int) < 30) = false) ∨ decide (k < l.length) = false := by
        by_cases h : k < l.length
        · exact .inl ⟨by simp only [decide_eq_true_eq]; exact h, by simp only [decide_eq_false_iff_not]; omega⟩
        · exact .inr (by simp only [decide_eq_false_iff_not]; exact h)
      by_cases h30 : (l.length : Int) ≤ 30
      all_goals
        rcases hq with ⟨q1, q2⟩ | q1
        all_goals
          go_wp2_with fail
          go_ret
          first
          | exact ⟨_, rfl, rfl, fun _ => by omega⟩
          | exact ⟨_, rfl, rfl, fun h => by simp at h; omega⟩
          | exact ⟨_, rfl, rfl, fun h => by cases h⟩

/-- The sum of the first k. -/
def sumL (l : List Int) : Nat → Int
  | 0 => 0
  | k + 1 => sumL l k + l.getD k 0
theorem sumL_bd {l : List Int} {B : Int} (hB : 0 ≤ B) (h : ∀ k, -B ≤ l.getD k 0 ∧ l.getD k 0 ≤ B) : ∀ k : Nat, -(B * k) ≤ sumL l k ∧ sumL l k ≤ B * k
  | 0 => by simp [sumL]
  | k + 1 => by
    have h1 := sumL_bd hB h k
    have h2 := h k
    have e : B * ((k + 1 : Nat) : Int) = B * (k : Int) + B := by rw [Int.natCast_add, Int.mul_add]; simp
    rw [e]
    simp only [sumL]
    omega
set_option maxRecDepth 100000 in
theorem sum_any (l : List Int) (v : Value) (w : World) (hv : RowIn w l v) (hl : l.length ≤ 40) (hb : ∀ k, -8388607 ≤ l.getD k 0 ∧ l.getD k 0 ≤ 8388607) : Calls Try.prog 99 #[v] w fun e w' => e = .returned (.int .i64 (sumL l l.length)) ∧ w = w' := by
  obtain ⟨a, ca, rfl, hin, hal, _⟩ := hv
  have HBD := Lib.hid (sumL_bd (by decide) hb)
  have HB := Lib.hid hb
  have HST : Hid (∀ k, sumL l (k + 1) = sumL l k + l.getD k 0) := Lib.hid fun _ => rfl
  have H0 : Hid (sumL l 0 = 0) := Lib.hid rfl
  clear hb
  generalize sumL l = S at *
  go_enter Try.func99, Try.ntmps99
  go_wp2_with fail
  go_loop [3, 8] (fun n i => ∃ j : Nat, i = .int .i64 j ∧ j ≤ l.length ∧ n = .int .i64 (S j)) (fun _ i => l.length - (intOf i).toNat)
  case atStart => exact ⟨0, rfl, Nat.zero_le _, by rw [H0.out]⟩
  case round =>
    obtain ⟨j, rfl, hj, rfl⟩ := hrel
    by_cases hlt : j < l.length
    · have w4 : (j : Int) < (l.length : Int) := by omega
      obtain ⟨ba, off, rfl, hc, _⟩ := hin j hlt
      have h1 := HBD.out j
      have h2 := HB.out j
      have hs := HST.out j
      obtain ⟨x, hx⟩ : ∃ x, S j = x := ⟨_, rfl⟩
      obtain ⟨y, hy⟩ : ∃ y, l.getD j 0 = y := ⟨_, rfl⟩
      rw [hx] at h1 hs
      rw [hy] at hc h2 hs
      rw [hx]
      have b1 : -335544280 ≤ x := by omega
      have b2 : x ≤ 335544280 := by omega
      obtain ⟨b3, b4⟩ := h2
      have HS := Lib.hid hs
      clear hs hx hy h1
      go_wp2_with fail
      go_round
      case rel => exact ⟨j + 1, by go_num, by omega, by rw [HS.out]⟩
      case measure => simp [intOf]; omega
    · have w4 : ¬ (j : Int) < (l.length : Int) := by omega
      obtain rfl : j = l.length := by omega
      go_wp2_with fail
      go_ret
      exact ⟨rfl, rfl⟩
set_option maxRecDepth 100000 in
theorem mix11_any (l : List Int) (v : Value) (w : World) (hv : RowIn w l v) (hl : l.length ≤ 40) (hb : ∀ k, -8388607 ≤ l.getD k 0 ∧ l.getD k 0 ≤ 8388607) : Calls Try.prog 98 #[v] w fun e w' => e = .returned (.int .i64 (bnd (sumL l l.length) 8388607)) ∧ w = w' := by
  have h1 := sum_any l v w hv hl hb
  have h2 := bounded_any (sumL l l.length) 8388607 w (by decide) (by decide)
  obtain ⟨a, ca, rfl, _, _, _⟩ := hv
  clear hb
  go_enter Try.func98, Try.ntmps98
  go_wp2_with (first | (go_at_call 99; (with_reducible refine h1.mono ?_); rintro e w1 ⟨rfl, rfl⟩) | (go_at_call 89; (with_reducible refine h2.mono ?_); rintro e w1 ⟨rfl, rfl⟩))
  go_ret
  exact ⟨rfl, rfl⟩

/-- A fact in a box of its own. -/
structure Kept (p : Prop) : Prop where
  out : p
section
variable {P : Program} {ops : Array Oper} {w : World} {Q : Act → Prop} {a : Act} {o : Oper} {rest : List Oper}
/-- The steps of a quiet region, hidden: where a guard is false, all that follows could be reckoned at once, and would be. -/
theorem stillH_step (h : ∀ K : Act → Prop, (∀ a, Kept (wpStill P ops w Q rest a) → K a) → if Region.wanted o (yielded ops a.tmps) then o.still P a w K else K (a.put o.dst undef)) : Kept (wpStill P ops w Q (o :: rest) a) :=
  Kept.mk (wpStill_step fun K hK => h K fun a h => hK a h.out)
theorem stillH_skip (hw : Region.wanted o (yielded ops a.tmps) = false) (h : Kept (wpStill P ops w Q rest (a.put o.dst undef))) : Kept (wpStill P ops w Q (o :: rest) a) :=
  Kept.mk (wpStill_step fun K hK => by rw [if_neg (by rw [hw]; exact Bool.false_ne_true)]; exact hK _ h.out)
theorem stillH_nil (h : Q a) : Kept (wpStill P ops w Q [] a) := Kept.mk (wpStill_nil h)
end

/-- Blocks that are as large as the first one. -/
def likeB (l : List (List (List Int))) (b : List (List Int)) : Bool := decide (b.length = (l.getD 0 []).length) && decide (cols b = cols (l.getD 0 []))
def alike (l : List (List (List Int))) : Bool := l.all (likeB l)
set_option maxHeartbeats 4000000 in
set_option maxRecDepth 100000 in
theorem alike_any (l : List (List (List Int))) (v : Value) (w : World) (hv : BlksIn w l v) (hV : allV l = true) : Calls Try.prog 96 #[v] w fun e w' => ((alike l = true ∧ e = .returned (.tuple #[])) ∨ (alike l = false ∧ e = .panicked (misfit 11))) ∧ Below w.heap.size w w' := by
  obtain ⟨a, ca, rfl, hin0, hal, _⟩ := hv
  have HIN := Lib.hid (fun (x : World) (hx : Below w.heap.size w x) (i : Nat) (hi : i < l.length) => show ∃ b off u, a = some ⟨b, off, none⟩ ∧ x.cell? ⟨b, off + i, none⟩ = some u ∧ MatIn x (l.getD i []) u from by
    obtain ⟨b, off, u, h1, h2, h3⟩ := hin0 i hi
    exact ⟨b, off, u, h1, (Same.of_below hx).cell h2, h3.mono (Same.of_below hx)⟩)
  have HV : Hid (∀ i, i < l.length → validB (l.getD i []) = true) := Lib.hid fun i hi => all_at' (d := []) hV hi
  have HY := Lib.hid (must_yes 11)
  have HN := Lib.hid (must_no 11)
  clear hin0 hV
  go_enter Try.func96, Try.ntmps96
  go_wp2_with fail
  go_loopw [6] (fun i wr => ∃ j : Nat, i = .int .i64 j ∧ j ≤ l.length ∧ (∀ k, k < j → likeB l (l.getD k []) = true) ∧ Below w.heap.size w wr) (fun i _ => l.length - (intOf i).toNat)
  case atStart => exact ⟨0, rfl, Nat.zero_le _, fun k hk => absurd hk (Nat.not_lt_zero _), Below.refl _ _⟩
  case round =>
    obtain ⟨j, rfl, hj, hok, hbl⟩ := hrel
    have HOK := Lib.hid hok
    clear hok
    by_cases hlt : j < l.length
    · have w4 : (j : Int) < (l.length : Int) := by omega
      have w5 : (0 : Int) < (l.length : Int) := by omega
      have w6 : 0 < l.length := by omega
      obtain ⟨bb, ob, u, rfl, hcj, hu⟩ := HIN.out wr hbl j hlt
      obtain ⟨_, _, u0, e0, hc0, hu0⟩ := HIN.out wr hbl 0 (by omega)
      simp only [Option.some.injEq, Addr.mk.injEq, and_true] at e0
      obtain ⟨rfl, rfl⟩ := e0
      obtain ⟨p1, _, _, _⟩ := validB_parts (HV.out j hlt)
      obtain ⟨p0, _, _, _⟩ := validB_parts (HV.out 0 (by omega))
      have hlk : likeB l (l.getD j []) = (decide ((l.getD j []).length = (l.getD 0 []).length) && decide (cols (l.getD j []) = cols (l.getD 0 []))) := rfl
      obtain ⟨q, hq⟩ : ∃ q, l.getD j [] = q := ⟨_, rfl⟩
      obtain ⟨q0, hq0⟩ : ∃ q0, l.getD 0 [] = q0 := ⟨_, rfl⟩
      have HQ := Lib.hid hq
      rw [hq] at hu p1 hlk
      rw [hq0] at hu0 p0 hlk
      obtain ⟨au, cu, rfl, hinu, _, _⟩ := hu
      obtain ⟨a0, c0, rfl, hin0, _, _⟩ := hu0
      obtain ⟨b1, o1, u1, rfl, hc1, hu1⟩ := hinu 0 (by omega)
      obtain ⟨b2, o2, u2, rfl, hc2, hu2⟩ := hin0 0 (by omega)
      obtain ⟨a3, c3, rfl, _, _, _⟩ := hu1
      obtain ⟨a4, c4, rfl, _, _, _⟩ := hu2
      change wr.cell? _ = some (.slice a3 (cols q) c3) at hc1
      change wr.cell? _ = some (.slice a4 (cols q0) c4) at hc2
      simp only [Nat.add_zero] at hc0 hc1 hc2
      have i1 : (0 : Int) < (q.length : Int) := by omega
      have i0 : (0 : Int) < (q0.length : Int) := by omega
      have i1N : 0 < q.length := by omega
      have i0N : 0 < q0.length := by omega
      generalize cols q = C1 at *
      generalize cols q0 = C0 at *
      have HB := Lib.hid hbl
      clear hq hq0 hinu hin0 hbl
      by_cases e1 : q.length = q0.length
      · have t1 : ((q.length : Int) == (q0.length : Int)) = true := by simp; omega
        by_cases e2 : C1 = C0
        · have t2 : ((C1 : Int) == (C0 : Int)) = true := by simp; omega
          have hl2 : likeB l q = true := by rw [hlk]; simp [e1, e2]
          have HL := Lib.hid hl2
          clear e1 e2 hl2 hlk
          go_upto_region 3 with fail
          go_still_tail 20, (by kernel_rfl)
          change wpList _ _ _ _ _ wr.drew
          go_wp2_with (go_at_call 50; (with_reducible refine (HY.out _).mono ?_); rintro e w1 ⟨rfl, rfl⟩)
          go_roundw
          case rel =>
            refine ⟨j + 1, by go_num, by omega, fun k hk => ?_, HB.out.drew⟩
            by_cases e : k = j
            · subst e; rw [HQ.out]; exact HL.out
            · exact HOK.out k (by omega)
          case measure => simp [intOf]; omega
        · have t2 : ((C1 : Int) == (C0 : Int)) = false := by simp; omega
          have hl2 : likeB l q = false := by rw [hlk]; simp [e2]
          have HL := Lib.hid hl2
          clear e1 e2 hl2 hlk
          go_upto_region 3 with fail
          go_still_tail 20, (by kernel_rfl)
          change wpList _ _ _ _ _ wr.drew
          go_wp2_with (go_at_call 50; (with_reducible refine (HN.out _).mono ?_); rintro e w1 ⟨rfl, rfl⟩)
          exact ⟨rfl, .inr ⟨all_no_at' hlt (by rw [HQ.out]; exact HL.out), rfl⟩, HB.out.drew⟩
      · have t1 : ((q.length : Int) == (q0.length : Int)) = false := by simp; omega
        have t3 : decide (q.length = q0.length) = false := decide_eq_false e1
        have t4 : (q.length == q0.length) = false := by simpa using e1
        have hl2 : likeB l q = false := by rw [hlk]; simp [e1]
        have HL := Lib.hid hl2
        clear e1 hl2 hlk
        go_upto_region 3 with fail
        refine wp_region_still_tail 20 (by kernel_rfl) (by kernel_rfl) ?_
        simp only [List.take_succ_cons, List.take_zero, List.drop_succ_cons, List.drop_zero]
        refine Kept.out ?_
        refine stillH_step (fun K hK => ?_)
        go_simp
        refine hK _ ?_
        clear hK K
        refine stillH_step (fun K hK => ?_)
        go_simp
        refine hK _ ?_
        clear hK K
        refine stillH_step (fun K hK => ?_)
        go_simp
        refine hK _ ?_
        clear hK K
        refine stillH_step (fun K hK => ?_)
        go_simp
        refine hK _ ?_
        clear hK K
        refine stillH_step (fun K hK => ?_)
        go_simp
        refine hK _ ?_
        clear hK K
        refine stillH_step (fun K hK => ?_)
        go_simp
        refine hK _ ?_
        clear hK K
        refine stillH_step (fun K hK => ?_)
        go_simp
        refine hK _ ?_
        clear hK K
        refine stillH_step (fun K hK => ?_)
        go_simp
        refine hK _ ?_
        clear hK K
        refine stillH_skip (by kernel_rfl) ?_
        try simp only [Act.put, List.getElem_toArray, List.getElem_cons_succ, List.getElem_cons_zero, List.setIfInBounds_toArray, List.set_cons_zero, List.set_cons_succ]
        refine stillH_skip (by kernel_rfl) ?_
        try simp only [Act.put, List.getElem_toArray, List.getElem_cons_succ, List.getElem_cons_zero, List.setIfInBounds_toArray, List.set_cons_zero, List.set_cons_succ]
        refine stillH_skip (by kernel_rfl) ?_
        try simp only [Act.put, List.getElem_toArray, List.getElem_cons_succ, List.getElem_cons_zero, List.setIfInBounds_toArray, List.set_cons_zero, List.set_cons_succ]
        refine stillH_skip (by kernel_rfl) ?_
        try simp only [Act.put, List.getElem_toArray, List.getElem_cons_succ, List.getElem_cons_zero, List.setIfInBounds_toArray, List.set_cons_zero, List.set_cons_succ]
        refine stillH_skip (by kernel_rfl) ?_
        try simp only [Act.put, List.getElem_toArray, List.getElem_cons_succ, List.getElem_cons_zero, List.setIfInBounds_toArray, List.set_cons_zero, List.set_cons_succ]
        refine stillH_skip (by kernel_rfl) ?_
        try simp only [Act.put, List.getElem_toArray, List.getElem_cons_succ, List.getElem_cons_zero, List.setIfInBounds_toArray, List.set_cons_zero, List.set_cons_succ]
        refine stillH_skip (by kernel_rfl) ?_
        try simp only [Act.put, List.getElem_toArray, List.getElem_cons_succ, List.getElem_cons_zero, List.setIfInBounds_toArray, List.set_cons_zero, List.set_cons_succ]
        refine stillH_skip (by kernel_rfl) ?_
        try simp only [Act.put, List.getElem_toArray, List.getElem_cons_succ, List.getElem_cons_zero, List.setIfInBounds_toArray, List.set_cons_zero, List.set_cons_succ]
        refine stillH_skip (by kernel_rfl) ?_
        try simp only [Act.put, List.getElem_toArray, List.getElem_cons_succ, List.getElem_cons_zero, List.setIfInBounds_toArray, List.set_cons_zero, List.set_cons_succ]
        refine stillH_skip (by kernel_rfl) ?_
        try simp only [Act.put, List.getElem_toArray, List.getElem_cons_succ, List.getElem_cons_zero, List.setIfInBounds_toArray, List.set_cons_zero, List.set_cons_succ]
        refine stillH_skip (by kernel_rfl) ?_
        try simp only [Act.put, List.getElem_toArray, List.getElem_cons_succ, List.getElem_cons_zero, List.setIfInBounds_toArray, List.set_cons_zero, List.set_cons_succ]
        refine stillH_step (fun K hK => ?_)
        go_simp
        refine hK _ ?_
        clear hK K
        refine stillH_nil ?_
        change wpList _ _ _ _ _ wr.drew
        go_wp2_with (go_at_call 50; (with_reducible refine (HN.out _).mono ?_); rintro e w1 ⟨rfl, rfl⟩)
        exact ⟨rfl, .inr ⟨all_no_at' hlt (by rw [HQ.out]; exact HL.out), rfl⟩, HB.out.drew⟩
    · have w4 : ¬ (j : Int) < (l.length : Int) := by omega
      obtain rfl : j = l.length := by omega
      have HB := Lib.hid hbl
      clear hbl
      go_wp2_with fail
      go_end0
      exact ⟨.inl ⟨all_yes_of' HOK.out, rfl⟩, HB.out⟩
end Go.Proofs.Ythfagnbecocgdaa
