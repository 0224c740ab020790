/- RingLimits' law. -/
import Derived.Test.YtgcohmlapgnbdaaUD
import Derived.Test.YtgcohmlapgnbdaaVC
namespace Go.Proofs.Ytgcohmlapgnbdaa
open Go.RowKit Go.Shelf Go.Deep

theorem Try.underlying29u : Try.prog.underlying 29 = some (.slice 39) := by kernel_rfl
theorem Try.underlying54u : Try.prog.underlying 54 = some (.slice 118) := by kernel_rfl
theorem Try.info118 : (Try.prog.info? 118).map (fun i => (i.zero, i.size, i.bytes)) = some (some (.agg #[.int .i64 0, .int .i64 0, .int .i64 0]), 3, 24) := by kernel_rfl
/-- n passes of zeros. -/
def zPass (n : Nat) : Array Value := madeCells #[.int .i64 0, .int .i64 0, .int .i64 0] (n * 3)
theorem zPass_at {n k : Nat} (h : k < n * 3) : (zPass n)[k]? = some (.int .i64 0) := by
  unfold zPass madeCells
  have h3 : k % 3 = 0 ∨ k % 3 = 1 ∨ k % 3 = 2 := by omega
  rcases h3 with h3 | h3 | h3 <;> simp [h, h3]
theorem passes_made (w : World) (n : Nat) (hn : n ≤ 100000) : PassIn (w.alloc (.cells (zPass n) 118)) (List.replicate n Pass.zero) (.slice (some ⟨w.heap.size, 0, none⟩) n n) := by
  have hc : ∀ k, k < n * 3 → (w.alloc (.cells (zPass n) 118)).cell? ⟨w.heap.size, 0 + k, none⟩ = some (.int .i64 0) := fun k hk => by
    have h := zPass_at hk
    have hb := blk_alloc_new w (.cells (zPass n) 118)
    unfold World.cell?
    rw [hb, Nat.zero_add]
    exact h
  refine ⟨some ⟨w.heap.size, 0, none⟩, n, by rw [List.length_replicate], fun i hi => ⟨w.heap.size, 0, rfl, ?_, ?_, ?_⟩, by rw [List.length_replicate]; omega, by rw [List.length_replicate]; exact Nat.le_refl _⟩
  all_goals
    rw [List.length_replicate] at hi
    rw [pAt_zeros]
  · exact hc (i * 3) (by omega)
  · exact hc (i * 3 + 1) (by omega)
  · exact hc (i * 3 + 2) (by omega)
theorem wpList_make3 (w : World) {ops : Array Oper} {rest : List Oper} {o : Oper} {a : Act} {Q : Exit → Act → World → Prop}
    (hg : o.guard = none) (l c : Operand) (hop : o.op = Op.makeSlice 54 l c) (n : Nat) (hl : a.eval l = .int .i64 (n : Int)) (hc : a.eval c = .int .i64 (n : Int)) (hn : n ≤ 100000)
    (hK : wpList Try.prog ops Q rest (a.put o.dst (.slice (some ⟨w.heap.size, 0, none⟩) n n)) (w.alloc (.cells (zPass n) 118))) :
    wpList Try.prog ops Q (o :: rest) a w := by
  obtain ⟨i, hi, hz0, hz1, hz2⟩ := info_parts Try.info118
  refine wpList_plain hg fun K hK' => ?_
  have hrun := run_make (P := Try.prog) w 54 118 i _ Try.underlying54u hi hz0 .i64 .i64 n n (by omega) (Int.le_refl _) (by rw [hz2]; omega) (by omega)
  rw [hz1] at hrun
  unfold Oper.wp
  simp [execOp, hop, hl, hc, hrun, Result.andThen]
  exact hK' _ _ hK

theorem ones_frms (n : Nat) : frms 1 (List.replicate n [1]) = true := by
  simp only [frms, List.all_eq_true]
  intro x hx
  rw [List.eq_of_mem_replicate hx]
  decide
theorem zeros_passes (n : Nat) : passesB (List.replicate n Pass.zero) = true := by
  simp only [passesB, List.all_eq_true]
  intro x hx
  rw [List.eq_of_mem_replicate hx]
  decide
def limK (m t : Nat) : Int := if m ≤ 2000 ∧ t ≤ 5000 then 0 else 4
theorem sees_k (m t : Nat) : playK (4 : Nat) (1 : Nat) 0 (List.replicate m [1]) (List.replicate t Pass.zero) = limK m t := by
  unfold playK limK
  rw [show ((1 : Nat) : Int) = 1 from rfl, ones_frms, zeros_passes, show newB ((4 : Nat) : Int) 1 0 = true by decide, List.length_replicate, List.length_replicate]
  simp
theorem play_sees (m t : Nat) (lv pv : Value) (w : World) (hM : MatIn w (List.replicate m [1]) lv) (hP : PassIn w (List.replicate t Pass.zero) pv) :
    Calls Try.prog 26 #[.int .i64 4, .int .i64 1, .int .i64 0, lv, pv] w fun e w' => ∃ rv, e = .returned (.tuple #[rv, .int .i64 0, .int .i64 (limK m t)]) ∧ Below w.heap.size w w' := by
  by_cases hk : limK m t = 0
  · have hk' := hk
    rw [← sees_k] at hk'
    refine (play_yes 4 1 0 _ lv _ pv w (fun w0 => SeesI 4 1 0 lv w0) (fun w0 _ => sees_ok 4 1 0 lv t (by decide) w0) (fun w0 _ => sees_end 4 1 0 lv _ w0) hM hP hk').mono ?_
    rintro e w' ⟨w0, P, R, P0, x1, g, rv, rfl, _, hi, hr, _, _, hb⟩
    refine ⟨rv, ?_, hb⟩
    have e1 : aheadI g.wc g.rc = 0 := by
      have h0 : x1.cell? ⟨P, 3, none⟩ = some (.int .u16 g.wc) := hr.c (k := 3) (by decide) (by decide)
      have h0' : x1.cell? ⟨P, 3, none⟩ = some (.int .u16 0) := hi.2.2.2.1.c (k := 3) (by decide) (by decide)
      have h7 : x1.cell? ⟨P, 7, none⟩ = some (.int .u16 g.rc) := hr.c (k := 7) (by decide) (by decide)
      have h7' : x1.cell? ⟨P, 7, none⟩ = some (.int .u16 0) := hi.2.2.2.1.c (k := 7) (by decide) (by decide)
      rw [h0] at h0'
      rw [h7] at h7'
      simp only [Option.some.injEq, Value.int.injEq, true_and] at h0' h7'
      rw [h0', h7']
      rfl
    rw [e1, hk]
  · have hk' := hk
    rw [← sees_k] at hk'
    have := play_no _ _ _ _ lv _ pv w hM hP hk'
    rw [sees_k] at this
    refine this.mono ?_
    rintro e w' ⟨rfl, hb⟩
    exact ⟨_, rfl, hb⟩

theorem two_new (wr : World) : ∀ j u, [Value.slice (some ⟨wr.heap.size, 0, none⟩) 1 1][j]? = some u → ((wr.alloc (.cells #[.int .i64 1] 3)).alloc (.cells #[.slice (some ⟨wr.heap.size, 0, none⟩) 1 1] 39)).cell? ((⟨wr.heap.size + 1, 0, none⟩ : Addr).add j) = some u := by
  have := cell_one_new (wr.alloc (.cells #[.int .i64 1] 3)) (.slice (some ⟨wr.heap.size, 0, none⟩) 1 1) 39
  simpa using this
theorem one_own (wr : World) : ((wr.alloc (.cells #[.int .i64 1] 3)).alloc (.cells #[.slice (some ⟨wr.heap.size, 0, none⟩) 1 1] 39)).ownsRow wr.heap.size 3 1 (.slice (some ⟨wr.heap.size, 0, none⟩) 1 1) [(1 : Int)].length ([(1 : Int)].map (Value.int .i64)) :=
  World.ownsRow.alloc (World.ownsRow_lit wr #[.int .i64 1] 1 (Nat.le_refl _) (by decide) rfl) _
theorem okRow_one : okRow [1] := ⟨by decide, fun i hi => by simp at hi; subst hi; show I64 1; unfold I64; decide⟩
theorem rep_snoc (j : Nat) : List.replicate (j + 1) [(1 : Int)] = List.replicate j [1] ++ [[1]] := by rw [List.replicate_succ']
set_option maxHeartbeats 1000000 in
set_option maxRecDepth 100000 in
theorem limits_dark (m t : Int) (w : World) (hd : m < 0 ∨ 2010 < m ∨ t < 0 ∨ 5010 < t) :
    Calls Try.prog 6 #[.int .i64 m, .int .i64 t] w fun e w' => e = .returned (.bool true) ∧ Below w.heap.size w w' := by
  have HAW := Lib.hid awake_any
  by_cases h1 : m < 0
  · go_enter Try.func6, Try.ntmps6
    go_wp2_with (go_at_call 9; (with_reducible refine (HAW.out _).mono ?_); rintro e w9 ⟨rfl, b9⟩)
    go_ret
    exact ⟨rfl, b9⟩
  · by_cases h2 : 2010 < m
    · go_enter Try.func6, Try.ntmps6
      go_wp2_with (go_at_call 9; (with_reducible refine (HAW.out _).mono ?_); rintro e w9 ⟨rfl, b9⟩)
      go_ret
      exact ⟨rfl, b9⟩
    · by_cases h3 : t < 0
      · go_enter Try.func6, Try.ntmps6
        go_wp2_with (go_at_call 9; (with_reducible refine (HAW.out _).mono ?_); rintro e w9 ⟨rfl, b9⟩)
        go_ret
        exact ⟨rfl, b9⟩
      · have h4 : 5010 < t := by omega
        go_enter Try.func6, Try.ntmps6
        go_wp2_with (go_at_call 9; (with_reducible refine (HAW.out _).mono ?_); rintro e w9 ⟨rfl, b9⟩)
        go_ret
        exact ⟨rfl, b9⟩
set_option maxHeartbeats 2000000 in
set_option maxRecDepth 100000 in
theorem limits_lit (m t : Nat) (w : World) (hm : m ≤ 2010) (ht : t ≤ 5010) :
    Calls Try.prog 6 #[.int .i64 m, .int .i64 t] w fun e w' => e = .returned (.bool true) ∧ Below w.heap.size w w' := by
  have HAW := Lib.hid awake_any
  obtain ⟨i1, hi1, hy0, hy1, hy2⟩ := info_parts Try.info39
  have a1 : ¬ (m : Int) < 0 := by omega
  have a2 : ¬ (2010 : Int) < (m : Int) := by omega
  have a3 : ¬ (t : Int) < 0 := by omega
  have a4 : ¬ (5010 : Int) < (t : Int) := by omega
  go_enter Try.func6, Try.ntmps6
  go_wp2_with fail
  go_loopw [6, 5] (fun i v wr => ∃ (j : Nat) (vals : List Value), i = .int .i64 j ∧ j ≤ m ∧ Rz w wr (List.replicate j [1]) vals v) (fun i _ _ => m - (intOf i).toNat)
  case atStart => exact ⟨0, [], rfl, Nat.zero_le _, Rz.start w⟩
  case round =>
    obtain ⟨j, vals, rfl, hj, hrz⟩ := hrel
    have HRZ := Lib.hid hrz
    clear hrz
    by_cases hlt : j < m
    · have w5 : (j : Int) < (m : Int) := by omega
      obtain ⟨nm, hnm⟩ : ∃ q, q = (List.replicate j [(1 : Int)]).length := ⟨_, rfl⟩
      have hj' : nm = j := by rw [hnm, List.length_replicate]
      have hown : ((wr.alloc (.cells #[.int .i64 1] 3)).alloc (.cells #[.slice (some ⟨wr.heap.size, 0, none⟩) 1 1] 39)).ownsRow w.heap.size 39 1 u5 j vals := by
        have := HRZ.out.own
        rw [← hnm, hj'] at this
        exact (this.alloc _).alloc _
      have HO := Lib.hid hown
      have HSZ := Lib.hid HRZ.out.below.size
      clear hown hnm hj'
      go_wp2_with (at_builtin; refine wpList_append_moves rfl (.tmp 30) (.tmp 32) 29 rfl w.heap.size 39 i1 _ 1 24 Try.underlying29u hi1 hy0 hy1 hy2 rfl (by decide) _ j vals rfl HO.out ⟨wr.heap.size + 1, 0, none⟩ 1 1 [.slice (some ⟨wr.heap.size, 0, none⟩) 1 1] rfl rfl (two_new wr) (by simp [Value.oneCell']) ?d1 (by omega) (by have := HSZ.out; simp; omega) ?_)
      case d1 => unfold maxLen; omega
      intro v4 w4' o4 g4 m4
      have HN4 : Hid (Rz w w4' (List.replicate (j + 1) [1]) (vals ++ [.slice (some ⟨wr.heap.size, 0, none⟩) 1 1]) v4) := Lib.hid (by
        rw [rep_snoc]
        exact HRZ.out.step ((((Below.refl _ wr).alloc (Nat.le_refl _) _).alloc (by simp) _)) (one_own wr) (by rw [List.length_replicate]; exact o4) g4 m4 okRow_one)
      clear o4 g4 m4
      go_wp2_with fail
      go_roundw
      case rel => exact ⟨j + 1, _, by go_num, by omega, HN4.out⟩
      case measure => simp [intOf]; omega
    · have w5 : ¬ (j : Int) < (m : Int) := by omega
      obtain rfl : j = m := by omega
      have HMN : Hid (MatNew w.heap.size wr (List.replicate j [1]) u5) := Lib.hid (HRZ.out.mat (by rw [List.length_replicate]; omega))
      have HB1 := Lib.hid HRZ.out.below
      have HMM : Hid (MatIn (wr.alloc (.cells (zPass t) 118)) (List.replicate j [1]) u5) := Lib.hid (HMN.out.here.mono (Same.alloc _ _))
      have HPP := Lib.hid (passes_made wr t (by omega))
      have HC := Lib.hid (play_sees j t _ _ _ HMM.out HPP.out)
      have HBA : Hid (Below wr.heap.size wr (wr.alloc (.cells (zPass t) 118))) := Lib.hid ((Below.refl _ wr).alloc (Nat.le_refl _) _)
      go_upto_region 9 with (first
        | (at_make; refine wpList_make3 _ rfl (.tmp 36) (.tmp 36) rfl t rfl rfl (by omega) ?_)
        | (go_at_call 26; (with_reducible refine HC.out.mono ?_); rintro e w1 ⟨rv, rfl, b1⟩; have HB2 := Lib.hid (Below.then HB1.out (Nat.le_refl _) (Below.then HBA.out (Nat.le_refl _) b1)); clear b1))
      by_cases c1 : j ≤ 2000
      · by_cases c2 : t ≤ 5000
        · have e1 : ¬ (2000 : Int) < (j : Int) := by omega
          have e2 : ¬ (5000 : Int) < (t : Int) := by omega
          rw [show limK j t = 0 by unfold limK; rw [if_pos ⟨c1, c2⟩]]
          go_wp2_with (go_at_call 9; (with_reducible refine (HAW.out _).mono ?_); rintro e w9 ⟨rfl, b9⟩)
          go_ret
          exact ⟨rfl, Below.then HB2.out (Nat.le_refl _) b9⟩
        · have e1 : ¬ (2000 : Int) < (j : Int) := by omega
          have e2 : (5000 : Int) < (t : Int) := by omega
          rw [show limK j t = 4 by unfold limK; rw [if_neg (fun h => c2 h.2)]]
          go_wp2_with (go_at_call 9; (with_reducible refine (HAW.out _).mono ?_); rintro e w9 ⟨rfl, b9⟩)
          go_ret
          exact ⟨rfl, Below.then HB2.out (Nat.le_refl _) b9⟩
      · have e1 : (2000 : Int) < (j : Int) := by omega
        rw [show limK j t = 4 by unfold limK; rw [if_neg (fun h => c1 h.1)]]
        go_wp2_with (go_at_call 9; (with_reducible refine (HAW.out _).mono ?_); rintro e w9 ⟨rfl, b9⟩)
        go_ret
        exact ⟨rfl, Below.then HB2.out (Nat.le_refl _) b9⟩
theorem limitsLaw_any (m t : Int) (w : World) : Calls Try.prog 6 #[.int .i64 m, .int .i64 t] w fun e w' => e = .returned (.bool true) ∧ Below w.heap.size w w' := by
  by_cases hd : m < 0 ∨ 2010 < m ∨ t < 0 ∨ 5010 < t
  · exact limits_dark m t w hd
  · obtain ⟨M, rfl⟩ := Int.eq_ofNat_of_zero_le (show 0 ≤ m by omega)
    obtain ⟨T, rfl⟩ := Int.eq_ofNat_of_zero_le (show 0 ≤ t by omega)
    exact limits_lit M T w (by omega) (by omega)
end Go.Proofs.Ytgcohmlapgnbdaa
