/- The reference's New. -/
import Derived.Test.YtgcohmlapgnbdaaUQ
namespace Go.Proofs.Ytgcohmlapgnbdaa
open Go.RowKit Go.Shelf Go.Deep

theorem zeros_new (X : World) (n : Nat) (hn : n ≤ 8) : RowNew X.heap.size (X.alloc (.cells (madeCells #[.int .i64 0] n) 3)) (List.replicate n (0 : Int)) (.slice (some ⟨X.heap.size, 0, none⟩) n n) := by
  have e : (madeCells #[Value.int .i64 0] n).toList = (List.replicate n (0 : Int)).map (Value.int .i64) := by
    apply List.ext_getElem
    · simp [madeCells]
    · intro i h1 h2
      simp [madeCells, Nat.mod_one]
  refine ⟨?_, by rw [List.length_replicate]; omega, fun i hi => ?_⟩
  · rw [List.length_replicate, ← e]
    exact World.ownsRow_lit X _ n (Nat.le_refl _) (by unfold maxLen; omega) (by simp [madeCells])
  · rw [List.length_replicate] at hi
    simp [List.getD, hi]
    unfold I64; omega
theorem _root_.Go.RowKit.Below.mono' {B B' : Nat} {w w' : World} (h : Below B w w') (hb : B' ≤ B) : Below B' w w' := h.mono hb
def NewAnsR (sz ch : Nat) (fi : Int) (w : World) (e : Ending) (w' : World) : Prop := ∃ up uc, e = .returned (.tuple #[rgV sz ch fi 0 0 0 0 (-1) (-1) (.slice up sz uc), .int .i64 0]) ∧ MatIn w' (List.replicate sz (List.replicate ch 0)) (.slice up sz uc) ∧ Below w.heap.size w w'
set_option maxHeartbeats 1000000 in
set_option maxRecDepth 100000 in
theorem refNew_no (sz ch fi : Int) (w : World) (hn : newB sz ch fi = false) : Calls Try.prog 11 #[.int .i64 sz, .int .i64 ch, .int .i64 fi] w fun e w' => e = .returned (.tuple #[rgV 0 0 0 0 0 0 0 0 0 (.slice none 0 0), .int .i64 7]) ∧ Below w.heap.size w w' := by
  have HZ := Lib.hid fun x => size_any sz x
  have HC := Lib.hid fun x => counter_any fi x
  cases h1 : sizB sz with
  | false =>
    rw [h1] at HZ
    clear hn h1
    go_enter Try.func11, Try.ntmps11
    go_wp2_with (go_at_call 40; (with_reducible refine (HZ.out _).mono ?_); rintro e w1 ⟨rfl, rfl⟩)
    all_goals
      refine bodyPost_ret (results_cell_tmp_row rfl _ _ w.heap.size (rgC 0 0 0 0 0 0 0 0 0 (.slice none 0 0)) rfl (blk_alloc_new _ _) rfl) rfl ?_
      exact ⟨rfl, (Below.refl _ _).alloc (Nat.le_refl _) _⟩
  | true =>
    rw [h1] at HZ
    by_cases h2 : ch < 1
    · clear hn h1
      go_enter Try.func11, Try.ntmps11
      go_wp2_with (go_at_call 40; (with_reducible refine (HZ.out _).mono ?_); rintro e w1 ⟨rfl, rfl⟩)
      all_goals
        refine bodyPost_ret (results_cell_tmp_row rfl _ _ w.heap.size (rgC 0 0 0 0 0 0 0 0 0 (.slice none 0 0)) rfl (blk_alloc_new _ _) rfl) rfl ?_
        exact ⟨rfl, (Below.refl _ _).alloc (Nat.le_refl _) _⟩
    · by_cases h3 : 8 < ch
      · clear hn h1
        go_enter Try.func11, Try.ntmps11
        go_wp2_with (go_at_call 40; (with_reducible refine (HZ.out _).mono ?_); rintro e w1 ⟨rfl, rfl⟩)
        all_goals
          refine bodyPost_ret (results_cell_tmp_row rfl _ _ w.heap.size (rgC 0 0 0 0 0 0 0 0 0 (.slice none 0 0)) rfl (blk_alloc_new _ _) rfl) rfl ?_
          exact ⟨rfl, (Below.refl _ _).alloc (Nat.le_refl _) _⟩
      · have h4 : ctrB fi = false := by
          unfold newB at hn
          rw [h1] at hn
          simp [chB] at hn
          exact hn (by omega) (by omega)
        rw [h4] at HC
        clear hn h1 h4
        go_enter Try.func11, Try.ntmps11
        go_wp2_with (first | (go_at_call 40; (with_reducible refine (HZ.out _).mono ?_); rintro e w1 ⟨rfl, rfl⟩) | (go_at_call 41; (with_reducible refine (HC.out _).mono ?_); rintro e w1 ⟨rfl, rfl⟩))
        all_goals first
          | (exfalso; omega)
          | (refine bodyPost_ret (results_cell_tmp_row rfl _ _ w.heap.size (rgC 0 0 0 0 0 0 0 0 0 (.slice none 0 0)) rfl (blk_alloc_new _ _) rfl) rfl ?_; exact ⟨rfl, (Below.refl _ _).alloc (Nat.le_refl _) _⟩)
set_option maxHeartbeats 2000000 in
set_option maxRecDepth 100000 in
theorem refNew_yes (sz ch : Nat) (fi : Int) (w : World) (hn : newB sz ch fi = true) : Calls Try.prog 11 #[.int .i64 sz, .int .i64 ch, .int .i64 fi] w (NewAnsR sz ch fi w) := by
  have HZ := Lib.hid fun x => size_any sz x
  have HC := Lib.hid fun x => counter_any fi x
  obtain ⟨⟨g1, g2⟩, g3⟩ : (sizB sz = true ∧ chB ch = true) ∧ ctrB fi = true := by simpa only [newB, Bool.and_eq_true] using hn
  rw [g1] at HZ
  rw [g3] at HC
  have hs := sizB_t g1
  have h2 : ¬ (ch : Int) < 1 := by simp [chB] at g2; omega
  have h3 : ¬ (8 : Int) < (ch : Int) := by simp [chB] at g2; omega
  have HLC := Lib.hid (show sz ≤ 1024 ∧ ch ≤ 8 by omega)
  obtain ⟨i1, hi1, hy0, hy1, hy2⟩ := info_parts Try.info39
  have hmk := run_make_row' (P := Try.prog) 39 3 (.int .i64 0) 8 Try.underlying39 Try.info3 rfl .i64 .i64 ch (by have := HLC.out; omega) (by have := HLC.out; omega)
  obtain ⟨O1, hO1⟩ : ∃ O1, Obj.cells (rgC 0 0 0 0 0 0 0 0 0 (.slice none 0 0)) 31 = O1 := ⟨_, rfl⟩
  obtain ⟨O2, hO2⟩ : ∃ O2, Obj.cells (rgC sz ch fi 0 0 0 0 (-1) (-1) (.slice none 0 0)) 31 = O2 := ⟨_, rfl⟩
  have hb1 : Below w.heap.size w ((w.alloc O1).alloc O2) := ((Below.refl _ w).alloc (Nat.le_refl _) _).alloc (by simp) _
  have hsz : ((w.alloc O1).alloc O2).heap.size = w.heap.size + 1 + 1 := by simp
  have q1 : ((w.alloc O1).alloc O2).rowIs w.heap.size 31 10 (rgF 0 0 0 0 0 0 0 0 0 (.slice none 0 0)) := RgAt.of_cells _ _ _ _ _ _ _ _ _ (by rw [hO1]; exact (blk_alloc_lt _ _ _ (by simp)).trans (blk_alloc_new w O1))
  have q2 : ((w.alloc O1).alloc O2).rowIs (w.heap.size + 1) 31 10 (rgF sz ch fi 0 0 0 0 (-1) (-1) (.slice none 0 0)) := RgAt.of_cells _ _ _ _ _ _ _ _ _ (by rw [hO2]; exact al2b w O1 O2)
  have HSZ := Lib.hid hsz
  have HST := Lib.hid (And.intro hb1 (And.intro q1 q2))
  clear hb1 hsz q1 q2 g1 g2 g3 hn hs
  subst hO1
  subst hO2
  go_enter Try.func11, Try.ntmps11
  go_wp2_with (first | (go_at_call 40; (with_reducible refine (HZ.out _).mono ?_); rintro e w1 ⟨rfl, rfl⟩) | (go_at_call 41; (with_reducible refine (HC.out _).mono ?_); rintro e w1 ⟨rfl, rfl⟩))
  go_loopw [9] (fun i wr => ∃ (j : Nat) (vals : List Value) (v : Value), i = .int .i64 j ∧ j ≤ sz ∧ (Below w.heap.size w wr ∧ w.heap.size + 2 ≤ wr.heap.size) ∧ (wr.rowIs w.heap.size 31 10 (rgF 0 0 0 0 0 0 0 0 0 (.slice none 0 0)) ∧ wr.rowIs (w.heap.size + 1) 31 10 (rgF sz ch fi 0 0 0 0 (-1) (-1) v)) ∧ Rk (w.heap.size + 2) wr (List.replicate j (List.replicate ch (0 : Int))).length (List.replicate j (List.replicate ch 0)) vals v) (fun i _ => sz - (intOf i).toNat)
  case atStart => exact ⟨0, [], .slice none 0 0, rfl, Nat.zero_le _, ⟨HST.out.1, Nat.le_of_eq HSZ.out.symm⟩, HST.out.2, Rk.start _ _⟩
  case round =>
    obtain ⟨j, vals, v, rfl, hj, ⟨hb, hsw⟩, ⟨hr1, hr2⟩, hrk⟩ := hrel
    have HRK := Lib.hid hrk
    have HR1 := Lib.hid hr1
    have HR2 := Lib.hid hr2
    have HB := Lib.hid (And.intro hb hsw)
    clear hrk hr1 hr2 hb hsw
    by_cases hlt : j < sz
    · have w4 : (j : Int) < (sz : Int) := by omega
      have hl : (List.replicate j (List.replicate ch (0 : Int))).length = j := List.length_replicate
      have hrk0 := HRK.out
      rw [hl] at hrk0
      obtain ⟨up, uc, rfl⟩ := slice_owns hrk0.own
      have HX : Hid (∀ y, Below wr.heap.size wr y → y.cell? ⟨w.heap.size + 1, 9, none⟩ = some (.slice up j uc)) := Lib.hid fun y hy => (HR2.out.of_block (hy.block _ HR2.out.lt)).cell (i := 9) (by decide)
      have HRK0 := Lib.hid hrk0
      have HJ := Lib.hid hlt
      clear hl hrk0
      go_upto_region 7 with fail
      refine region_T (S := fun wx => wx.cell? ⟨w.heap.size + 1, 9, none⟩ = some (.slice up j uc)) [7] (by kernel_rfl) (HX.out _ (below_drew (Below.refl _ wr))) (fun _ => ?_)
      have hS0 := HX.out _ (below_drew (Below.refl _ wr))
      have HBZ : Hid (Below wr.heap.size wr wr.drew) := Lib.hid (below_drew (Below.refl _ wr))
      generalize wr.drew = X at *
      refine anyT_take (i := 0) (v := ?_) rfl (by kernel_rfl) (by kernel_rfl) (by kernel_rfl) (by kernel_rfl) (fun _ _ _ h => h) (Or.inl ⟨by rfl, ?_⟩) (by assumption) ?_
      rotate_left
      focus ((intro wq hSw; (try dsimp only at hSw); go_simp); try with_reducible rfl)
      try simp only [Act.put, List.getElem_toArray, List.getElem_cons_succ, List.getElem_cons_zero, List.setIfInBounds_toArray, List.set_cons_zero, List.set_cons_succ]
      refine anyT_take (i := 1) (v := ?_) rfl (by kernel_rfl) (by kernel_rfl) (by kernel_rfl) (by kernel_rfl) (fun _ _ _ h => h) (Or.inl ⟨by rfl, ?_⟩) (by assumption) ?_
      rotate_left
      focus ((intro wq hSw; (try dsimp only at hSw); go_simp); try with_reducible rfl)
      try simp only [Act.put, List.getElem_toArray, List.getElem_cons_succ, List.getElem_cons_zero, List.setIfInBounds_toArray, List.set_cons_zero, List.set_cons_succ]
      refine anyT_take (i := 2) (v := ?_) rfl (by kernel_rfl) (by kernel_rfl) (by kernel_rfl) (by kernel_rfl) (fun _ _ _ h => h) (Or.inl ⟨by rfl, ?_⟩) (by assumption) ?_
      rotate_left
      focus ((intro wq hSw; (try dsimp only at hSw); go_simp); try with_reducible rfl)
      try simp only [Act.put, List.getElem_toArray, List.getElem_cons_succ, List.getElem_cons_zero, List.setIfInBounds_toArray, List.set_cons_zero, List.set_cons_succ]
      refine anyT_one (i := 3) (by kernel_rfl) rfl (fun K hK => ?_)
      go_simp
      have HA1 : Hid (Below wr.heap.size wr (X.alloc (.cells (madeCells #[.int .i64 0] ch) 3))) := Lib.hid (Below.then HBZ.out (Nat.le_refl _) ((Below.refl _ _).alloc (Nat.le_refl _) _))
      refine hK.out _ _ (fun _ => HX.out _ HA1.out) ?_
      clear hK K
      try simp only [Act.put, List.getElem_toArray, List.getElem_cons_succ, List.getElem_cons_zero, List.setIfInBounds_toArray, List.set_cons_zero, List.set_cons_succ]
      refine anyT_one (i := 4) (by kernel_rfl) rfl (fun K hK => ?_)
      go_simp
      have HA2 : Hid (Below wr.heap.size wr ((X.alloc (.cells (madeCells #[.int .i64 0] ch) 3)).alloc (.cells #[.slice (some ⟨X.heap.size, 0, none⟩) ch ch] 39))) := Lib.hid (Below.then HA1.out (Nat.le_refl _) ((Below.refl _ _).alloc (Nat.le_refl _) _))
      refine hK.out _ _ (fun _ => HX.out _ HA2.out) ?_
      clear hK K
      try simp only [Act.put, List.getElem_toArray, List.getElem_cons_succ, List.getElem_cons_zero, List.setIfInBounds_toArray, List.set_cons_zero, List.set_cons_succ]
      have hnew : RowNew X.heap.size (X.alloc (.cells (madeCells #[.int .i64 0] ch) 3)) (List.replicate ch (0 : Int)) (.slice (some ⟨X.heap.size, 0, none⟩) ch ch) := zeros_new X ch (by have := HLC.out; omega)
      have hrkX : Rk (w.heap.size + 2) X j (List.replicate j (List.replicate ch 0)) vals (.slice up j uc) := HRK0.out.keep fun q _ h2 => HBZ.out.block q h2
      have hadd := Rk.add (rows := List.replicate j (List.replicate ch (0 : Int))) (by rw [List.length_replicate]; exact hrkX) ((Below.refl _ X).alloc (Nat.le_refl _) _) (by have := HB.out.2; have := HBZ.out.size; omega) hnew
      rw [List.length_replicate] at hadd
      have hown : ((X.alloc (.cells (madeCells #[.int .i64 0] ch) 3)).alloc (.cells #[.slice (some ⟨X.heap.size, 0, none⟩) ch ch] 39)).ownsRow (w.heap.size + 2) 39 1 (.slice up j uc) j vals := by
        have h := hrkX.own
        rw [List.take_of_length_le (by rw [hrkX.len, List.length_replicate]; exact Nat.le_refl _)] at h
        exact (h.alloc _).alloc _
      obtain ⟨v4, w5, hrun, o4, g4, m4⟩ := run_append_moves (P := Try.prog) ((X.alloc (.cells (madeCells #[.int .i64 0] ch) 3)).alloc (.cells #[.slice (some ⟨X.heap.size, 0, none⟩) ch ch] 39)) (w.heap.size + 2) 29 29 39 i1 (.slice none 0 0) 1 24 Try.underlying29 hi1 hy0 hy1 hy2 rfl (by decide) (.slice up j uc) j vals hown ⟨(X.alloc (.cells (madeCells #[.int .i64 0] ch) 3)).heap.size, 0, none⟩ 1 1 [.slice (some ⟨X.heap.size, 0, none⟩) ch ch] rfl (cell_one_new _ _ _) (by simp [Value.oneCell']) (by have := HLC.out; unfold maxLen; omega) (by have := HLC.out; omega) (by have := HB.out.2; have := HA2.out.size; omega)
      have happ := Rk.app (tmp := .cells #[.slice (some ⟨X.heap.size, 0, none⟩) ch ch] 39) hadd (by simp) o4 g4 m4
      obtain ⟨va, vc, rfl⟩ := slice_owns o4
      have HF : Hid (Below (w.heap.size + 2) wr w5) := Lib.hid ((HA2.out.mono HB.out.2).grown g4 (by have := HB.out.2; have := HA2.out.size; omega) (fun k e => (hown.lt k e).1))
      have hrow5 := HR2.out.of_block (HF.out.block _ (by omega))
      have q9 : w5.cell? ⟨w.heap.size + 1, 9, none⟩ = some (.slice up j uc) := hrow5.cell (i := 9) (by decide)
      have z9 := hrow5.frozen 9
      have HAPP := Lib.hid happ
      have HR5 := Lib.hid hrow5
      clear hnew hrkX hadd hown o4 g4 m4 happ hrow5
      refine anyT_one (i := 5) (by kernel_rfl) rfl (fun K hK => ?_)
      rw [World.size_alloc] at hrun
      refine op_append rfl (.tmp 37) (.tmp 40) rfl hrun rfl rfl ?_
      refine hK.out _ _ (fun _ => q9) ?_
      clear hK K hrun
      try simp only [Act.put, List.getElem_toArray, List.getElem_cons_succ, List.getElem_cons_zero, List.setIfInBounds_toArray, List.set_cons_zero, List.set_cons_succ]
      have hS9 : w5.cell? ⟨w.heap.size + 1, 9, none⟩ = some (.slice up j uc) := q9
      refine anyT_take (i := 6) (v := ?_) rfl (by kernel_rfl) (by kernel_rfl) (by kernel_rfl) (by kernel_rfl) (fun _ _ _ h => h) (Or.inl ⟨by rfl, ?_⟩) (by assumption) ?_
      rotate_left
      focus ((intro wq hSw; (try dsimp only at hSw); go_simp); try with_reducible rfl)
      try simp only [Act.put, List.getElem_toArray, List.getElem_cons_succ, List.getElem_cons_zero, List.setIfInBounds_toArray, List.set_cons_zero, List.set_cons_succ]
      refine anyT_one (i := 7) (by kernel_rfl) rfl (fun K hK => ?_)
      go_simp
      refine hK.out _ _ (fun h => by cases h) ?_
      clear hK K
      try simp only [Act.put, List.getElem_toArray, List.getElem_cons_succ, List.getElem_cons_zero, List.setIfInBounds_toArray, List.set_cons_zero, List.set_cons_succ]
      refine anyT_done (by kernel_rfl) ?_ _
      have HREL : Hid ((Below w.heap.size w (w5.setCell ⟨w.heap.size + 1, 9, none⟩ (.slice va (j + 1) vc)) ∧ w.heap.size + 2 ≤ (w5.setCell ⟨w.heap.size + 1, 9, none⟩ (.slice va (j + 1) vc)).heap.size) ∧ ((w5.setCell ⟨w.heap.size + 1, 9, none⟩ (.slice va (j + 1) vc)).rowIs w.heap.size 31 10 (rgF 0 0 0 0 0 0 0 0 0 (.slice none 0 0)) ∧ (w5.setCell ⟨w.heap.size + 1, 9, none⟩ (.slice va (j + 1) vc)).rowIs (w.heap.size + 1) 31 10 (rgF sz ch fi 0 0 0 0 (-1) (-1) (.slice va (j + 1) vc))) ∧ Rk (w.heap.size + 2) (w5.setCell ⟨w.heap.size + 1, 9, none⟩ (.slice va (j + 1) vc)) (List.replicate (j + 1) (List.replicate ch (0 : Int))).length (List.replicate (j + 1) (List.replicate ch 0)) (vals ++ [.slice (some ⟨X.heap.size, 0, none⟩) ch ch]) (.slice va (j + 1) vc)) := Lib.hid (by
        refine ⟨⟨low_set (HB.out.1.trans (HF.out.mono' (by omega))) (by omega), by have := HB.out.2; have := HF.out.size; simp; omega⟩, ⟨(HR1.out.of_block (HF.out.block _ (by omega))).setOther (a := ⟨w.heap.size + 1, 9, none⟩) (by show w.heap.size ≠ w.heap.size + 1; omega) _, (HR5.out.set 9 _).congr fun i hi => ?_⟩, ?_⟩
        · match i with
          | 0 => rfl
          | 1 => rfl
          | 2 => rfl
          | 3 => rfl
          | 4 => rfl
          | 5 => rfl
          | 6 => rfl
          | 7 => rfl
          | 8 => rfl
          | 9 => rfl
        · rw [List.length_replicate, List.replicate_succ']
          exact HAPP.out.keep fun q h1 _ => blk_setCell_other _ _ _ _ (by show q ≠ w.heap.size + 1; omega))
      clear q9 z9
      generalize w5.setCell ⟨w.heap.size + 1, 9, none⟩ (.slice va (j + 1) vc) = W5 at *
      obtain ⟨hlc, _⟩ := HLC.out
      have wj : IntKind.i64.wrap ((j : Int) + 1) = ((j + 1 : Nat) : Int) := by rw [IntKind.wrap_i64]; omega
      go_wp2_with fail
      go_roundw
      case rel => exact ⟨j + 1, _, _, by go_num, by omega, HREL.out⟩
      case measure => simp [intOf]; omega
    · have w4 : ¬ (j : Int) < (sz : Int) := by omega
      obtain rfl : j = sz := by omega
      obtain ⟨up, uc, rfl⟩ := slice_owns HRK.out.own
      obtain ⟨k0, k1, k2, k3, k4, k5, k6, k7, k8, k9⟩ := rg_cells _ _ _ _ _ _ _ _ _ HR2.out
      obtain ⟨n0, n1, n2, n3, n4, n5, n6, n7, n8, n9⟩ := rg_cells _ _ _ _ _ _ _ _ _ HR1.out
      obtain ⟨f0, f1, f2, f3, f4, f5, f6, f7, f8, f9⟩ := rg_frozen HR1.out
      rw [List.length_replicate] at k9
      obtain ⟨hY6, hg6⟩ := set10 HR1.out j ch fi 0 0 0 0 (-1) (-1) up j uc
      have HY6 := Lib.hid (And.intro hY6 hg6)
      clear hY6 hg6
      go_wp2_with fail
      refine bodyPost_ret (results_cell_tmp_row rfl _ _ w.heap.size (rgC j ch fi 0 0 0 0 (-1) (-1) (.slice up j uc)) rfl HY6.out.1 rfl) rfl ?_
      have hmat := (Rk.mat (HRK.out.keep fun q h1 h2 => HY6.out.2.block q h2 (fun e => by cases e; omega)) (by rw [List.length_replicate]; have := HLC.out; omega)).here
      exact ⟨up, uc, rfl, by rw [List.length_replicate] at hmat; exact hmat, HB.out.1.grown HY6.out.2 HB.out.1.size (fun k e => by cases e; omega)⟩
end Go.Proofs.Ytgcohmlapgnbdaa
