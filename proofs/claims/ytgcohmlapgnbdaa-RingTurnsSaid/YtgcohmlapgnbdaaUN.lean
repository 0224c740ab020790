/- The reference's ring: its small methods. -/
import Derived.Test.YtgcohmlapgnbdaaUM
namespace Go.Proofs.Ytgcohmlapgnbdaa
open Go.RowKit Go.Shelf Go.Deep

theorem Try.underlying31 : ∃ f, Try.prog.underlying 31 = some (.struct f) := by
  have : (match Try.prog.underlying 31 with | some (.struct _) => true | _ => false) = true := by kernel_rfl
  cases h : Try.prog.underlying 31 with
  | none => rw [h] at this; cases this
  | some d =>
    rw [h] at this
    cases d with
    | struct f => exact ⟨f, rfl⟩
    | _ => cases this
theorem Try.size31 : (Try.prog.info? 31).map (·.size) = some 10 := by kernel_rfl
theorem results_cell_tmp_row {fn : Func} {p u : Tmp} (h : fn.results = #[.cell p 31, .tmp u]) (tmps : Array Value) (w : World) (g : Nat) (cs : Array Value) (hp : tmps.getD p undef = .pointer (some ⟨g, 0, none⟩)) (hg : w.heap[g]? = some (.cells cs 31 (0, 0))) (hs : cs.size = 10) :
    (results fn tmps).run Try.prog w = .ok (.tuple #[.agg cs, tmps.getD u undef]) w := by
  obtain ⟨f, hu⟩ := Try.underlying31
  have hp' : tmps[p]?.getD undef = .pointer (some ⟨g, 0, none⟩) := by simpa using hp
  rw [results_cell_tmp h]
  simp [hp', asAddr, run_loadVar_row w g 31 31 cs (0, 0) _ hg hu rfl (by rw [hs]; exact Try.size31), Result.andThen]
theorem results_cell_tmp2_row {fn : Func} {p u v : Tmp} (h : fn.results = #[.cell p 31, .tmp u, .tmp v]) (tmps : Array Value) (w : World) (g : Nat) (cs : Array Value) (hp : tmps.getD p undef = .pointer (some ⟨g, 0, none⟩)) (hg : w.heap[g]? = some (.cells cs 31 (0, 0))) (hs : cs.size = 10) :
    (results fn tmps).run Try.prog w = .ok (.tuple #[.agg cs, tmps.getD u undef, tmps.getD v undef]) w := by
  obtain ⟨f, hu⟩ := Try.underlying31
  have hp' : tmps[p]?.getD undef = .pointer (some ⟨g, 0, none⟩) := by simpa using hp
  simp [results, h, hp', asAddr, run_loadVar_row w g 31 31 cs (0, 0) _ hg hu rfl (by rw [hs]; exact Try.size31), Result.andThen]
/-- The reference's ring as a value. -/
abbrev rgC (sz ch fi W R S L c t : Int) (m : Value) : Array Value := #[.int .i64 sz, .int .i64 ch, .int .i64 fi, .int .i64 W, .int .i64 R, .int .i64 S, .int .i64 L, .int .i64 c, .int .i64 t, m]
abbrev rgV (sz ch fi W R S L c t : Int) (m : Value) : Value := .agg #[.int .i64 sz, .int .i64 ch, .int .i64 fi, .int .i64 W, .int .i64 R, .int .i64 S, .int .i64 L, .int .i64 c, .int .i64 t, m]
def Sm (n : Int) : Prop := -1 ≤ n ∧ n ≤ 200000
variable (sz ch fi W R S L c t : Int) (ma : Option Addr) (ml mc : Nat) (w : World)
set_option maxRecDepth 100000 in
theorem refRoom_any (h0 : Sm sz) (h1 : Sm W) (h2 : Sm S) : Calls Try.prog 100 #[rgV sz ch fi W R S L c t (.slice ma ml mc)] w fun e w' => e = .returned (.int .i64 (sz - (W - S))) ∧ w' = w.alloc (.cells (rgC sz ch fi W R S L c t (.slice ma ml mc)) 31) := by
  obtain ⟨a0, b0⟩ := h0
  obtain ⟨a1, b1⟩ := h1
  obtain ⟨a2, b2⟩ := h2
  have e1 : IntKind.i64.wrap (W - S) = W - S := by rw [IntKind.wrap_i64]; omega
  have e2 : IntKind.i64.wrap (sz - (W - S)) = sz - (W - S) := by rw [IntKind.wrap_i64]; omega
  go_enter Try.func100, Try.ntmps100
  go_wp2_with fail
  go_ret
  exact ⟨rfl, rfl⟩
set_option maxRecDepth 100000 in
theorem refFilled_any (h1 : Sm R) (h2 : Sm L) : Calls Try.prog 103 #[rgV sz ch fi W R S L c t (.slice ma ml mc)] w fun e w' => e = .returned (.int .i64 (L - R)) ∧ w' = w.alloc (.cells (rgC sz ch fi W R S L c t (.slice ma ml mc)) 31) := by
  obtain ⟨a1, b1⟩ := h1
  obtain ⟨a2, b2⟩ := h2
  have e1 : IntKind.i64.wrap (L - R) = L - R := by rw [IntKind.wrap_i64]; omega
  go_enter Try.func103, Try.ntmps103
  go_wp2_with fail
  go_ret
  exact ⟨rfl, rfl⟩
set_option maxRecDepth 100000 in
theorem refPlace_any (n : Int) (h0 : 1 ≤ sz ∧ sz ≤ 1024) (h1 : Sm fi) (h2 : 0 ≤ n ∧ n ≤ 200000) (h3 : 0 ≤ fi) : Calls Try.prog 102 #[rgV sz ch fi W R S L c t (.slice ma ml mc), .int .i64 n] w fun e w' => e = .returned (.int .i64 ((fi + n) % sz)) ∧ Below w.heap.size w w' := by
  obtain ⟨a1, b1⟩ := h1
  have e1 : IntKind.i64.wrap (fi + n) = fi + n := by rw [IntKind.wrap_i64]; omega
  have e2 : ¬ sz = 0 := by omega
  have e3 : (fi + n).tmod sz = (fi + n) % sz := Int.tmod_eq_emod_of_nonneg (by omega)
  have e4 : IntKind.i64.wrap ((fi + n) % sz) = (fi + n) % sz := by
    have := Int.emod_nonneg (fi + n) e2
    have := Int.emod_lt_of_pos (fi + n) (show 0 < sz by omega)
    rw [IntKind.wrap_i64]; omega
  generalize (fi + n) % sz = q at *
  go_enter Try.func102, Try.ntmps102
  go_wp2_with fail
  go_ret
  exact ⟨rfl, (Below.refl _ _).alloc (Nat.le_refl _) _⟩
set_option maxHeartbeats 1000000 in
set_option maxRecDepth 100000 in
theorem refSee_any (h0 : Sm sz) (h1 : Sm W) (h2 : Sm R) : Calls Try.prog 60 #[rgV sz ch fi W R S L c t (.slice ma ml mc)] w fun e w' => e = .returned (.tuple #[rgV sz ch fi W R R L c t (.slice ma ml mc), .int .i64 (sz - (W - R))]) ∧ Below w.heap.size w w' := by
  have HR := Lib.hid fun x => refRoom_any sz ch fi W R R L c t ma ml mc x h0 h1 h2
  go_enter Try.func60, Try.ntmps60
  go_wp2_with fail
  go_region_with (go_at_call 100; (with_reducible refine (HR.out _).mono ?_); rintro e w1 ⟨rfl, rfl⟩)
  all_goals
    go_wp2_with fail
    refine bodyPost_ret (results_cell_tmp_row rfl _ _ (w.heap.size + 1) (rgC sz ch fi W R R L c t (.slice ma ml mc)) rfl (al1 w _ _ _) rfl) rfl ?_
    exact ⟨rfl, ((((Below.refl _ w).alloc (Nat.le_refl _) _).alloc (by simp) _).alloc (by simp; omega) _).drew⟩
set_option maxHeartbeats 1000000 in
set_option maxRecDepth 100000 in
theorem refLook_any (h1 : Sm W) (h2 : Sm R) : Calls Try.prog 65 #[rgV sz ch fi W R S L c t (.slice ma ml mc)] w fun e w' => e = .returned (.tuple #[rgV sz ch fi W R S W c t (.slice ma ml mc), .int .i64 (W - R)]) ∧ Below w.heap.size w w' := by
  have HR := Lib.hid fun x => refFilled_any sz ch fi W R S W c t ma ml mc x h2 h1
  go_enter Try.func65, Try.ntmps65
  go_wp2_with fail
  go_region_with (go_at_call 103; (with_reducible refine (HR.out _).mono ?_); rintro e w1 ⟨rfl, rfl⟩)
  all_goals
    go_wp2_with fail
    refine bodyPost_ret (results_cell_tmp_row rfl _ _ (w.heap.size + 1) (rgC sz ch fi W R S W c t (.slice ma ml mc)) rfl (al1 w _ _ _) rfl) rfl ?_
    exact ⟨rfl, ((((Below.refl _ w).alloc (Nat.le_refl _) _).alloc (by simp) _).alloc (by simp; omega) _).drew⟩
theorem al2b (W : World) (A B : Obj) : ((W.alloc A).alloc B).heap[W.heap.size + 1]? = some B := by
  have := blk_alloc_new (W.alloc A) B
  rwa [World.size_alloc] at this
set_option maxHeartbeats 1000000 in
set_option maxRecDepth 100000 in
theorem refClaims_held (n : Int) (hn : 0 ≤ n) (hc : 0 ≤ c) : Calls Try.prog 62 #[rgV sz ch fi W R S L c t (.slice ma ml mc), .int .i64 n] w fun e w' => ∃ k, e = .returned (.tuple #[rgV sz ch fi W R S L c t (.slice ma ml mc), .int .i64 0, k]) ∧ Below w.heap.size w w' := by
  have hn' : ¬ n < 0 := by omega
  go_enter Try.func62, Try.ntmps62
  go_wp2_with fail
  refine bodyPost_ret (results_cell_tmp2_row rfl _ _ (w.heap.size + 1) (rgC sz ch fi W R S L c t (.slice ma ml mc)) rfl (al2b w _ _) rfl) rfl ?_
  exact ⟨⟨_, rfl⟩, ((Below.refl _ w).alloc (Nat.le_refl _) _).alloc (by simp) _⟩
set_option maxHeartbeats 1000000 in
set_option maxRecDepth 100000 in
theorem refTakes_held (n : Int) (hn : 0 ≤ n) (hc : 0 ≤ t) : Calls Try.prog 66 #[rgV sz ch fi W R S L c t (.slice ma ml mc), .int .i64 n] w fun e w' => ∃ k, e = .returned (.tuple #[rgV sz ch fi W R S L c t (.slice ma ml mc), .int .i64 0, k]) ∧ Below w.heap.size w w' := by
  have hn' : ¬ n < 0 := by omega
  go_enter Try.func66, Try.ntmps66
  go_wp2_with fail
  refine bodyPost_ret (results_cell_tmp2_row rfl _ _ (w.heap.size + 1) (rgC sz ch fi W R S L c t (.slice ma ml mc)) rfl (al2b w _ _) rfl) rfl ?_
  exact ⟨⟨_, rfl⟩, ((Below.refl _ w).alloc (Nat.le_refl _) _).alloc (by simp) _⟩
set_option maxHeartbeats 1000000 in
set_option maxRecDepth 100000 in
theorem refClaims_free (n : Int) (hn : 0 ≤ n) (hc : c < 0) (h0 : Sm sz) (h1 : Sm W) (h2 : Sm S) : Calls Try.prog 62 #[rgV sz ch fi W R S L c t (.slice ma ml mc), .int .i64 n] w fun e w' => ∃ k, e = .returned (.tuple #[rgV sz ch fi W R S L (min n (sz - (W - S))) t (.slice ma ml mc), .int .i64 (min n (sz - (W - S))), k]) ∧ Below w.heap.size w w' := by
  have hn' : ¬ n < 0 := by omega
  have hc' : ¬ 0 ≤ c := by omega
  have HR := Lib.hid fun x => refRoom_any sz ch fi W R S L c t ma ml mc x h0 h1 h2
  go_enter Try.func62, Try.ntmps62
  go_wp2_with (go_at_call 100; (with_reducible refine (HR.out _).mono ?_); rintro e w1 ⟨rfl, rfl⟩)
  go_region
  all_goals
    go_wp2_with fail
    refine bodyPost_ret (results_cell_tmp2_row rfl _ _ (w.heap.size + 1) (rgC sz ch fi W R S L (min n (sz - (W - S))) t (.slice ma ml mc)) rfl ?_ rfl) rfl ?_
    · exact al1 w _ _ _
    · exact ⟨_, rfl, ((((Below.refl _ w).alloc (Nat.le_refl _) _).alloc (by simp) _).alloc (by simp; omega) _).drew⟩
set_option maxHeartbeats 1000000 in
set_option maxRecDepth 100000 in
theorem refTakes_free (n : Int) (hn : 0 ≤ n) (hc : t < 0) (h1 : Sm R) (h2 : Sm L) : Calls Try.prog 66 #[rgV sz ch fi W R S L c t (.slice ma ml mc), .int .i64 n] w fun e w' => ∃ k, e = .returned (.tuple #[rgV sz ch fi W R S L c (min n (L - R)) (.slice ma ml mc), .int .i64 (min n (L - R)), k]) ∧ Below w.heap.size w w' := by
  have hn' : ¬ n < 0 := by omega
  have hc' : ¬ 0 ≤ t := by omega
  have HR := Lib.hid fun x => refFilled_any sz ch fi W R S L c t ma ml mc x h1 h2
  go_enter Try.func66, Try.ntmps66
  go_wp2_with (go_at_call 103; (with_reducible refine (HR.out _).mono ?_); rintro e w1 ⟨rfl, rfl⟩)
  go_region
  all_goals
    go_wp2_with fail
    refine bodyPost_ret (results_cell_tmp2_row rfl _ _ (w.heap.size + 1) (rgC sz ch fi W R S L c (min n (L - R)) (.slice ma ml mc)) rfl ?_ rfl) rfl ?_
    · exact al1 w _ _ _
    · exact ⟨_, rfl, ((((Below.refl _ w).alloc (Nat.le_refl _) _).alloc (by simp) _).alloc (by simp; omega) _).drew⟩
set_option maxHeartbeats 1000000 in
set_option maxRecDepth 100000 in
theorem refCommit_any (n : Int) (hn : 0 ≤ n) (hc : n ≤ c) (h1 : Sm W) (h2 : Sm n) : Calls Try.prog 64 #[rgV sz ch fi W R S L c t (.slice ma ml mc), .int .i64 n] w fun e w' => ∃ k, e = .returned (.tuple #[rgV sz ch fi (W + n) R S L (-1) t (.slice ma ml mc), k]) ∧ Below w.heap.size w w' := by
  have hn' : ¬ n < 0 := by omega
  have hc' : ¬ c < 0 := by omega
  have hc2 : ¬ c < n := by omega
  obtain ⟨a1, b1⟩ := h1
  obtain ⟨a2, b2⟩ := h2
  have e1 : IntKind.i64.wrap (W + n) = W + n := by rw [IntKind.wrap_i64]; omega
  go_enter Try.func64, Try.ntmps64
  go_wp2_with fail
  refine bodyPost_ret (results_cell_tmp_row rfl _ _ (w.heap.size + 1) (rgC sz ch fi (W + n) R S L (-1) t (.slice ma ml mc)) rfl ?_ rfl) rfl ?_
  · exact al2b w _ _
  · exact ⟨⟨_, rfl⟩, ((Below.refl _ w).alloc (Nat.le_refl _) _).alloc (by simp) _⟩
set_option maxHeartbeats 1000000 in
set_option maxRecDepth 100000 in
theorem refDone_any (n : Int) (hn : 0 ≤ n) (hc : n ≤ t) (h1 : Sm R) (h2 : Sm n) : Calls Try.prog 68 #[rgV sz ch fi W R S L c t (.slice ma ml mc), .int .i64 n] w fun e w' => ∃ k, e = .returned (.tuple #[rgV sz ch fi W (R + n) S L c (-1) (.slice ma ml mc), k]) ∧ Below w.heap.size w w' := by
  have hn' : ¬ n < 0 := by omega
  have hc' : ¬ t < 0 := by omega
  have hc2 : ¬ t < n := by omega
  obtain ⟨a1, b1⟩ := h1
  obtain ⟨a2, b2⟩ := h2
  have e1 : IntKind.i64.wrap (R + n) = R + n := by rw [IntKind.wrap_i64]; omega
  go_enter Try.func68, Try.ntmps68
  go_wp2_with fail
  refine bodyPost_ret (results_cell_tmp_row rfl _ _ (w.heap.size + 1) (rgC sz ch fi W (R + n) S L c (-1) (.slice ma ml mc)) rfl ?_ rfl) rfl ?_
  · exact al2b w _ _
  · exact ⟨⟨_, rfl⟩, ((Below.refl _ w).alloc (Nat.le_refl _) _).alloc (by simp) _⟩
end Go.Proofs.Ytgcohmlapgnbdaa
