/- Bits, Level, Sample, Size: the program's. -/
import Derived.Test.YtegomicpolnpoaaSE
import Derived.RangeFuncNested
import Derived.Test.YtegomicpolnpoaaNB
import Derived.RangeFuncCalls
import Derived.Shelf.Abstract
namespace Go.Proofs.Ytegomicpolnpoaa
open Go.RowKit Go.Shelf

/-- The cell of a boxed variable. -/
abbrev at0 (B : Nat) : Value := .pointer (some ⟨B, 0, none⟩)
/-- What a builder gives: a number. -/
abbrev isV (v : Value) : Value → World → Prop := fun u _ => u = v

theorem topN8 : topN 8 = 127 := by simp only [topN]
theorem topN16 : topN 16 = 32767 := by simp only [topN]
theorem topN24 : topN 24 = 8388607 := by simp only [topN]
theorem topN32 : topN 32 = 2147483647 := by simp only [topN]
theorem top_any {e : Nat} (h1 : 1 ≤ e) (h8 : e ≤ 8) (w : World) : Calls Try.prog 58 #[.int .i64 (bitsN e)] w fun x w' => x = .returned (.int .i64 (topN (bitsN e))) ∧ w = w' :=
  four h1 h8 (p := fun k => Calls Try.prog 58 #[.int .i64 k] w fun x w' => x = .returned (.int .i64 (topN k)) ∧ w = w') (by rw [topN8]; exact top_8 w) (by rw [topN16]; exact top_16 w) (by rw [topN24]; exact top_24 w) (by rw [topN32]; exact top_32 w)

set_option maxRecDepth 100000 in
theorem bits1_yes {e : Nat} (h1 : 1 ≤ e) (h8 : e ≤ 8) (B : Nat) (w : World) (hc : w.cell? ⟨B, 0, none⟩ = some (.int .i64 e)) : Calls Try.prog 50 #[at0 B] w (Gives (isV (.int .i64 (bitsN e))) w) := by
  have hcd := coder_any h1 h8 w
  obtain ⟨m, hm, hcf, hrun⟩ := isCd h1 h8
  have HRUN := Lib.hid (hrun w)
  unfold cdv at hcd
  generalize cdT e = T at *
  generalize cdX e = X at *
  generalize bitsN e = N at *
  clear hrun
  go_enter Try.func50, Try.ntmps50
  go_wp2_with (go_at_call 51; (with_reducible refine hcd.mono ?_); rintro e w1 ⟨rfl, rfl⟩)
  refine HRUN.out.mono ?_
  rintro x w1 ⟨rfl, hb⟩
  have HB := Lib.hid hb
  clear hb hm hcf hc
  go_wp2_with fail
  go_ret
  exact ⟨_, rfl, rfl, HB.out⟩
set_option maxRecDepth 100000 in
theorem bits1_no {n : Int} (h : encB n = false) (B : Nat) (w : World) (hc : w.cell? ⟨B, 0, none⟩ = some (.int .i64 n)) : Calls Try.prog 50 #[at0 B] w (LeavesX 7 w) := by
  have hcd := coder_no h w
  clear h
  go_enter Try.func50, Try.ntmps50
  go_wp2_with (go_at_call 51; (with_reducible refine hcd.mono ?_); rintro e w1 ⟨rfl, rfl⟩)
  exact ⟨rfl, rfl, Below.refl _ _⟩

theorem makes (fn : Fn) (first cap : Array Value) (w : World) : (Instr.makeFunc fn first cap).run Try.prog w = .ok (.func fn first cap) w := rfl

set_option maxRecDepth 100000 in
theorem bits_yes {e : Nat} (h1 : 1 ≤ e) (h8 : e ≤ 8) (w : World) : Calls Try.prog 10 #[.int .i64 e] w (IntAns w (bitsN e) 0) := by
  have hmf := makes
  obtain ⟨X, hX⟩ : ∃ X, Obj.cells #[.int .i64 (e : Int)] 3 = X := ⟨_, rfl⟩
  have hbel : Below w.heap.size w (w.alloc X) := (Below.refl _ w).alloc (Nat.le_refl _) _
  have ce : ∀ Z, ((w.alloc X).alloc Z).cell? ⟨w.heap.size, 0, none⟩ = some (.int .i64 e) := fun Z => by
    refine (Same.alloc _ Z).cell ?_; rw [← hX]; simp [go_sem]
  have hf := fitted49_ok 50 #[at0 w.heap.size] (w.alloc X) (isV (.int .i64 (bitsN e))) (fun _ _ _ _ h => h) (enters_of Try.func50 (by kernel_rfl) rfl _) (bits1_yes h1 h8 _ _ (ce _))
  subst hX
  have HBL := Lib.hid hbel
  clear hbel ce
  go_enter Try.func10, Try.ntmps10
  go_wp2_with (go_at_call 49; (with_reducible refine hf.mono ?_); rintro e w1 ⟨u, rfl, rfl, hb1⟩)
  go_ret2
  exact ⟨rfl, HBL.out.trans (hb1.mono HBL.out.size)⟩
set_option maxRecDepth 100000 in
theorem bits_no {n : Int} (h : encB n = false) (w : World) : Calls Try.prog 10 #[.int .i64 n] w (IntAns w 0 7) := by
  have hmf := makes
  obtain ⟨X, hX⟩ : ∃ X, Obj.cells #[.int .i64 n] 3 = X := ⟨_, rfl⟩
  have hbel : Below w.heap.size w (w.alloc X) := (Below.refl _ w).alloc (Nat.le_refl _) _
  have ce : ∀ Z, ((w.alloc X).alloc Z).cell? ⟨w.heap.size, 0, none⟩ = some (.int .i64 n) := fun Z => by
    refine (Same.alloc _ Z).cell ?_; rw [← hX]; simp [go_sem]
  have hf := fitted49_no 50 #[at0 w.heap.size] 7 (w.alloc X) (enters_of Try.func50 (by kernel_rfl) rfl _) (bits1_no h _ _ (ce _))
  subst hX
  have HBL := Lib.hid hbel
  clear hbel ce h
  go_enter Try.func10, Try.ntmps10
  go_wp2_with (go_at_call 49; (with_reducible refine hf.mono ?_); rintro e w1 ⟨rfl, hb1⟩)
  go_ret2
  exact ⟨rfl, HBL.out.trans (hb1.mono HBL.out.size)⟩

set_option maxRecDepth 100000 in
theorem level1_yes {e : Nat} (h1 : 1 ≤ e) (h8 : e ≤ 8) {s : Int} (h : okS s) (B C : Nat) (w : World) (hc : w.cell? ⟨B, 0, none⟩ = some (.int .i64 e)) (hc2 : w.cell? ⟨C, 0, none⟩ = some (.int .i64 s)) :
    Calls Try.prog 52 #[at0 B, at0 C] w (Gives (isV (.int .i64 (lvl (bitsN e) s))) w) := by
  have hcd := coder_any h1 h8 w
  have hl := levelOf_any h1 h8 s w (by unfold okS at h; omega) (by unfold okS at h; omega)
  have hw := within_any s 8388607 w (by decide) (by decide)
  rw [show (decide (-8388607 ≤ s) && decide (s ≤ 8388607)) = true by unfold okS at h; simp; omega] at hw
  have hmu := must_yes 7 w
  generalize lvl (bitsN e) s = L at *
  have hone : ∃ T X, cdv e = .iface T X := ⟨_, _, rfl⟩
  obtain ⟨T, X, hTX⟩ := hone
  rw [hTX] at hcd hl
  clear h hTX
  go_enter Try.func52, Try.ntmps52
  go_wp2_with (first
    | (go_at_call 51; (with_reducible refine hcd.mono ?_); rintro e w1 ⟨rfl, rfl⟩)
    | (go_at_call 54; (with_reducible refine hw.mono ?_); rintro e w1 ⟨rfl, rfl⟩)
    | (go_at_call 53; (with_reducible refine hmu.mono ?_); rintro e w1 ⟨rfl, rfl⟩)
    | (go_at_call 55; (with_reducible refine hl.mono ?_); rintro e w1 ⟨rfl, hb⟩; have HB := Lib.hid hb; clear hb))
  go_ret
  exact ⟨_, rfl, rfl, HB.out⟩
set_option maxRecDepth 100000 in
theorem level1_no {n s : Int} (h : (encB n && (decide (-8388607 ≤ s) && decide (s ≤ 8388607))) = false) (B C : Nat) (w : World) (hc : w.cell? ⟨B, 0, none⟩ = some (.int .i64 n)) (hc2 : w.cell? ⟨C, 0, none⟩ = some (.int .i64 s)) :
    Calls Try.prog 52 #[at0 B, at0 C] w (LeavesX 7 w) := by
  cases hn : encB n with
  | false =>
    have hcd := coder_no hn w
    clear h hn
    go_enter Try.func52, Try.ntmps52
    go_wp2_with (go_at_call 51; (with_reducible refine hcd.mono ?_); rintro e w1 ⟨rfl, rfl⟩)
    exact ⟨rfl, rfl, Below.refl _ _⟩
  | true =>
    obtain ⟨a1, a2⟩ := encB_t hn
    obtain ⟨e, rfl⟩ : ∃ e : Nat, n = e := ⟨n.toNat, by omega⟩
    have hcd := coder_any (e := e) (by omega) (by omega) w
    have hw := within_any s 8388607 w (by decide) (by decide)
    rw [hn, Bool.true_and] at h
    rw [h] at hw
    have hmu := must_no 7 w
    have hone : ∃ T X, cdv e = .iface T X := ⟨_, _, rfl⟩
    obtain ⟨T, X, hTX⟩ := hone
    rw [hTX] at hcd
    clear h hn hTX
    go_enter Try.func52, Try.ntmps52
    go_wp2_with (first
      | (go_at_call 51; (with_reducible refine hcd.mono ?_); rintro e w1 ⟨rfl, rfl⟩)
      | (go_at_call 54; (with_reducible refine hw.mono ?_); rintro e w1 ⟨rfl, rfl⟩)
      | (go_at_call 53; (with_reducible refine hmu.mono ?_); rintro e w1 ⟨rfl, rfl⟩))
    exact ⟨rfl, rfl, Below.refl _ _⟩
set_option maxRecDepth 100000 in
set_option maxHeartbeats 1000000 in
theorem sample1_yes {e : Nat} (h1 : 1 ≤ e) (h8 : e ≤ 8) {s : Int} (h : okL e s) (B C : Nat) (w : World) (hc : w.cell? ⟨B, 0, none⟩ = some (.int .i64 e)) (hc2 : w.cell? ⟨C, 0, none⟩ = some (.int .i64 s)) :
    Calls Try.prog 57 #[at0 B, at0 C] w (Gives (isV (.int .i64 (smp (bitsN e) s))) w) := by
  have hcd := coder_any h1 h8 w
  have htb := topN_bd h1 h8
  have hl := fun w => sampleOf_any h1 h8 s w (by unfold okL at h; omega) (by unfold okL at h; omega)
  have ht := fun w => top_any h1 h8 w
  have hw := fun w => within_any s (topN (bitsN e)) w (by omega) (by omega)
  rw [show (decide (-topN (bitsN e) ≤ s) && decide (s ≤ topN (bitsN e))) = true by unfold okL at h; simp; omega] at hw
  obtain ⟨m, hm, hcf, hrun⟩ := isCd h1 h8
  unfold cdv at hcd hl
  generalize smp (bitsN e) s = L at *
  generalize cdT e = T at *
  generalize cdX e = X at *
  generalize topN (bitsN e) = K at *
  generalize bitsN e = N at *
  have HRUN : Hid (∀ x, Below w.heap.size w x → Calls Try.prog m #[X] x fun e w' => e = .returned (.int .i64 N) ∧ Below w.heap.size w w') := Lib.hid fun x hx => (hrun x).mono fun e w' ⟨h1, h2⟩ => ⟨h1, Below.then hx (Nat.le_refl _) h2⟩
  have HT := Lib.hid ht
  have HW := Lib.hid hw
  have HL := Lib.hid hl
  have HMU := Lib.hid (must_yes 7)
  have HS : Hid (∀ wx : World, Below w.heap.size w wx → wx.cell? ⟨C, 0, none⟩ = some (.int .i64 s) ∧ Below w.heap.size w wx) := Lib.hid fun wx h => ⟨(Same.of_below h).cell hc2, h⟩
  clear hrun ht hw h htb hl
  go_enter Try.func57, Try.ntmps57
  go_wp2_with (go_at_call 51; (with_reducible refine hcd.mono ?_); rintro e w1 ⟨rfl, rfl⟩)
  clear hc hc2
  go_region_held3 (fun wx => wx.cell? ⟨C, 0, none⟩ = some (.int .i64 s) ∧ Below w.heap.size w wx)
    (first
      | with_reducible exact HS.out _ (Below.refl _ _).drew
      | (go_split_ands; with_reducible exact HS.out _ (by assumption))
      | with_reducible exact HS.out _ hk)
    (first
      | (go_at_call 58; (with_reducible refine (HT.out _).mono ?_); rintro e w1 ⟨rfl, rfl⟩)
      | (go_at_call 54; (with_reducible refine (HW.out _).mono ?_); rintro e w1 ⟨rfl, rfl⟩)
      | (go_at_call 53; (with_reducible refine (HMU.out _).mono ?_); rintro e w1 ⟨rfl, rfl⟩)
      | ((with_reducible refine (HRUN.out _ (by go_split_ands; assumption)).mono ?_); rintro e wk ⟨rfl, hk⟩))
  all_goals
    go_split_ands
    go_wp2_with (go_at_call 59; (with_reducible refine (HL.out _).mono ?_); rintro e w2 ⟨rfl, hb2⟩; have HB2 := Lib.hid hb2; clear hb2)
    go_ret
    exact ⟨_, rfl, rfl, Below.then (by assumption) (Nat.le_refl _) HB2.out⟩
set_option maxRecDepth 100000 in
set_option maxHeartbeats 1000000 in
theorem sample1_bad {e : Nat} (h1 : 1 ≤ e) (h8 : e ≤ 8) {s : Int} (h : ¬ okL e s) (B C : Nat) (w : World) (hc : w.cell? ⟨B, 0, none⟩ = some (.int .i64 e)) (hc2 : w.cell? ⟨C, 0, none⟩ = some (.int .i64 s)) :
    Calls Try.prog 57 #[at0 B, at0 C] w (LeavesX 7 w) := by
  have hcd := coder_any h1 h8 w
  have htb := topN_bd h1 h8
  have ht := fun w => top_any h1 h8 w
  have hw := fun w => within_any s (topN (bitsN e)) w (by omega) (by omega)
  rw [show (decide (-topN (bitsN e) ≤ s) && decide (s ≤ topN (bitsN e))) = false by unfold okL at h; simp; omega] at hw
  obtain ⟨m, hm, hcf, hrun⟩ := isCd h1 h8
  unfold cdv at hcd
  generalize cdT e = T at *
  generalize cdX e = X at *
  generalize topN (bitsN e) = K at *
  generalize bitsN e = N at *
  have HRUN : Hid (∀ x, Below w.heap.size w x → Calls Try.prog m #[X] x fun e w' => e = .returned (.int .i64 N) ∧ Below w.heap.size w w') := Lib.hid fun x hx => (hrun x).mono fun e w' ⟨h1, h2⟩ => ⟨h1, Below.then hx (Nat.le_refl _) h2⟩
  have HT := Lib.hid ht
  have HW := Lib.hid hw
  have HMU := Lib.hid (must_no 7)
  have HS : Hid (∀ wx : World, Below w.heap.size w wx → wx.cell? ⟨C, 0, none⟩ = some (.int .i64 s) ∧ Below w.heap.size w wx) := Lib.hid fun wx h => ⟨(Same.of_below h).cell hc2, h⟩
  clear hrun ht hw h htb
  go_enter Try.func57, Try.ntmps57
  go_wp2_with (go_at_call 51; (with_reducible refine hcd.mono ?_); rintro e w1 ⟨rfl, rfl⟩)
  clear hc hc2
  refine region_T (S := fun wx => wx.cell? ⟨C, 0, none⟩ = some (.int .i64 s) ∧ Below w.heap.size w wx) [5] (by kernel_rfl) (HS.out _ (Below.refl _ _).drew) (fun _ => ?_)
  have hS0 := HS.out _ (Below.drew (Below.refl w.heap.size w))
  obtain ⟨W, hW⟩ : ∃ W, w.drew = W := ⟨_, rfl⟩
  rw [hW] at hS0 ⊢
  clear hW
  refine anyT_take (i := 0) (v := ?_) rfl (by kernel_rfl) (by kernel_rfl) (by kernel_rfl) (by kernel_rfl) (fun _ _ _ h => h) (Or.inl ⟨by rfl, ?_⟩) (by assumption) ?_
  rotate_left
  focus ((intro wq hSw; (try dsimp only at hSw); go_simp); try with_reducible rfl)
  try simp only [Act.put, List.setIfInBounds_toArray, List.set_cons_zero, List.set_cons_succ]
  refine anyT_one (i := 1) (by kernel_rfl) rfl (fun K hK => ?_)
  go_simp
  refine hK.out _ _ (fun _ => hS0) ?_
  clear hK K
  try simp only [Act.put, List.setIfInBounds_toArray, List.set_cons_zero, List.set_cons_succ]
  refine anyT_one (i := 2) (by kernel_rfl) rfl (fun K hK => ?_)
  go_simp
  refine (HRUN.out _ hS0.2).mono ?_
  rintro e wk ⟨rfl, hk⟩
  go_simp
  refine hK.out _ _ (fun _ => HS.out _ hk) ?_
  clear hK K
  try simp only [Act.put, List.setIfInBounds_toArray, List.set_cons_zero, List.set_cons_succ]
  refine anyT_one (i := 3) (by kernel_rfl) rfl (fun K hK => ?_)
  go_simp
  refine (HT.out _).mono ?_
  rintro e w1 ⟨rfl, rfl⟩
  go_simp
  refine hK.out _ _ (fun _ => HS.out _ hk) ?_
  clear hK K
  try simp only [Act.put, List.setIfInBounds_toArray, List.set_cons_zero, List.set_cons_succ]
  refine anyT_one (i := 4) (by kernel_rfl) rfl (fun K hK => ?_)
  go_simp
  refine (HW.out _).mono ?_
  rintro e w1 ⟨rfl, rfl⟩
  go_simp
  refine hK.out _ _ (fun _ => HS.out _ hk) ?_
  clear hK K
  try simp only [Act.put, List.setIfInBounds_toArray, List.set_cons_zero, List.set_cons_succ]
  refine anyT_one (i := 5) (by kernel_rfl) rfl (fun K hK => ?_)
  go_simp
  refine (HMU.out _).mono ?_
  rintro e w1 ⟨rfl, rfl⟩
  exact ⟨rfl, rfl, hk⟩
set_option maxRecDepth 100000 in
theorem sample1_no {n s : Int} (h : encB n = false) (B C : Nat) (w : World) (hc : w.cell? ⟨B, 0, none⟩ = some (.int .i64 n)) : Calls Try.prog 57 #[at0 B, at0 C] w (LeavesX 7 w) := by
  have hcd := coder_no h w
  clear h
  go_enter Try.func57, Try.ntmps57
  go_wp2_with (go_at_call 51; (with_reducible refine hcd.mono ?_); rintro e w1 ⟨rfl, rfl⟩)
  exact ⟨rfl, rfl, Below.refl _ _⟩
end Go.Proofs.Ytegomicpolnpoaa
namespace Go.Proofs.Ytegomicpolnpoaa
open Go.RowKit Go.Shelf

theorem ch_any (n : Int) (w : World) : Calls Try.prog 62 #[.int .i64 n] w fun e w' => e = .returned (.bool (encB n)) ∧ w = w' := by
  by_cases h1 : 1 ≤ n
  · by_cases h2 : n ≤ 8
    · rw [show encB n = true by simp [encB, h1, h2]]
      go_enter Try.func62, Try.ntmps62
      go_wp2_with fail
      go_ret
      exact ⟨rfl, rfl⟩
    · rw [show encB n = false by simp [encB, h2]]
      go_enter Try.func62, Try.ntmps62
      go_wp2_with fail
      go_ret
      exact ⟨rfl, rfl⟩
  · rw [show encB n = false by simp [encB, h1]]
    go_enter Try.func62, Try.ntmps62
    go_wp2_with fail
    go_ret
    exact ⟨rfl, rfl⟩
theorem fr_any (n : Int) (w : World) : Calls Try.prog 63 #[.int .i64 n] w fun e w' => e = .returned (.bool (frB n)) ∧ w = w' := by
  by_cases h1 : 0 ≤ n
  · by_cases h2 : n ≤ 4096
    · rw [show frB n = true by simp [frB, h1, h2]]
      go_enter Try.func63, Try.ntmps63
      go_wp2_with fail
      go_ret
      exact ⟨rfl, rfl⟩
    · rw [show frB n = false by simp [frB, h2]]
      go_enter Try.func63, Try.ntmps63
      go_wp2_with fail
      go_ret
      exact ⟨rfl, rfl⟩
  · rw [show frB n = false by simp [frB, h1]]
    go_enter Try.func63, Try.ntmps63
    go_wp2_with fail
    go_ret
    exact ⟨rfl, rfl⟩

set_option maxRecDepth 100000 in
set_option maxHeartbeats 1000000 in
theorem size1_yes {e : Nat} (h1 : 1 ≤ e) (h8 : e ≤ 8) {c f : Int} (hc : encB c = true) (hf : frB f = true) (B C D : Nat) (w : World) (k0 : w.cell? ⟨B, 0, none⟩ = some (.int .i64 e)) (k1 : w.cell? ⟨C, 0, none⟩ = some (.int .i64 c)) (k2 : w.cell? ⟨D, 0, none⟩ = some (.int .i64 f)) :
    Calls Try.prog 61 #[at0 B, at0 C, at0 D] w (Gives (isV (.int .i64 (sizeN e c f))) w) := by
  have hcd := coder_any h1 h8 w
  have hch := ch_any c w
  have hfr := fr_any f w
  have hmu := must_yes 7 w
  rw [hc] at hch
  rw [hf] at hfr
  obtain ⟨c1, c2⟩ := encB_t hc
  obtain ⟨f1, f2⟩ := frB_t hf
  have hwd := width_any h1 h8
  have hW4 : (((e + 1) / 2 : Nat) : Int) ≤ 4 := by omega
  unfold sizeN
  have hone : ∃ T X, cdv e = .iface T X := ⟨_, _, rfl⟩
  obtain ⟨T, X, hTX⟩ := hone
  rw [hTX] at hcd hwd
  generalize (e + 1) / 2 = N at *
  have m1 := prod_bd (a := c) (b := f) (A := 8) (B := 4096) (by omega) c2 f1 f2
  have m2 := prod_bd (a := c * f) (b := (N : Int)) (A := 8 * 4096) (B := 4) m1.1 m1.2 (by omega) hW4
  have HM : Hid (IntKind.i64.wrap (c * f) = c * f ∧ IntKind.i64.wrap (c * f * N) = c * f * N) := Lib.hid ⟨IntWalk.i64_in _ (by omega), IntWalk.i64_in _ (by omega)⟩
  have HWD : Hid (∀ x, Below w.heap.size w x → Calls Try.prog 64 #[.iface T X] x fun e w' => e = .returned (.int .i64 N) ∧ Below w.heap.size w w') := Lib.hid fun x hx => (hwd x).mono fun e w' ⟨h1, h2⟩ => ⟨h1, Below.then hx (Nat.le_refl _) h2⟩
  have HS : Hid (∀ wx : World, Below w.heap.size w wx → wx.cell? ⟨C, 0, none⟩ = some (.int .i64 c) ∧ wx.cell? ⟨D, 0, none⟩ = some (.int .i64 f) ∧ Below w.heap.size w wx) := Lib.hid fun wx h => ⟨(Same.of_below h).cell k1, (Same.of_below h).cell k2, h⟩
  clear hwd hTX m1 m2 hc hf
  go_enter Try.func61, Try.ntmps61
  go_upto_region 3 with (first
    | (go_at_call 51; (with_reducible refine hcd.mono ?_); rintro e w1 ⟨rfl, rfl⟩)
    | (go_at_call 62; (with_reducible refine hch.mono ?_); rintro e w1 ⟨rfl, rfl⟩)
    | (go_at_call 63; (with_reducible refine hfr.mono ?_); rintro e w1 ⟨rfl, rfl⟩)
    | (go_at_call 53; (with_reducible refine hmu.mono ?_); rintro e w1 ⟨rfl, rfl⟩))
  clear k0 k1 k2 hcd hch hfr hmu
  obtain ⟨q1, q2⟩ := HM.out
  go_region_held3 (fun wx => wx.cell? ⟨C, 0, none⟩ = some (.int .i64 c) ∧ wx.cell? ⟨D, 0, none⟩ = some (.int .i64 f) ∧ Below w.heap.size w wx)
    (first
      | with_reducible exact HS.out _ (Below.refl _ _).drew
      | (go_split_ands; with_reducible exact HS.out _ (by assumption))
      | with_reducible exact HS.out _ hk)
    ((go_at_call 64; (with_reducible refine (HWD.out _ (by go_split_ands; assumption)).mono ?_); rintro e wk ⟨rfl, hk⟩))
  all_goals
    go_split_ands
    clear q1 q2
    go_wp2_with fail
    go_ret
    exact ⟨_, rfl, rfl, by assumption⟩
set_option maxRecDepth 100000 in
theorem size1_no {n c f : Int} (h : (encB n && (encB c && frB f)) = false) (B C D : Nat) (w : World) (k0 : w.cell? ⟨B, 0, none⟩ = some (.int .i64 n)) (k1 : w.cell? ⟨C, 0, none⟩ = some (.int .i64 c)) (k2 : w.cell? ⟨D, 0, none⟩ = some (.int .i64 f)) :
    Calls Try.prog 61 #[at0 B, at0 C, at0 D] w (LeavesX 7 w) := by
  cases hn : encB n with
  | false =>
    have hcd := coder_no hn w
    clear h hn
    go_enter Try.func61, Try.ntmps61
    go_wp2_with (go_at_call 51; (with_reducible refine hcd.mono ?_); rintro e w1 ⟨rfl, rfl⟩)
    exact ⟨rfl, rfl, Below.refl _ _⟩
  | true =>
    obtain ⟨a1, a2⟩ := encB_t hn
    obtain ⟨e, rfl⟩ : ∃ e : Nat, n = e := ⟨n.toNat, by omega⟩
    have hcd := coder_any (e := e) (by omega) (by omega) w
    rw [hn, Bool.true_and] at h
    have hch := ch_any c w
    have hfr := fr_any f w
    have hmu := must_no 7 w
    have hone : ∃ T X, cdv e = .iface T X := ⟨_, _, rfl⟩
    obtain ⟨T, X, hTX⟩ := hone
    rw [hTX] at hcd
    cases h3 : encB c with
    | false =>
      rw [h3] at hch
      clear h hn hTX h3
      go_enter Try.func61, Try.ntmps61
      go_wp2_with (first
        | (go_at_call 51; (with_reducible refine hcd.mono ?_); rintro e w1 ⟨rfl, rfl⟩)
        | (go_at_call 62; (with_reducible refine hch.mono ?_); rintro e w1 ⟨rfl, rfl⟩)
        | (go_at_call 53; (with_reducible refine hmu.mono ?_); rintro e w1 ⟨rfl, rfl⟩))
      exact ⟨rfl, rfl, Below.refl _ _⟩
    | true =>
      rw [h3, Bool.true_and] at h
      rw [h3] at hch
      rw [h] at hfr
      clear h hn hTX h3
      go_enter Try.func61, Try.ntmps61
      go_wp2_with (first
        | (go_at_call 51; (with_reducible refine hcd.mono ?_); rintro e w1 ⟨rfl, rfl⟩)
        | (go_at_call 62; (with_reducible refine hch.mono ?_); rintro e w1 ⟨rfl, rfl⟩)
        | (go_at_call 63; (with_reducible refine hfr.mono ?_); rintro e w1 ⟨rfl, rfl⟩)
        | (go_at_call 53; (with_reducible refine hmu.mono ?_); rintro e w1 ⟨rfl, rfl⟩))
      exact ⟨rfl, rfl, Below.refl _ _⟩
set_option maxRecDepth 100000 in
theorem level_yes {e : Nat} (h1 : 1 ≤ e) (h8 : e ≤ 8) {s : Int} (h : okS s) (w : World) : Calls Try.prog 12 #[.int .i64 e, .int .i64 s] w (IntAns w (lvl (bitsN e) s) 0) := by
  have hmf := makes
  obtain ⟨X, hX⟩ : ∃ X, Obj.cells #[.int .i64 (e : Int)] 3 = X := ⟨_, rfl⟩
  obtain ⟨Y, hY⟩ : ∃ Y, Obj.cells #[.int .i64 s] 3 = Y := ⟨_, rfl⟩
  have hbel : Below w.heap.size w ((w.alloc X).alloc Y) := ((Below.refl _ w).alloc (Nat.le_refl _) _).alloc (by simp) _
  have c0 : ∀ Z, (((w.alloc X).alloc Y).alloc Z).cell? ⟨w.heap.size, 0, none⟩ = some (.int .i64 e) := fun Z => by
    refine (Same.alloc _ Z).cell ((Same.alloc _ Y).cell ?_); rw [← hX]; simp [go_sem]
  have c1 : ∀ Z, (((w.alloc X).alloc Y).alloc Z).cell? ⟨w.heap.size + 1, 0, none⟩ = some (.int .i64 s) := fun Z => by
    refine (Same.alloc _ Z).cell ?_; rw [← hY]; simp [go_sem]
  have hf := fitted49_ok 52 #[at0 w.heap.size, at0 (w.heap.size + 1)] ((w.alloc X).alloc Y) (isV (.int .i64 (lvl (bitsN e) s))) (fun _ _ _ _ h => h) (enters_of Try.func52 (by kernel_rfl) rfl _) (level1_yes h1 h8 h _ _ _ (c0 _) (c1 _))
  subst hX
  subst hY
  have HBL := Lib.hid hbel
  clear hbel c0 c1 h
  go_enter Try.func12, Try.ntmps12
  go_wp2_with (go_at_call 49; (with_reducible refine hf.mono ?_); rintro e w1 ⟨u, rfl, rfl, hb1⟩)
  go_ret2
  exact ⟨rfl, HBL.out.trans (hb1.mono HBL.out.size)⟩
set_option maxRecDepth 100000 in
theorem level_no {n s : Int} (h : (encB n && (decide (-8388607 ≤ s) && decide (s ≤ 8388607))) = false) (w : World) : Calls Try.prog 12 #[.int .i64 n, .int .i64 s] w (IntAns w 0 7) := by
  have hmf := makes
  obtain ⟨X, hX⟩ : ∃ X, Obj.cells #[.int .i64 (n : Int)] 3 = X := ⟨_, rfl⟩
  obtain ⟨Y, hY⟩ : ∃ Y, Obj.cells #[.int .i64 s] 3 = Y := ⟨_, rfl⟩
  have hbel : Below w.heap.size w ((w.alloc X).alloc Y) := ((Below.refl _ w).alloc (Nat.le_refl _) _).alloc (by simp) _
  have c0 : ∀ Z, (((w.alloc X).alloc Y).alloc Z).cell? ⟨w.heap.size, 0, none⟩ = some (.int .i64 n) := fun Z => by
    refine (Same.alloc _ Z).cell ((Same.alloc _ Y).cell ?_); rw [← hX]; simp [go_sem]
  have c1 : ∀ Z, (((w.alloc X).alloc Y).alloc Z).cell? ⟨w.heap.size + 1, 0, none⟩ = some (.int .i64 s) := fun Z => by
    refine (Same.alloc _ Z).cell ?_; rw [← hY]; simp [go_sem]
  have hf := fitted49_no 52 #[at0 w.heap.size, at0 (w.heap.size + 1)] 7 ((w.alloc X).alloc Y) (enters_of Try.func52 (by kernel_rfl) rfl _) (level1_no h _ _ _ (c0 _) (c1 _))
  subst hX
  subst hY
  have HBL := Lib.hid hbel
  clear hbel c0 c1 h
  go_enter Try.func12, Try.ntmps12
  go_wp2_with (go_at_call 49; (with_reducible refine hf.mono ?_); rintro e w1 ⟨rfl, hb1⟩)
  go_ret2
  exact ⟨rfl, HBL.out.trans (hb1.mono HBL.out.size)⟩
set_option maxRecDepth 100000 in
theorem sample_yes {e : Nat} (h1 : 1 ≤ e) (h8 : e ≤ 8) {s : Int} (h : okL e s) (w : World) : Calls Try.prog 14 #[.int .i64 e, .int .i64 s] w (IntAns w (smp (bitsN e) s) 0) := by
  have hmf := makes
  obtain ⟨X, hX⟩ : ∃ X, Obj.cells #[.int .i64 (e : Int)] 3 = X := ⟨_, rfl⟩
  obtain ⟨Y, hY⟩ : ∃ Y, Obj.cells #[.int .i64 s] 3 = Y := ⟨_, rfl⟩
  have hbel : Below w.heap.size w ((w.alloc X).alloc Y) := ((Below.refl _ w).alloc (Nat.le_refl _) _).alloc (by simp) _
  have c0 : ∀ Z, (((w.alloc X).alloc Y).alloc Z).cell? ⟨w.heap.size, 0, none⟩ = some (.int .i64 e) := fun Z => by
    refine (Same.alloc _ Z).cell ((Same.alloc _ Y).cell ?_); rw [← hX]; simp [go_sem]
  have c1 : ∀ Z, (((w.alloc X).alloc Y).alloc Z).cell? ⟨w.heap.size + 1, 0, none⟩ = some (.int .i64 s) := fun Z => by
    refine (Same.alloc _ Z).cell ?_; rw [← hY]; simp [go_sem]
  have hf := fitted49_ok 57 #[at0 w.heap.size, at0 (w.heap.size + 1)] ((w.alloc X).alloc Y) (isV (.int .i64 (smp (bitsN e) s))) (fun _ _ _ _ h => h) (enters_of Try.func57 (by kernel_rfl) rfl _) (sample1_yes h1 h8 h _ _ _ (c0 _) (c1 _))
  subst hX
  subst hY
  have HBL := Lib.hid hbel
  clear hbel c0 c1 h
  go_enter Try.func14, Try.ntmps14
  go_wp2_with (go_at_call 49; (with_reducible refine hf.mono ?_); rintro e w1 ⟨u, rfl, rfl, hb1⟩)
  go_ret2
  exact ⟨rfl, HBL.out.trans (hb1.mono HBL.out.size)⟩
set_option maxRecDepth 100000 in
theorem sample_bad {e : Nat} (h1 : 1 ≤ e) (h8 : e ≤ 8) {s : Int} (h : ¬ okL e s) (w : World) : Calls Try.prog 14 #[.int .i64 e, .int .i64 s] w (IntAns w 0 7) := by
  have hmf := makes
  obtain ⟨X, hX⟩ : ∃ X, Obj.cells #[.int .i64 (e : Int)] 3 = X := ⟨_, rfl⟩
  obtain ⟨Y, hY⟩ : ∃ Y, Obj.cells #[.int .i64 s] 3 = Y := ⟨_, rfl⟩
  have hbel : Below w.heap.size w ((w.alloc X).alloc Y) := ((Below.refl _ w).alloc (Nat.le_refl _) _).alloc (by simp) _
  have c0 : ∀ Z, (((w.alloc X).alloc Y).alloc Z).cell? ⟨w.heap.size, 0, none⟩ = some (.int .i64 e) := fun Z => by
    refine (Same.alloc _ Z).cell ((Same.alloc _ Y).cell ?_); rw [← hX]; simp [go_sem]
  have c1 : ∀ Z, (((w.alloc X).alloc Y).alloc Z).cell? ⟨w.heap.size + 1, 0, none⟩ = some (.int .i64 s) := fun Z => by
    refine (Same.alloc _ Z).cell ?_; rw [← hY]; simp [go_sem]
  have hf := fitted49_no 57 #[at0 w.heap.size, at0 (w.heap.size + 1)] 7 ((w.alloc X).alloc Y) (enters_of Try.func57 (by kernel_rfl) rfl _) (sample1_bad h1 h8 h _ _ _ (c0 _) (c1 _))
  subst hX
  subst hY
  have HBL := Lib.hid hbel
  clear hbel c0 c1 h
  go_enter Try.func14, Try.ntmps14
  go_wp2_with (go_at_call 49; (with_reducible refine hf.mono ?_); rintro e w1 ⟨rfl, hb1⟩)
  go_ret2
  exact ⟨rfl, HBL.out.trans (hb1.mono HBL.out.size)⟩
set_option maxRecDepth 100000 in
theorem sample_no {n s : Int} (h : encB n = false) (w : World) : Calls Try.prog 14 #[.int .i64 n, .int .i64 s] w (IntAns w 0 7) := by
  have hmf := makes
  obtain ⟨X, hX⟩ : ∃ X, Obj.cells #[.int .i64 (n : Int)] 3 = X := ⟨_, rfl⟩
  obtain ⟨Y, hY⟩ : ∃ Y, Obj.cells #[.int .i64 s] 3 = Y := ⟨_, rfl⟩
  have hbel : Below w.heap.size w ((w.alloc X).alloc Y) := ((Below.refl _ w).alloc (Nat.le_refl _) _).alloc (by simp) _
  have c0 : ∀ Z, (((w.alloc X).alloc Y).alloc Z).cell? ⟨w.heap.size, 0, none⟩ = some (.int .i64 n) := fun Z => by
    refine (Same.alloc _ Z).cell ((Same.alloc _ Y).cell ?_); rw [← hX]; simp [go_sem]
  have c1 : ∀ Z, (((w.alloc X).alloc Y).alloc Z).cell? ⟨w.heap.size + 1, 0, none⟩ = some (.int .i64 s) := fun Z => by
    refine (Same.alloc _ Z).cell ?_; rw [← hY]; simp [go_sem]
  have hf := fitted49_no 57 #[at0 w.heap.size, at0 (w.heap.size + 1)] 7 ((w.alloc X).alloc Y) (enters_of Try.func57 (by kernel_rfl) rfl _) (sample1_no (s := s) h _ _ _ (c0 _))
  subst hX
  subst hY
  have HBL := Lib.hid hbel
  clear hbel c0 c1 h
  go_enter Try.func14, Try.ntmps14
  go_wp2_with (go_at_call 49; (with_reducible refine hf.mono ?_); rintro e w1 ⟨rfl, hb1⟩)
  go_ret2
  exact ⟨rfl, HBL.out.trans (hb1.mono HBL.out.size)⟩
set_option maxRecDepth 100000 in
theorem size_yes {e : Nat} (h1 : 1 ≤ e) (h8 : e ≤ 8) {c f : Int} (hc : encB c = true) (hF : frB f = true) (w : World) : Calls Try.prog 16 #[.int .i64 e, .int .i64 c, .int .i64 f] w (IntAns w (sizeN e c f) 0) := by
  have hmf := makes
  obtain ⟨X, hX⟩ : ∃ X, Obj.cells #[.int .i64 (e : Int)] 3 = X := ⟨_, rfl⟩
  obtain ⟨Y, hY⟩ : ∃ Y, Obj.cells #[.int .i64 c] 3 = Y := ⟨_, rfl⟩
  obtain ⟨V, hV⟩ : ∃ V, Obj.cells #[.int .i64 f] 3 = V := ⟨_, rfl⟩
  have hbel : Below w.heap.size w (((w.alloc X).alloc Y).alloc V) := (((Below.refl _ w).alloc (Nat.le_refl _) _).alloc (by simp) _).alloc (by simp <;> omega) _
  have c0 : ∀ Z, ((((w.alloc X).alloc Y).alloc V).alloc Z).cell? ⟨w.heap.size, 0, none⟩ = some (.int .i64 e) := fun Z => by
    refine (Same.alloc _ Z).cell ((Same.alloc _ V).cell ((Same.alloc _ Y).cell ?_)); rw [← hX]; simp [go_sem]
  have c1 : ∀ Z, ((((w.alloc X).alloc Y).alloc V).alloc Z).cell? ⟨w.heap.size + 1, 0, none⟩ = some (.int .i64 c) := fun Z => by
    refine (Same.alloc _ Z).cell ((Same.alloc _ V).cell ?_); rw [← hY]; simp [go_sem]
  have c2 : ∀ Z, ((((w.alloc X).alloc Y).alloc V).alloc Z).cell? ⟨w.heap.size + 1 + 1, 0, none⟩ = some (.int .i64 f) := fun Z => by
    refine (Same.alloc _ Z).cell ?_; rw [← hV]; simp [go_sem]
  have hf := fitted49_ok 61 #[at0 w.heap.size, at0 (w.heap.size + 1), at0 (w.heap.size + 1 + 1)] (((w.alloc X).alloc Y).alloc V) (isV (.int .i64 (sizeN e c f))) (fun _ _ _ _ h => h) (enters_of Try.func61 (by kernel_rfl) rfl _) (size1_yes h1 h8 hc hF _ _ _ _ (c0 _) (c1 _) (c2 _))
  subst hX
  subst hY
  subst hV
  have HBL := Lib.hid hbel
  clear hbel c0 c1 c2
  clear hc hF
  go_enter Try.func16, Try.ntmps16
  go_wp2_with (go_at_call 49; (with_reducible refine hf.mono ?_); rintro e w1 ⟨u, rfl, rfl, hb1⟩)
  go_ret2
  exact ⟨rfl, HBL.out.trans (hb1.mono HBL.out.size)⟩
set_option maxRecDepth 100000 in
theorem size_no {n c f : Int} (h : (encB n && (encB c && frB f)) = false) (w : World) : Calls Try.prog 16 #[.int .i64 n, .int .i64 c, .int .i64 f] w (IntAns w 0 7) := by
  have hmf := makes
  obtain ⟨X, hX⟩ : ∃ X, Obj.cells #[.int .i64 (n : Int)] 3 = X := ⟨_, rfl⟩
  obtain ⟨Y, hY⟩ : ∃ Y, Obj.cells #[.int .i64 c] 3 = Y := ⟨_, rfl⟩
  obtain ⟨V, hV⟩ : ∃ V, Obj.cells #[.int .i64 f] 3 = V := ⟨_, rfl⟩
  have hbel : Below w.heap.size w (((w.alloc X).alloc Y).alloc V) := (((Below.refl _ w).alloc (Nat.le_refl _) _).alloc (by simp) _).alloc (by simp <;> omega) _
  have c0 : ∀ Z, ((((w.alloc X).alloc Y).alloc V).alloc Z).cell? ⟨w.heap.size, 0, none⟩ = some (.int .i64 n) := fun Z => by
    refine (Same.alloc _ Z).cell ((Same.alloc _ V).cell ((Same.alloc _ Y).cell ?_)); rw [← hX]; simp [go_sem]
  have c1 : ∀ Z, ((((w.alloc X).alloc Y).alloc V).alloc Z).cell? ⟨w.heap.size + 1, 0, none⟩ = some (.int .i64 c) := fun Z => by
    refine (Same.alloc _ Z).cell ((Same.alloc _ V).cell ?_); rw [← hY]; simp [go_sem]
  have c2 : ∀ Z, ((((w.alloc X).alloc Y).alloc V).alloc Z).cell? ⟨w.heap.size + 1 + 1, 0, none⟩ = some (.int .i64 f) := fun Z => by
    refine (Same.alloc _ Z).cell ?_; rw [← hV]; simp [go_sem]
  have hf := fitted49_no 61 #[at0 w.heap.size, at0 (w.heap.size + 1), at0 (w.heap.size + 1 + 1)] 7 (((w.alloc X).alloc Y).alloc V) (enters_of Try.func61 (by kernel_rfl) rfl _) (size1_no h _ _ _ _ (c0 _) (c1 _) (c2 _))
  subst hX
  subst hY
  subst hV
  have HBL := Lib.hid hbel
  clear hbel c0 c1 c2
  clear h
  go_enter Try.func16, Try.ntmps16
  go_wp2_with (go_at_call 49; (with_reducible refine hf.mono ?_); rintro e w1 ⟨rfl, hb1⟩)
  go_ret2
  exact ⟨rfl, HBL.out.trans (hb1.mono HBL.out.size)⟩

/-- Both sides answer alike. -/
theorem bits_both (n : Int) : ∃ a k, (∀ w, Calls Try.prog 10 #[.int .i64 n] w (IntAns w a k)) ∧ ∀ w, Calls Try.prog 11 #[.int .i64 n] w (IntAns w a k) := by
  cases h : encB n with
  | false => exact ⟨_, _, bits_no h, fun w => (refBits_no h w).mono fun e w' ⟨h1, h2⟩ => ⟨h1, by rw [← h2]; exact Below.refl _ _⟩⟩
  | true =>
    obtain ⟨h1, h2⟩ := encB_t h
    obtain ⟨e, rfl⟩ : ∃ e : Nat, n = e := ⟨n.toNat, by omega⟩
    exact ⟨_, _, bits_yes (by omega) (by omega), fun w => (refBits_yes (by omega) (by omega) w).mono fun e w' ⟨h1, h2⟩ => ⟨h1, by rw [← h2]; exact Below.refl _ _⟩⟩
theorem level_both (n s : Int) : ∃ a k, (∀ w, Calls Try.prog 12 #[.int .i64 n, .int .i64 s] w (IntAns w a k)) ∧ ∀ w, Calls Try.prog 13 #[.int .i64 n, .int .i64 s] w (IntAns w a k) := by
  cases h : encB n && (decide (-8388607 ≤ s) && decide (s ≤ 8388607)) with
  | false => exact ⟨_, _, level_no h, refLevel_no h⟩
  | true =>
    rw [Bool.and_eq_true] at h
    obtain ⟨h1, h2⟩ := encB_t h.1
    obtain ⟨e, rfl⟩ : ∃ e : Nat, n = e := ⟨n.toNat, by omega⟩
    have hs : okS s := by have := h.2; simp at this; exact this
    exact ⟨_, _, level_yes (by omega) (by omega) hs, refLevel_yes (by omega) (by omega) hs⟩
theorem sample_both (n s : Int) : ∃ a k, (∀ w, Calls Try.prog 14 #[.int .i64 n, .int .i64 s] w (IntAns w a k)) ∧ ∀ w, Calls Try.prog 15 #[.int .i64 n, .int .i64 s] w (IntAns w a k) := by
  cases h : encB n with
  | false => exact ⟨_, _, sample_no h, refSample_no (.inl h)⟩
  | true =>
    obtain ⟨h1, h2⟩ := encB_t h
    obtain ⟨e, rfl⟩ : ∃ e : Nat, n = e := ⟨n.toNat, by omega⟩
    by_cases hs : okL e s
    · exact ⟨_, _, sample_yes (by omega) (by omega) hs, refSample_yes (by omega) (by omega) hs⟩
    · exact ⟨_, _, sample_bad (by omega) (by omega) hs, refSample_no (.inr ⟨e, rfl, by omega, by omega, hs⟩)⟩
theorem size_both (n c f : Int) : ∃ a k, (∀ w, Calls Try.prog 16 #[.int .i64 n, .int .i64 c, .int .i64 f] w (IntAns w a k)) ∧ ∀ w, Calls Try.prog 17 #[.int .i64 n, .int .i64 c, .int .i64 f] w (IntAns w a k) := by
  cases h : encB n && (encB c && frB f) with
  | false => exact ⟨_, _, size_no h, refSize_no h⟩
  | true =>
    rw [Bool.and_eq_true, Bool.and_eq_true] at h
    obtain ⟨h1, h2⟩ := encB_t h.1
    obtain ⟨e, rfl⟩ : ∃ e : Nat, n = e := ⟨n.toNat, by omega⟩
    exact ⟨_, _, size_yes (by omega) (by omega) h.2.1 h.2.2, refSize_yes (by omega) (by omega) h.2.1 h.2.2⟩

set_option maxRecDepth 100000 in
set_option maxHeartbeats 1000000 in
theorem levelsLaw_any (n s c f : Int) (w : World) : Calls Try.prog 3 #[.int .i64 n, .int .i64 s, .int .i64 c, .int .i64 f] w fun e w' => e = .returned (.bool true) ∧ Below w.heap.size w w' := by
  obtain ⟨a1, k1, p1, q1⟩ := bits_both n
  obtain ⟨a2, k2, p2, q2⟩ := level_both n s
  obtain ⟨a3, k3, p3, q3⟩ := sample_both n s
  obtain ⟨a4, k4, p4, q4⟩ := size_both n c f
  have P1 := Lib.hid p1
  have Q1 := Lib.hid q1
  have P2 := Lib.hid p2
  have Q2 := Lib.hid q2
  have P3 := Lib.hid p3
  have Q3 := Lib.hid q3
  have P4 := Lib.hid p4
  have Q4 := Lib.hid q4
  clear p1 q1 p2 q2 p3 q3 p4 q4
  go_enter Try.func3, Try.ntmps3
  go_wp2_with (first
    | (go_at_call 10; (with_reducible refine (P1.out _).mono ?_); rintro e w1 ⟨rfl, b1⟩; have B1 := Lib.hid b1; clear b1)
    | (go_at_call 11; (with_reducible refine (Q1.out _).mono ?_); rintro e w2 ⟨rfl, b2⟩; have B2 := Lib.hid (Below.then B1.out (Nat.le_refl _) b2); clear b2)
    | (go_at_call 12; (with_reducible refine (P2.out _).mono ?_); rintro e w3 ⟨rfl, b3⟩; have B3 := Lib.hid (Below.then B2.out (Nat.le_refl _) b3); clear b3)
    | (go_at_call 13; (with_reducible refine (Q2.out _).mono ?_); rintro e w4 ⟨rfl, b4⟩; have B4 := Lib.hid (Below.then B3.out (Nat.le_refl _) b4); clear b4)
    | (go_at_call 14; (with_reducible refine (P3.out _).mono ?_); rintro e w5 ⟨rfl, b5⟩; have B5 := Lib.hid (Below.then B4.out (Nat.le_refl _) b5); clear b5)
    | (go_at_call 15; (with_reducible refine (Q3.out _).mono ?_); rintro e w6 ⟨rfl, b6⟩; have B6 := Lib.hid (Below.then B5.out (Nat.le_refl _) b6); clear b6)
    | (go_at_call 16; (with_reducible refine (P4.out _).mono ?_); rintro e w7 ⟨rfl, b7⟩; have B7 := Lib.hid (Below.then B6.out (Nat.le_refl _) b7); clear b7)
    | (go_at_call 17; (with_reducible refine (Q4.out _).mono ?_); rintro e w8 ⟨rfl, b8⟩; have B8 := Lib.hid (Below.then B7.out (Nat.le_refl _) b8); clear b8)
    | (go_at_call 18; (with_reducible refine (awake_any _).mono ?_); rintro e w9 ⟨rfl, b9⟩; have B9 := Lib.hid (Below.then B8.out (Nat.le_refl _) b9); clear b9))
  go_ret
  exact ⟨rfl, B9.out⟩
end Go.Proofs.Ytegomicpolnpoaa
