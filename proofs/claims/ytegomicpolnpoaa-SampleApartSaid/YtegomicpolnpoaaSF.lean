/- Bits, Level, Sample, Size: the program's. -/
import Derived.Test.YtegomicpolnpoaaSD
import Derived.Test.YtegomicpolnpoaaSE
import Derived.RangeFuncNested
import Derived.Test.YtegomicpolnpoaaNB
import Derived.RangeFuncCalls
import Derived.Shelf.Abstract
namespace Go.Proofs.Ytegomicpolnpoaa
open Go.RowKit Go.Shelf

/-- The cell of a boxed variable. -/
abbrev at0 (B : Nat) : Value := .pointer (some ⟨B, 0, none⟩)
/-- What a builder gives: a number. -/
abbrev isV (v : Value) : Value → World → Prop := fun u _ => u = v

theorem topN8 : topN 8 = 127 := by simp only [topN]
theorem topN16 : topN 16 = 32767 := by simp only [topN]
theorem topN24 : topN 24 = 8388607 := by simp only [topN]
theorem topN32 : topN 32 = 2147483647 := by simp only [topN]
theorem top_any {e : Nat} (h1 : 1 ≤ e) (h8 : e ≤ 8) (w : World) : Calls Try.prog 58 #[.int .i64 (bitsN e)] w fun x w' => x = .returned (.int .i64 (topN (bitsN e))) ∧ w = w' :=
  four h1 h8 (p := fun k => Calls Try.prog 58 #[.int .i64 k] w fun x w' => x = .returned (.int .i64 (topN k)) ∧ w = w') (by rw [topN8]; exact top_8 w) (by rw [topN16]; exact top_16 w) (by rw [topN24]; exact top_24 w) (by rw [topN32]; exact top_32 w)

set_option maxRecDepth 100000 in
theorem bits1_yes {e : Nat} (h1 : 1 ≤ e) (h8 : e ≤ 8) (B : Nat) (w : World) (hc : w.cell? ⟨B, 0, none⟩ = some (.int .i64 e)) : Calls Try.prog 50 #[at0 B] w (Gives (isV (.int .i64 (bitsN e))) w) := by
  have hcd := coder_any h1 h8 w
  obtain ⟨m, hm, hcf, hrun⟩ := isCd h1 h8
  have HRUN := Lib.hid (hrun w)
  unfold cdv at hcd
  generalize cdT e = T at *
  generalize cdX e = X at *
  generalize bitsN e = N at *
  clear hrun
  go_enter Try.func50, Try.ntmps50
  go_wp2_with (go_at_call 51; (with_reducible refine hcd.mono ?_); rintro e w1 ⟨rfl, rfl⟩)
  refine HRUN.out.mono ?_
  rintro x w1 ⟨rfl, hb⟩
  have HB := Lib.hid hb
  clear hb hm hcf hc
  go_wp2_with fail
  go_ret
  exact ⟨_, rfl, rfl, HB.out⟩
set_option maxRecDepth 100000 in
theorem bits1_no {n : Int} (h : encB n = false) (B : Nat) (w : World) (hc : w.cell? ⟨B, 0, none⟩ = some (.int .i64 n)) : Calls Try.prog 50 #[at0 B] w (LeavesX 7 w) := by
  have hcd := coder_no h w
  clear h
  go_enter Try.func50, Try.ntmps50
  go_wp2_with (go_at_call 51; (with_reducible refine hcd.mono ?_); rintro e w1 ⟨rfl, rfl⟩)
  exact ⟨rfl, rfl, Below.refl _ _⟩

theorem makes (fn : Fn) (first cap : Array Value) (w : World) : (Instr.makeFunc fn first cap).run Try.prog w = .ok (.func fn first cap) w := rfl

set_option maxRecDepth 100000 in
theorem bits_yes {e : Nat} (h1 : 1 ≤ e) (h8 : e ≤ 8) (w : World) : Calls Try.prog 10 #[.int .i64 e] w (IntAns w (bitsN e) 0) := by
  have hmf := makes
  obtain ⟨X, hX⟩ : ∃ X, Obj.cells #[.int .i64 (e : Int)] 3 = X := ⟨_, rfl⟩
  have hbel : Below w.heap.size w (w.alloc X) := (Below.refl _ w).alloc (Nat.le_refl _) _
  have ce : ∀ Z, ((w.alloc X).alloc Z).cell? ⟨w.heap.size, 0, none⟩ = some (.int .i64 e) := fun Z => by
    refine (Same.alloc _ Z).cell ?_; rw [← hX]; simp [go_sem]
  have hf := fitted49_ok 50 #[at0 w.heap.size] (w.alloc X) (isV (.int .i64 (bitsN e))) (fun _ _ _ _ h => h) (enters_of Try.func50 (by kernel_rfl) rfl _) (bits1_yes h1 h8 _ _ (ce _))
  subst hX
  have HBL := Lib.hid hbel
  clear hbel ce
  go_enter Try.func10, Try.ntmps10
  go_wp2_with (go_at_call 49; (with_reducible refine hf.mono ?_); rintro e w1 ⟨u, rfl, rfl, hb1⟩)
  go_ret2
  exact ⟨rfl, HBL.out.trans (hb1.mono HBL.out.size)⟩
set_option maxRecDepth 100000 in
theorem bits_no {n : Int} (h : encB n = false) (w : World) : Calls Try.prog 10 #[.int .i64 n] w (IntAns w 0 7) := by
  have hmf := makes
  obtain ⟨X, hX⟩ : ∃ X, Obj.cells #[.int .i64 n] 3 = X := ⟨_, rfl⟩
  have hbel : Below w.heap.size w (w.alloc X) := (Below.refl _ w).alloc (Nat.le_refl _) _
  have ce : ∀ Z, ((w.alloc X).alloc Z).cell? ⟨w.heap.size, 0, none⟩ = some (.int .i64 n) := fun Z => by
    refine (Same.alloc _ Z).cell ?_; rw [← hX]; simp [go_sem]
  have hf := fitted49_no 50 #[at0 w.heap.size] 7 (w.alloc X) (enters_of Try.func50 (by kernel_rfl) rfl _) (bits1_no h _ _ (ce _))
  subst hX
  have HBL := Lib.hid hbel
  clear hbel ce h
  go_enter Try.func10, Try.ntmps10
  go_wp2_with (go_at_call 49; (with_reducible refine hf.mono ?_); rintro e w1 ⟨rfl, hb1⟩)
  go_ret2
  exact ⟨rfl, HBL.out.trans (hb1.mono HBL.out.size)⟩

set_option maxRecDepth 100000 in
theorem level1_yes {e : Nat} (h1 : 1 ≤ e) (h8 : e ≤ 8) {s : Int} (h : okS s) (B C : Nat) (w : World) (hc : w.cell? ⟨B, 0, none⟩ = some (.int .i64 e)) (hc2 : w.cell? ⟨C, 0, none⟩ = some (.int .i64 s)) :
    Calls Try.prog 52 #[at0 B, at0 C] w (Gives (isV (.int .i64 (lvl (bitsN e) s))) w) := by
  have hcd := coder_any h1 h8 w
  have hl := levelOf_any h1 h8 s w (by unfold okS at h; omega) (by unfold okS at h; omega)
  have hw := within_any s 8388607 w (by decide) (by decide)
  rw [show (decide (-8388607 ≤ s) && decide (s ≤ 8388607)) = true by unfold okS at h; simp; omega] at hw
  have hmu := must_yes 7 w
  generalize lvl (bitsN e) s = L at *
  have hone : ∃ T X, cdv e = .iface T X := ⟨_, _, rfl⟩
  obtain ⟨T, X, hTX⟩ := hone
  rw [hTX] at hcd hl
  clear h hTX
  go_enter Try.func52, Try.ntmps52
  go_wp2_with (first
    | (go_at_call 51; (with_reducible refine hcd.mono ?_); rintro e w1 ⟨rfl, rfl⟩)
    | (go_at_call 54; (with_reducible refine hw.mono ?_); rintro e w1 ⟨rfl, rfl⟩)
    | (go_at_call 53; (with_reducible refine hmu.mono ?_); rintro e w1 ⟨rfl, rfl⟩)
    | (go_at_call 55; (with_reducible refine hl.mono ?_); rintro e w1 ⟨rfl, hb⟩; have HB := Lib.hid hb; clear hb))
  go_ret
  exact ⟨_, rfl, rfl, HB.out⟩
set_option maxRecDepth 100000 in
theorem level1_no {n s : Int} (h : (encB n && (decide (-8388607 ≤ s) && decide (s ≤ 8388607))) = false) (B C : Nat) (w : World) (hc : w.cell? ⟨B, 0, none⟩ = some (.int .i64 n)) (hc2 : w.cell? ⟨C, 0, none⟩ = some (.int .i64 s)) :
    Calls Try.prog 52 #[at0 B, at0 C] w (LeavesX 7 w) := by
  cases hn : encB n with
  | false =>
    have hcd := coder_no hn w
    clear h hn
    go_enter Try.func52, Try.ntmps52
    go_wp2_with (go_at_call 51; (with_reducible refine hcd.mono ?_); rintro e w1 ⟨rfl, rfl⟩)
    exact ⟨rfl, rfl, Below.refl _ _⟩
  | true =>
    obtain ⟨a1, a2⟩ := encB_t hn
    obtain ⟨e, rfl⟩ : ∃ e : Nat, n = e := ⟨n.toNat, by omega⟩
    have hcd := coder_any (e := e) (by omega) (by omega) w
    have hw := within_any s 8388607 w (by decide) (by decide)
    rw [hn, Bool.true_and] at h
    rw [h] at hw
    have hmu := must_no 7 w
    have hone : ∃ T X, cdv e = .iface T X := ⟨_, _, rfl⟩
    obtain ⟨T, X, hTX⟩ := hone
    rw [hTX] at hcd
    clear h hn hTX
    go_enter Try.func52, Try.ntmps52
    go_wp2_with (first
      | (go_at_call 51; (with_reducible refine hcd.mono ?_); rintro e w1 ⟨rfl, rfl⟩)
      | (go_at_call 54; (with_reducible refine hw.mono ?_); rintro e w1 ⟨rfl, rfl⟩)
      | (go_at_call 53; (with_reducible refine hmu.mono ?_); rintro e w1 ⟨rfl, rfl⟩))
    exact ⟨rfl, rfl, Below.refl _ _⟩
set_option maxRecDepth 100000 in
set_option maxHeartbeats 1000000 in
theorem sample1_yes {e : Nat} (h1 : 1 ≤ e) (h8 : e ≤ 8) {s : Int} (h : okL e s) (B C : Nat) (w : World) (hc : w.cell? ⟨B, 0, none⟩ = some (.int .i64 e)) (hc2 : w.cell? ⟨C, 0, none⟩ = some (.int .i64 s)) :
    Calls Try.prog 57 #[at0 B, at0 C] w (Gives (isV (.int .i64 (smp (bitsN e) s))) w) := by
  have hcd := coder_any h1 h8 w
  have htb := topN_bd h1 h8
  have hl := fun w => sampleOf_any h1 h8 s w (by unfold okL at h; omega) (by unfold okL at h; omega)
  have ht := fun w => top_any h1 h8 w
  have hw := fun w => within_any s (topN (bitsN e)) w (by omega) (by omega)
  rw [show (decide (-topN (bitsN e) ≤ s) && decide (s ≤ topN (bitsN e))) = true by unfold okL at h; simp; omega] at hw
  obtain ⟨m, hm, hcf, hrun⟩ := isCd h1 h8
  unfold cdv at hcd hl
  generalize smp (bitsN e) s = L at *
  generalize cdT e = T at *
  generalize cdX e = X at *
  generalize topN (bitsN e) = K at *
  generalize bitsN e = N at *
  have HRUN : Hid (∀ x, Below w.heap.size w x → Calls Try.prog m #[X] x fun e w' => e = .returned (.int .i64 N) ∧ Below w.heap.size w w') := Lib.hid fun x hx => (hrun x).mono fun e w' ⟨h1, h2⟩ => ⟨h1, Below.then hx (Nat.le_refl _) h2⟩
  have HT := Lib.hid ht
  have HW := Lib.hid hw
  have HL := Lib.hid hl
  have HMU := Lib.hid (must_yes 7)
  have HS : Hid (∀ wx : World, Below w.heap.size w wx → wx.cell? ⟨C, 0, none⟩ = some (.int .i64 s) ∧ Below w.heap.size w wx) := Lib.hid fun wx h => ⟨(Same.of_below h).cell hc2, h⟩
  clear hrun ht hw h htb hl
  go_enter Try.func57, Try.ntmps57
  go_wp2_with (go_at_call 51; (with_reducible refine hcd.mono ?_); rintro e w1 ⟨rfl, rfl⟩)
  clear hc hc2
  go_region_held3 (fun wx => wx.cell? ⟨C, 0, none⟩ = some (.int .i64 s) ∧ Below w.heap.size w wx)
    (first
      | with_reducible exact HS.out _ (Below.refl _ _).drew
      | (go_split_ands; with_reducible exact HS.out _ (by assumption))
      | with_reducible exact HS.out _ hk)
    (first
      | (go_at_call 58; (with_reducible refine (HT.out _).mono ?_); rintro e w1 ⟨rfl, rfl⟩)
      | (go_at_call 54; (with_reducible refine (HW.out _).mono ?_); rintro e w1 ⟨rfl, rfl⟩)
      | (go_at_call 53; (with_reducible refine (HMU.out _).mono ?_); rintro e w1 ⟨rfl, rfl⟩)
      | ((with_reducible refine (HRUN.out _ (by go_split_ands; assumption)).mono ?_); rintro e wk ⟨rfl, hk⟩))
  all_goals
    go_split_ands
    go_wp2_with (go_at_call 59; (with_reducible refine (HL.out _).mono ?_); rintro e w2 ⟨rfl, hb2⟩; have HB2 := Lib.hid hb2; clear hb2)
    go_ret
    exact ⟨_, rfl, rfl, Below.then (by assumption) (Nat.le_refl _) HB2.out⟩
set_option maxRecDepth 100000 in
set_option maxHeartbeats 1000000 in
theorem sample1_bad {e : Nat} (h1 : 1 ≤ e) (h8 : e ≤ 8) {s : Int} (h : ¬ okL e s) (B C : Nat) (w : World) (hc : w.cell? ⟨B, 0, none⟩ = some (.int .i64 e)) (hc2 : w.cell? ⟨C, 0, none⟩ = some (.int .i64 s)) :
    Calls Try.prog 57 #[at0 B, at0 C] w (LeavesX 7 w) := by
  have hcd := coder_any h1 h8 w
  have htb := topN_bd h1 h8
  have ht := fun w => top_any h1 h8 w
  have hw := fun w => within_any s (topN (bitsN e)) w (by omega) (by omega)
  rw [show (decide (-topN (bitsN e) ≤ s) && decide (s ≤ topN (bitsN e))) = false by unfold okL at h; simp; omega] at hw
  obtain ⟨m, hm, hcf, hrun⟩ := isCd h1 h8
  unfold cdv at hcd
  generalize cdT e = T at *
  generalize cdX e = X at *
  generalize topN (bitsN e) = K at *
  generalize bitsN e = N at *
  have HRUN : Hid (∀ x, Below w.heap.size w x → Calls Try.prog m #[X] x fun e w' => e = .returned (.int .i64 N) ∧ Below w.heap.size w w') := Lib.hid fun x hx => (hrun x).mono fun e w' ⟨h1, h2⟩ => ⟨h1, Below.then hx (Nat.le_refl _) h2⟩
  have HT := Lib.hid ht
  have HW := Lib.hid hw
  have HMU := Lib.hid (must_no 7)
  have HS : Hid (∀ wx : World, Below w.heap.size w wx → wx.cell? ⟨C, 0, none⟩ = some (.int .i64 s) ∧ Below w.heap.size w wx) := Lib.hid fun wx h => ⟨(Same.of_below h).cell hc2, h⟩
  clear hrun ht hw h htb
  go_enter Try.func57, Try.ntmps57
  go_wp2_with (go_at_call 51; (with_reducible refine hcd.mono ?_); rintro e w1 ⟨rfl, rfl⟩)
  clear hc hc2
  refine region_T (S := fun wx => wx.cell? ⟨C, 0, none⟩ = some (.int .i64 s) ∧ Below w.heap.size w wx) [5] (by kernel_rfl) (HS.out _ (Below.refl _ _).drew) (fun _ => ?_)
  have hS0 := HS.out _ (Below.drew (Below.refl w.heap.size w))
  obtain ⟨W, hW⟩ : ∃ W, w.drew = W := ⟨_, rfl⟩
  rw [hW] at hS0 ⊢
  clear hW
  refine anyT_take (i := 0) (v := ?_) rfl (by kernel_rfl) (by kernel_rfl) (by kernel_rfl) (by kernel_rfl) (fun _ _ _ h => h) (Or.inl ⟨by rfl, ?_⟩) (by assumption) ?_
  rotate_left
  focus ((intro wq hSw; (try dsimp only at hSw); go_simp); try with_reducible rfl)
  try simp only [Act.put, List.setIfInBounds_toArray, List.set_cons_zero, List.set_cons_succ]
  refine anyT_one (i := 1) (by kernel_rfl) rfl (fun K hK => ?_)
  go_simp
  refine hK.out _ _ (fun _ => hS0) ?_
  clear hK K
  try simp only [Act.put, List.setIfInBounds_toArray, List.set_cons_zero, List.set_cons_succ]
  refine anyT_one (i := 2) (by kernel_rfl) rfl (fun K hK => ?_)
  go_simp
  refine (HRUN.out _ hS0.2).mono ?_
  rintro e wk ⟨rfl, hk⟩
  go_simp
  refine hK.out _ _ (fun _ => HS.out _ hk) ?_
  clear hK K
  try simp only [Act.put, List.setIfInBounds_toArray, List.set_cons_zero, List.set_cons_succ]
  refine anyT_one (i := 3) (by kernel_rfl) rfl (fun K hK => ?_)
  go_simp
  refine (HT.out _).mono ?_
  rintro e w1 ⟨rfl, rfl⟩
  go_simp
  refine hK.out _ _ (fun _ => HS.out _ hk) ?_
  clear hK K
  try simp only [Act.put, List.setIfInBounds_toArray, List.set_cons_zero, List.set_cons_succ]
  refine anyT_one (i := 4) (by kernel_rfl) rfl (fun K hK => ?_)
  go_simp
  refine (HW.out _).mono ?_
  rintro e w1 ⟨rfl, rfl⟩
  go_simp
  refine hK.out _ _ (fun _ => HS.out _ hk) ?_
  clear hK K
  try simp only [Act.put, List.setIfInBounds_toArray, List.set_cons_zero, List.set_cons_succ]
  refine anyT_one (i := 5) (by kernel_rfl) rfl (fun K hK => ?_)
  go_simp
  refine (HMU.out _).mono ?_
  rintro e w1 ⟨rfl, rfl⟩
  exact ⟨rfl, rfl, hk⟩
set_option maxRecDepth 100000 in
theorem sample1_no {n s : Int} (h : encB n = false) (B C : Nat) (w : World) (hc : w.cell? ⟨B, 0, none⟩ = some (.int .i64 n)) : Calls Try.prog 57 #[at0 B, at0 C] w (LeavesX 7 w) := by
  have hcd := coder_no h w
  clear h
  go_enter Try.func57, Try.ntmps57
  go_wp2_with (go_at_call 51; (with_reducible refine hcd.mono ?_); rintro e w1 ⟨rfl, rfl⟩)
  exact ⟨rfl, rfl, Below.refl _ _⟩
end Go.Proofs.Ytegomicpolnpoaa
