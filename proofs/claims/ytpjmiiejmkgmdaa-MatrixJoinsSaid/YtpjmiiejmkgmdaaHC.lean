/- A matrix applied, and what does not fit. -/
import Derived.Test.YtpjmiiejmkgmdaaHB
namespace Go.Proofs.Ytpjmiiejmkgmdaa
open Go.RowKit Go.Deep Go.Shelf

set_option maxHeartbeats 2000000 in
set_option maxRecDepth 100000 in
theorem apply1_noM (m : List (List Int)) (va : Value) (Bm Bb : Nat) (w : World) (ha : MatIn w m va) (hcm : w.cell? ⟨Bm, 0, none⟩ = some va) (hvm : validM m = false) :
    Calls Try.prog 62 #[.pointer (some ⟨Bm, 0, none⟩), .pointer (some ⟨Bb, 0, none⟩)] w (Leaves96 1 w) := by
  have h55 := matrixOf_no m va w ha hvm
  obtain ⟨a, ca, rfl, _, _, _⟩ := ha
  clear hvm
  go_enter Try.func62, Try.ntmps62
  go_wp2_with (go_at_call 55; (with_reducible refine h55.mono ?_); rintro e w1 ⟨rfl, hb⟩)
  exact ⟨rfl, rfl, hb⟩
set_option maxHeartbeats 2000000 in
set_option maxRecDepth 100000 in
theorem apply1_noB (m b : List (List Int)) (va vb : Value) (Bm Bb : Nat) (w : World) (ha : MatIn w m va) (hb : MatIn w b vb) (hcm : w.cell? ⟨Bm, 0, none⟩ = some va) (hcb : w.cell? ⟨Bb, 0, none⟩ = some vb)
    (hvm : validM m = true) (hvb : validB b = false) : Calls Try.prog 62 #[.pointer (some ⟨Bm, 0, none⟩), .pointer (some ⟨Bb, 0, none⟩)] w (Leaves96 1 w) := by
  obtain ⟨a, ca, rfl, hin, _, _⟩ := id ha
  obtain ⟨b0, cb, rfl, hinb, _, _⟩ := id hb
  have h55 := matrixOf_ok m a ca w ha hvm
  obtain ⟨X, hX⟩ : ∃ X, Obj.cells #[.int .i64 m.length, .int .i64 (cols m), .slice a m.length ca] 79 = X := ⟨_, rfl⟩
  have hS2 : Same w ((w.alloc X).alloc X) := (Same.alloc w X).trans (by simp) (Same.alloc _ X)
  have h35 := validBlock_any b (.slice b0 b.length cb) ((w.alloc X).alloc X) (hb.mono hS2)
  rw [hvb] at h35
  have h43 := must_no 1 ((w.alloc X).alloc X)
  have c1 : ((w.alloc X).alloc X).cell? ⟨Bb, 0, none⟩ = some (.slice b0 b.length cb) := hS2.cell hcb
  have hfin : Below w.heap.size w ((w.alloc X).alloc X) := ((Below.refl _ w).alloc (Nat.le_refl _) _).alloc (by simp) _
  subst hX
  clear hin hinb ha hb hvm hvb hcb hS2
  go_enter Try.func62, Try.ntmps62
  go_wp2_with (first | (go_at_call 55; (with_reducible refine h55.mono ?_); rintro e w1 ⟨rfl, rfl⟩) | (go_at_call 35; (with_reducible refine h35.mono ?_); rintro e w1 ⟨rfl, rfl⟩) | (go_at_call 43; (with_reducible refine h43.mono ?_); rintro e w1 ⟨rfl, rfl⟩))
  exact ⟨rfl, rfl, hfin⟩
set_option maxHeartbeats 2000000 in
set_option maxRecDepth 100000 in
theorem apply1_noS (m b : List (List Int)) (va vb : Value) (Bm Bb : Nat) (w : World) (ha : MatIn w m va) (hb : MatIn w b vb) (hcm : w.cell? ⟨Bm, 0, none⟩ = some va) (hcb : w.cell? ⟨Bb, 0, none⟩ = some vb)
    (hvm : validM m = true) (hvb : validB b = true) (hsz : b.length ≠ cols m) : Calls Try.prog 62 #[.pointer (some ⟨Bm, 0, none⟩), .pointer (some ⟨Bb, 0, none⟩)] w (Leaves96 11 w) := by
  obtain ⟨a, ca, rfl, hin, _, _⟩ := id ha
  obtain ⟨b0, cb, rfl, hinb, _, _⟩ := id hb
  have h55 := matrixOf_ok m a ca w ha hvm
  obtain ⟨X, hX⟩ : ∃ X, Obj.cells #[.int .i64 m.length, .int .i64 (cols m), .slice a m.length ca] 79 = X := ⟨_, rfl⟩
  have hS2 : Same w ((w.alloc X).alloc X) := (Same.alloc w X).trans (by simp) (Same.alloc _ X)
  have h35 := validBlock_any b (.slice b0 b.length cb) ((w.alloc X).alloc X) (hb.mono hS2)
  rw [hvb] at h35
  have h43 := must_yes 1 ((w.alloc X).alloc X)
  have h43b := must_no 11 ((w.alloc X).alloc X)
  have c1 : ((w.alloc X).alloc X).cell? ⟨Bb, 0, none⟩ = some (.slice b0 b.length cb) := hS2.cell hcb
  have hfin : Below w.heap.size w ((w.alloc X).alloc X) := ((Below.refl _ w).alloc (Nat.le_refl _) _).alloc (by simp) _
  have he : ((b.length : Int) == (cols m : Int)) = false := by rw [beq_eq_false_iff_ne]; omega
  subst hX
  clear hin hinb ha hb hvm hvb hcb hS2 hsz
  obtain ⟨C, hC⟩ : ∃ C, cols m = C := ⟨_, rfl⟩
  rw [hC] at *
  clear hC
  go_enter Try.func62, Try.ntmps62
  go_wp2_with (first | (go_at_call 55; (with_reducible refine h55.mono ?_); rintro e w1 ⟨rfl, rfl⟩) | (go_at_call 35; (with_reducible refine h35.mono ?_); rintro e w1 ⟨rfl, rfl⟩) | (go_at_call 43; (with_reducible refine h43.mono ?_); rintro e w1 ⟨rfl, rfl⟩) | (go_at_call 43; (with_reducible refine h43b.mono ?_); rintro e w1 ⟨rfl, rfl⟩))
  exact ⟨rfl, rfl, hfin⟩

theorem apply1_no (m b : List (List Int)) (va vb : Value) (Bm Bb : Nat) (w : World) (ha : MatIn w m va) (hb : MatIn w b vb) (hcm : w.cell? ⟨Bm, 0, none⟩ = some va) (hcb : w.cell? ⟨Bb, 0, none⟩ = some vb)
    (hE : applyE m b ≠ 0) : Calls Try.prog 62 #[.pointer (some ⟨Bm, 0, none⟩), .pointer (some ⟨Bb, 0, none⟩)] w (Leaves96 (applyE m b) w) := by
  unfold applyE at *
  cases hvm : validM m with
  | false => simpa [hvm] using apply1_noM m va Bm Bb w ha hcm hvm
  | true =>
    cases hvb : validB b with
    | false => simpa [hvm, hvb] using apply1_noB m b va vb Bm Bb w ha hb hcm hcb hvm hvb
    | true =>
      by_cases h : b.length = cols m
      · simp [hvm, hvb, h] at hE
      · simpa [hvm, hvb, h] using apply1_noS m b va vb Bm Bb w ha hb hcm hcb hvm hvb h

theorem applyE_zero {m b : List (List Int)} (h : applyE m b = 0) : validM m = true ∧ validB b = true ∧ b.length = cols m := by
  unfold applyE at h
  split at h
  · rename_i hv
    rw [Bool.and_eq_true] at hv
    split at h
    · rename_i e; exact ⟨hv.1, hv.2, e⟩
    · cases h
  · cases h
def applyR (m b : List (List Int)) : List (List Int) := if applyE m b = 0 then applyM m b else []

set_option maxHeartbeats 2000000 in
set_option maxRecDepth 100000 in
/-- A matrix applied to a block, whatever both are. -/
theorem apply_any (m b : List (List Int)) (va vb : Value) (w : World) (ha : MatIn w m va) (hb : MatIn w b vb) : Calls Try.prog 31 #[va, vb] w (MatAns w (applyR m b) (applyE m b)) := by
  have hmf : ∀ (fn : Fn) (first cap : Array Value) (w : World), (Instr.makeFunc fn first cap).run Try.prog w = .ok (.func fn first cap) w := fun _ _ _ _ => rfl
  obtain ⟨a, ca, rfl, hin, _, _⟩ := id ha
  obtain ⟨b0, cb, rfl, hinb, _, _⟩ := id hb
  obtain ⟨X, hX⟩ : ∃ X, Obj.cells #[.slice a m.length ca] 24 = X := ⟨_, rfl⟩
  obtain ⟨Y, hY⟩ : ∃ Y, Obj.cells #[.slice b0 b.length cb] 38 = Y := ⟨_, rfl⟩
  have hS2 : Same w ((w.alloc X).alloc Y) := (Same.alloc w X).trans (by simp) (Same.alloc _ Y)
  have hS3 : ∀ Z, Same w (((w.alloc X).alloc Y).alloc Z) := fun Z => hS2.trans (by simp; omega) (Same.alloc _ Z)
  have hbel : Below w.heap.size w ((w.alloc X).alloc Y) := ((Below.refl _ w).alloc (Nat.le_refl _) _).alloc (by simp) _
  have cm : ∀ Z, (((w.alloc X).alloc Y).alloc Z).cell? ⟨w.heap.size, 0, none⟩ = some (.slice a m.length ca) := fun Z => by
    refine (Same.alloc _ Z).cell ((Same.alloc _ Y).cell ?_); rw [← hX]; simp [go_sem]
  have cbb : ∀ Z, (((w.alloc X).alloc Y).alloc Z).cell? ⟨w.heap.size + 1, 0, none⟩ = some (.slice b0 b.length cb) := fun Z => by
    refine (Same.alloc _ Z).cell ?_; rw [← hY]; simp [go_sem]
  have hcf := fun (cs : Array Value) (w : World) => enters_of Try.func62 (by kernel_rfl) rfl cs w
  by_cases hE : applyE m b = 0
  · obtain ⟨e1, e2, e3⟩ := applyE_zero hE
    have h61 := fitted61_ok 62 #[.pointer (some ⟨w.heap.size, 0, none⟩), .pointer (some ⟨w.heap.size + 1, 0, none⟩)] ((w.alloc X).alloc Y) (fun u w => MatIn w (applyM m b) u) (fun u w1 w2 hs hu => hu.mono hs) (hcf _)
      (apply1_ok m b _ _ _ _ _ (ha.mono (hS3 _)) (hb.mono (hS3 _)) (cm _) (cbb _) e1 e2 e3)
    rw [show applyR m b = applyM m b by simp [applyR, hE], hE]
    subst hX hY
    have HBL := Lib.hid hbel
    clear hE e1 e2 e3 hin hinb ha hb hS2 hS3 hbel cm cbb hcf
    go_enter Try.func31, Try.ntmps31
    go_wp2_with (go_at_call 61; (with_reducible refine h61.mono ?_); rintro e w1 ⟨u, rfl, hu, hb1⟩; have HU := Lib.hid hu; clear hu)
    go_ret2
    exact ⟨_, rfl, HU.out, HBL.out.trans (hb1.mono HBL.out.size)⟩
  · have h61 := fitted61_no 62 #[.pointer (some ⟨w.heap.size, 0, none⟩), .pointer (some ⟨w.heap.size + 1, 0, none⟩)] (applyE m b) ((w.alloc X).alloc Y) (hcf _)
      (apply1_no m b _ _ _ _ _ (ha.mono (hS3 _)) (hb.mono (hS3 _)) (cm _) (cbb _) hE)
    rw [show applyR m b = [] by simp [applyR, hE]]
    obtain ⟨E, hEE⟩ : ∃ E, applyE m b = E := ⟨_, rfl⟩
    rw [hEE] at h61 ⊢
    subst hX hY
    have HBL := Lib.hid hbel
    clear hE hEE hin hinb ha hb hS2 hS3 hbel cm cbb hcf
    go_enter Try.func31, Try.ntmps31
    go_wp2_with (go_at_call 61; (with_reducible refine h61.mono ?_); rintro e w1 ⟨rfl, hb1⟩)
    go_ret2
    exact ⟨_, rfl, mat_nil _, HBL.out.trans (hb1.mono HBL.out.size)⟩
end Go.Proofs.Ytpjmiiejmkgmdaa
