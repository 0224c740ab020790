/- A matrix with its sizes; a matrix applied. -/
import Derived.Test.YtpjmiiejmkgmdaaHA
import Derived.Test.YtpjmiiejmkgmdaaFB
import Derived.Test.YtpjmiiejmkgmdaaEC
namespace Go.Proofs.Ytpjmiiejmkgmdaa
open Go.RowKit Go.Deep

set_option maxRecDepth 100000 in
theorem matrixOf_ok (m : List (List Int)) (a : Option Addr) (ca : Nat) (w : World) (hv : MatIn w m (.slice a m.length ca)) (hm : validM m = true) :
    Calls Try.prog 55 #[.slice a m.length ca] w fun e w' => e = .returned (.agg #[.int .i64 m.length, .int .i64 (cols m), .slice a m.length ca]) ∧ w.alloc (.cells #[.int .i64 m.length, .int .i64 (cols m), .slice a m.length ca] 79) = w' := by
  have hvm := fun o => validMatrix_any m _ (w.alloc o) (hv.mono (Same.alloc w o))
  rw [hm] at hvm
  have hpos : 0 < m.length := by simp [validM] at hm; exact len_pos_of_ch hm.1.1
  obtain ⟨a2, ca2, e2, hin, _, _⟩ := hv
  simp only [Value.slice.injEq, true_and] at e2
  obtain ⟨rfl, rfl⟩ := e2
  obtain ⟨b0, o0, u0, rfl, hc0, a0, c0, rfl, _, _, _⟩ := hin 0 hpos
  simp only [Nat.add_zero] at hc0
  change w.cell? _ = some (Value.slice a0 (cols m) c0) at hc0
  have hc1 := fun o => (Same.alloc w o).cell hc0
  have hposI : (0 : Int) < (m.length : Int) := by omega
  obtain ⟨C, hC⟩ : ∃ C, cols m = C := ⟨_, rfl⟩
  rw [hC] at hc1 ⊢
  have HV := Lib.hid hvm
  have HM := Lib.hid (fun k w => must_yes k w)
  clear hvm hm hin hc0 hC
  go_enter Try.func55, Try.ntmps55
  go_wp2_with (first | (go_at_call 33; (with_reducible refine (HV.out _).mono ?_); rintro e w1 ⟨rfl, rfl⟩) | (go_at_call 43; (with_reducible refine (HM.out _ _).mono ?_); rintro e w1 ⟨rfl, rfl⟩))
  exact bodyPost_ret (v := .agg #[.int .i64 m.length, .int .i64 C, .slice (some ⟨b0, o0, none⟩) m.length ca]) (by simp [results, Try.results55, go_sem]) rfl ⟨rfl, rfl⟩
theorem matrixOf_no (m : List (List Int)) (v : Value) (w : World) (hv : MatIn w m v) (hm : validM m = false) : Calls Try.prog 55 #[v] w (Leaves96 1 w) := by
  have hvm := fun o => validMatrix_any m _ (w.alloc o) (hv.mono (Same.alloc w o))
  rw [hm] at hvm
  obtain ⟨a2, ca2, rfl, _, _, _⟩ := hv
  have HV := Lib.hid hvm
  have HM := Lib.hid (fun k w => must_no k w)
  clear hvm hm
  go_enter Try.func55, Try.ntmps55
  go_wp2_with (first | (go_at_call 33; (with_reducible refine (HV.out _).mono ?_); rintro e w1 ⟨rfl, rfl⟩) | (go_at_call 43; (with_reducible refine (HM.out _ _).mono ?_); rintro e w1 ⟨rfl, rfl⟩))
  exact ⟨rfl, rfl, (Below.refl _ _).alloc (Nat.le_refl _) _⟩

def applyM (m b : List (List Int)) : List (List Int) := tabM m.length (cols b) fun i f => clipI 8388607 (dotTo (m.getD i []) b f (m.getD i []).length)
def applyE (m b : List (List Int)) : Int := if validM m && validB b then (if b.length = cols m then 0 else 11) else 1

theorem Below.of_box {w w' : World} {o : Obj} (h : Below (w.heap.size + 1) (w.alloc o) w') : Below w.heap.size w w' := ((Below.refl _ w).alloc (Nat.le_refl _) o).trans (h.mono (by omega))

theorem getD_out {α : Type} {l : List α} {i : Nat} {d : α} (h : l.length ≤ i) : l.getD i d = d := by simp [List.getD, List.getElem?_eq_none h]
theorem within_at {k : Int} {l : List Int} (h : within k l = true) (hk : 0 ≤ k) (i : Nat) : -k ≤ l.getD i 0 ∧ l.getD i 0 ≤ k := by
  by_cases hi : i < l.length
  · have := all_at (d := 0) h hi
    simpa [inB] using this
  · rw [getD_out (by omega)]; omega
theorem validM_parts {m : List (List Int)} (h : validM m = true) : (1 ≤ m.length ∧ m.length ≤ 8) ∧ (1 ≤ cols m ∧ cols m ≤ 8) ∧ (∀ j, j < m.length → (m.getD j []).length = cols m) ∧ ∀ j k, ((m.getD j []).getD k 0).natAbs ≤ 655360 := by
  simp only [validM, Bool.and_eq_true] at h
  obtain ⟨⟨h1, h2⟩, h3⟩ := h
  have g1 := chB_t h1
  have g2 := chB_t h2
  refine ⟨by omega, by omega, fun j hj => ?_, fun j k => ?_⟩
  · have := all_at (d := []) h3 hj
    simp only [rowOk, Bool.and_eq_true, decide_eq_true_eq] at this
    exact this.1
  · by_cases hj : j < m.length
    · have := all_at (d := []) h3 hj
      simp only [rowOk, Bool.and_eq_true, decide_eq_true_eq] at this
      have := within_at this.2 (by omega) k
      omega
    · rw [show m.getD j [] = [] from getD_out (by omega)]; simp
theorem validB_parts {m : List (List Int)} (h : validB m = true) : (1 ≤ m.length ∧ m.length ≤ 8) ∧ cols m ≤ 4096 ∧ (∀ j, j < m.length → (m.getD j []).length = cols m) ∧ ∀ j k, ((m.getD j []).getD k 0).natAbs ≤ 8388607 := by
  simp only [validB, Bool.and_eq_true] at h
  obtain ⟨⟨h1, h2⟩, h3⟩ := h
  have g1 := chB_t h1
  have g2 := frB_t h2
  refine ⟨by omega, by omega, fun j hj => ?_, fun j k => ?_⟩
  · have := all_at (d := []) h3 hj
    simp only [rowOk, Bool.and_eq_true, decide_eq_true_eq] at this
    exact this.1
  · by_cases hj : j < m.length
    · have := all_at (d := []) h3 hj
      simp only [rowOk, Bool.and_eq_true, decide_eq_true_eq] at this
      have := within_at this.2 (by omega) k
      omega
    · rw [show m.getD j [] = [] from getD_out (by omega)]; simp
theorem dot_bd {m b : List (List Int)} (hm : ∀ j k, ((m.getD j []).getD k 0).natAbs ≤ 655360) (hb : ∀ k f, (cellM b k f).natAbs ≤ 8388607) (hl : ∀ j, j < m.length → (m.getD j []).length ≤ 8) (j f : Nat) (hj : j < m.length) :
    (dotTo (m.getD j []) b f (m.getD j []).length).natAbs ≤ 1000000000000000 := by
  have h1 := dotTo_abs hb (hm j) f (m.getD j []).length
  have h2 := hl j hj
  have : (m.getD j []).length * 5497557483520 ≤ 8 * 5497557483520 := Nat.mul_le_mul_right _ h2
  omega

set_option maxHeartbeats 4000000 in
set_option maxRecDepth 100000 in
theorem apply1_ok (m b : List (List Int)) (va vb : Value) (Bm Bb : Nat) (w : World) (ha : MatIn w m va) (hb : MatIn w b vb) (hcm : w.cell? ⟨Bm, 0, none⟩ = some va) (hcb : w.cell? ⟨Bb, 0, none⟩ = some vb)
    (hvm : validM m = true) (hvb : validB b = true) (hsz : b.length = cols m) :
    Calls Try.prog 62 #[.pointer (some ⟨Bm, 0, none⟩), .pointer (some ⟨Bb, 0, none⟩)] w (Gives (fun u w => MatIn w (applyM m b) u) w) := by
  obtain ⟨pm1, pm2, pm3, pm4⟩ := validM_parts hvm
  obtain ⟨pb1, pb2, pb3, pb4⟩ := validB_parts hvb
  obtain ⟨a, ca, rfl, hin, _, _⟩ := id ha
  obtain ⟨b0, cb, rfl, hinb, _, _⟩ := id hb
  have hbb : ∀ k f, (cellM b k f).natAbs ≤ 8388607 := pb4
  have h55 := matrixOf_ok m a ca w ha hvm
  obtain ⟨X, hX⟩ : ∃ X, Obj.cells #[.int .i64 m.length, .int .i64 (cols m), .slice a m.length ca] 79 = X := ⟨_, rfl⟩
  have hS2 : Same w ((w.alloc X).alloc X) := (Same.alloc w X).trans (by simp) (Same.alloc _ X)
  have h35 := validBlock_any b (.slice b0 b.length cb) ((w.alloc X).alloc X) (hb.mono hS2)
  rw [hvb] at h35
  have h43 := must_yes 1 ((w.alloc X).alloc X)
  have h43b := must_yes 11 ((w.alloc X).alloc X)
  have h63 := times_any m b a b0 ca cb (cols b) ((w.alloc X).alloc X).drew pm1.2 pb2 (ha.mono hS2) (hb.mono hS2) (by omega) (fun j hj => by rw [pm3 j hj, hsz]) (fun j hj => pb3 j hj) pm4 hbb
  have h64 := fun w' hg => reduce_any (((w.alloc X).alloc X).drew.heap.size + 1 + 1) m.length (cols b) _ 8388607 w' pm1.2 pb2 hg (by omega) (by omega) fun j f hj _ => dot_bd pm4 hbb (fun j hj => by rw [pm3 j hj]; omega) j f hj
  have hfin : ∀ w', Gr (((w.alloc X).alloc X).drew.heap.size + 1 + 1) m.length (cols b) (fun j f => clipI 8388607 (dotTo (m.getD j []) b f (m.getD j []).length)) w' → MatIn w' (applyM m b) (.slice (some ⟨((w.alloc X).alloc X).drew.heap.size + 1 + 1, 0, none⟩) m.length m.length) := fun w' hg =>
    hg.mat pm1.2 pb2 fun j f _ _ => by have := clipI_bd (k := 8388607) (by omega) (dotTo (m.getD j []) b f (m.getD j []).length); unfold I64; omega
  have c1 : ((w.alloc X).alloc X).cell? ⟨Bb, 0, none⟩ = some (.slice b0 b.length cb) := hS2.cell hcb
  obtain ⟨bq, oq, uq, hbq, hcq, hu⟩ := hinb 0 (by omega)
  obtain ⟨au, cu, rfl, _, _, _⟩ := hu
  change w.cell? _ = some (Value.slice au (cols b) cu) at hcq
  subst hbq
  have c2 := hS2.cell hcq
  have hposI : (0 : Int) < (b.length : Int) := by omega
  rw [← hsz] at h55 hX
  subst hX
  clear hin hinb pm1 pm2 pm3 pm4 pb1 pb3 pb4 hbb ha hb hvm hvb hsz hcq hcb hS2
  have H64 := Lib.hid h64
  have HFIN := Lib.hid hfin
  clear h64 hfin
  go_enter Try.func62, Try.ntmps62
  go_wp2_with (first | (go_at_call 55; (with_reducible refine h55.mono ?_); rintro e w1 ⟨rfl, rfl⟩) | (go_at_call 35; (with_reducible refine h35.mono ?_); rintro e w1 ⟨rfl, rfl⟩) | (go_at_call 43; (with_reducible refine h43.mono ?_); rintro e w1 ⟨rfl, rfl⟩) | (go_at_call 43; (with_reducible refine h43b.mono ?_); rintro e w1 ⟨rfl, rfl⟩))
  have k0 : ((w.alloc (.cells #[.int .i64 m.length, .int .i64 b.length, .slice a m.length ca] 79)).alloc (.cells #[.int .i64 m.length, .int .i64 b.length, .slice a m.length ca] 79)).cell? ⟨w.heap.size + 1, 0, none⟩ = some (.int .i64 m.length) := by simp [go_sem]
  have k1 : ((w.alloc (.cells #[.int .i64 m.length, .int .i64 b.length, .slice a m.length ca] 79)).alloc (.cells #[.int .i64 m.length, .int .i64 b.length, .slice a m.length ca] 79)).cell? ⟨w.heap.size + 1, 1, none⟩ = some (.int .i64 b.length) := by simp [go_sem]
  have k2 : ((w.alloc (.cells #[.int .i64 m.length, .int .i64 b.length, .slice a m.length ca] 79)).alloc (.cells #[.int .i64 m.length, .int .i64 b.length, .slice a m.length ca] 79)).cell? ⟨w.heap.size + 1, 2, none⟩ = some (.slice a m.length ca) := by simp [go_sem]
  have hbelow : Below w.heap.size w ((w.alloc (.cells #[.int .i64 m.length, .int .i64 b.length, .slice a m.length ca] 79)).alloc (.cells #[.int .i64 m.length, .int .i64 b.length, .slice a m.length ca] 79)) := ((Below.refl _ w).alloc (Nat.le_refl _) _).alloc (by simp) _
  have hsz : w.heap.size ≤ ((w.alloc (.cells #[.int .i64 m.length, .int .i64 b.length, .slice a m.length ca] 79)).alloc (.cells #[.int .i64 m.length, .int .i64 b.length, .slice a m.length ca] 79)).heap.size := hbelow.size
  clear h55 h35 h43 h43b
  obtain ⟨W2, hW2⟩ : ∃ W2, (w.alloc (.cells #[.int .i64 m.length, .int .i64 b.length, .slice a m.length ca] 79)).alloc (.cells #[.int .i64 m.length, .int .i64 b.length, .slice a m.length ca] 79) = W2 := ⟨_, rfl⟩
  rw [hW2] at c1 c2 k0 k1 k2 hbelow hsz h63 H64 HFIN ⊢
  simp only [Nat.add_zero] at c2
  clear hW2
  have hposN : 0 < b.length := by omega
  go_still_tail 6, (by kernel_rfl)
  change wpList _ _ _ _ _ W2.drew
  clear c1 c2 k0 k1 k2
  have hbd : Below w.heap.size w W2.drew := hbelow.drew
  have hsd : w.heap.size ≤ W2.drew.heap.size := hbd.size
  obtain ⟨W3, hW3⟩ : ∃ W3, W2.drew = W3 := ⟨_, rfl⟩
  rw [hW3] at hbd hsd h63 H64 HFIN ⊢
  clear hW3 hbelow hsz
  go_wp2_with (first | (go_at_call 63; (with_reducible refine h63.mono ?_); rintro e w1 ⟨rfl, hg, hb1⟩; have HGR := Lib.hid hg; have HB1 := Lib.hid hb1; clear hg hb1 h63) | (go_at_call 64; (with_reducible refine (H64.out _ HGR.out).mono ?_); rintro e w2 ⟨rfl, hg2, hb2⟩))
  go_ret
  refine ⟨_, rfl, HFIN.out _ hg2, ?_⟩
  have hbA : Below w.heap.size w w1 := hbd.trans (HB1.out.mono hsd)
  exact hbA.trans (hb2.mono (by omega))
end Go.Proofs.Ytpjmiiejmkgmdaa
