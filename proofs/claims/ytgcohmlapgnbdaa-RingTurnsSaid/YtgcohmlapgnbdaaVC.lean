/- The example of the law's own: awake gives true, whatever lies in memory. -/
import Derived.Test.YtgcohmlapgnbdaaRO
namespace Go.Proofs.Ytgcohmlapgnbdaa
open Go.RowKit Go.Shelf Go.Deep

theorem Gw.of_new {P R : Nat} {w w1 w2 : World} (h0 : Below w.heap.size w w1) (hP : w.heap.size ≤ P) (hR : w.heap.size ≤ R) (h : Gw P R w1 w2) : Below w.heap.size w w2 := Gw.to_below h0 h h0.size hP hR
/-- A list of frames in memory, apart from a ring's blocks. -/
theorem mat3 (w : World) (a b c : Int) (ha : I64 a) (hb : I64 b) (hc : I64 c) : ∃ X, (((w.alloc (.cells #[.int .i64 a] 3)).alloc (.cells #[.int .i64 b] 3)).alloc (.cells #[.int .i64 c] 3)).alloc (.cells #[.slice (some ⟨w.heap.size, 0, none⟩) 1 1, .slice (some ⟨w.heap.size + 1, 0, none⟩) 1 1, .slice (some ⟨w.heap.size + 1 + 1, 0, none⟩) 1 1] 39) = X ∧ Below w.heap.size w X ∧
    ∀ P R, P < w.heap.size → R < w.heap.size → MatOff P R X [[a], [b], [c]] (.slice (some ⟨w.heap.size + 1 + 1 + 1, 0, none⟩) 3 3) := by
  refine ⟨_, rfl, ((((Below.refl _ w).alloc (Nat.le_refl _) _).alloc (by simp) _).alloc (by simp <;> omega) _).alloc (by simp <;> omega) _, fun P R hP hR x hx => ?_⟩
  have row : ∀ (b0 : Nat) (n : Int), I64 n → x.cell? ⟨b0, 0, none⟩ = some (.int .i64 n) → RowIn x [n] (.slice (some ⟨b0, 0, none⟩) 1 1) := fun b0 n hn hc => by
    refine ⟨some ⟨b0, 0, none⟩, 1, rfl, fun i hi => ?_, by simp, by simp⟩
    simp at hi; subst hi
    exact ⟨b0, 0, rfl, by simpa using hc, by simpa using hn⟩
  have c0 : x.cell? ⟨w.heap.size, 0, none⟩ = some (.int .i64 a) := hx.cell (by simp [go_sem]) (by show w.heap.size ≠ P; omega) (by show w.heap.size ≠ R; omega)
  have c1 : x.cell? ⟨w.heap.size + 1, 0, none⟩ = some (.int .i64 b) := hx.cell (by simp [go_sem]) (by show w.heap.size + 1 ≠ P; omega) (by show w.heap.size + 1 ≠ R; omega)
  have c2 : x.cell? ⟨w.heap.size + 1 + 1, 0, none⟩ = some (.int .i64 c) := hx.cell (by simp [go_sem]) (by show w.heap.size + 1 + 1 ≠ P; omega) (by show w.heap.size + 1 + 1 ≠ R; omega)
  refine ⟨some ⟨w.heap.size + 1 + 1 + 1, 0, none⟩, 3, rfl, fun i hi => ?_, by simp, by simp⟩
  simp at hi
  have : i = 0 ∨ i = 1 ∨ i = 2 := by omega
  rcases this with rfl | rfl | rfl
  · exact ⟨_, 0, _, rfl, hx.cell (by simp [go_sem]) (by show w.heap.size + 1 + 1 + 1 ≠ P; omega) (by show w.heap.size + 1 + 1 + 1 ≠ R; omega), row _ _ ha c0⟩
  · exact ⟨_, 0, _, rfl, hx.cell (by simp [go_sem]) (by show w.heap.size + 1 + 1 + 1 ≠ P; omega) (by show w.heap.size + 1 + 1 + 1 ≠ R; omega), row _ _ hb c1⟩
  · exact ⟨_, 0, _, rfl, hx.cell (by simp [go_sem]) (by show w.heap.size + 1 + 1 + 1 ≠ P; omega) (by show w.heap.size + 1 + 1 + 1 ≠ R; omega), row _ _ hc c2⟩

set_option maxHeartbeats 2000000 in
set_option maxRecDepth 100000 in
theorem awake_any (w : World) : Calls Try.prog 9 #[] w fun e w' => e = .returned (.bool true) ∧ Below w.heap.size w w' := by
  have hnb : newB 4 1 65534 = true := by decide
  have hnew : Calls Try.prog 10 #[.int .i64 4, .int .i64 1, .int .i64 65534] w fun e w' => ∃ P R, e = .returned (.tuple #[.pointer (some ⟨P, 0, none⟩), .int .i64 0]) ∧ RingAt P R (newG 4 1 65534) w' ∧ (w.heap.size ≤ P ∧ w.heap.size ≤ R) ∧ Below w.heap.size w w' := (new_any 4 1 65534 w).mono (by
    rintro e w' (⟨_, h⟩ | ⟨h, _⟩)
    · exact h
    · rw [hnb] at h; cases h)
  have hok : (newG 4 1 65534).Ok := newG_ok (sz := 4) (ch := 1) hnb
  have e1 : writeK (newG 4 1 65534) [[1], [2], [3]] = 0 := by decide
  have e2 : writeU (newG 4 1 65534) [[1], [2], [3]] = 3 := by decide
  have e3 : (writeR (newG 4 1 65534) [[1], [2], [3]]).wc = 1 := by decide
  have e4 : (writeR (newG 4 1 65534) [[1], [2], [3]]).rc = 65534 := by decide
  have e5 : (writeR (newG 4 1 65534) [[1], [2], [3]]).wv = 65534 := by decide
  have e6 : (writeR (newG 4 1 65534) [[1], [2], [3]]).rv = 65534 := by decide
  have hroom : 0 ≤ (newG 4 1 65534).room' := by decide
  generalize newG 4 1 65534 = g at *
  have HOK := Lib.hid (And.intro hok hroom)
  have HE := Lib.hid (And.intro e1 e2)
  have HE2 := Lib.hid (And.intro e3 (And.intro e4 (And.intro e5 e6)))
  clear hok hroom e1 e2 e3 e4 e5 e6 hnb
  go_enter Try.func9, Try.ntmps9
  go_upto_region 4 with (go_at_call 10; (with_reducible refine hnew.mono ?_); rintro e w1 ⟨P, R, rfl, h1, h2, h3⟩; have HR := Lib.hid h1; have HL := Lib.hid (And.intro h2 h3); clear h1 h2 h3 hnew)
  obtain ⟨X, hX, hbX, hmat⟩ := mat3 w1 1 2 3 (by unfold I64; omega) (by unfold I64; omega) (by unfold I64; omega)
  have hwr := writeM_any P R g [[1], [2], [3]] _ X (HR.out.below hbX) HOK.out.1 (hmat P R HR.out.lt.1 HR.out.lt.2) HOK.out.2
  rw [HE.out.1, HE.out.2] at hwr
  have HBX := Lib.hid (And.intro hX hbX)
  clear hmat hbX
  subst hX
  go_upto_region 5 with (go_at_call 14; (with_reducible refine hwr.mono ?_); rintro e w2 ⟨rfl, h1, h2⟩; have HR2 := Lib.hid h1; have HG2 := Lib.hid h2; clear h1 h2 hwr)
  have hct := counters_any P R _ w2 HR2.out (by rw [HE2.out.1]; omega) (by rw [HE2.out.2.1]; omega) (by rw [HE2.out.2.2.1]; omega) (by rw [HE2.out.2.2.2]; omega)
  rw [HE2.out.1, HE2.out.2.1, HE2.out.2.2.1, HE2.out.2.2.2] at hct
  have HB2 : Hid (Below w.heap.size w w2) := Lib.hid (Gw.of_new (Below.then HL.out.2 (Nat.le_refl _) HBX.out.2) HL.out.1.1 HL.out.1.2 HG2.out)
  clear HBX
  go_wp2_with (go_at_call 34; (with_reducible refine hct.mono ?_); rintro e w3 ⟨rfl, h3⟩; have HB3 := Lib.hid (Below.then HB2.out (Nat.le_refl _) h3); clear h3 hct)
  go_ret
  exact ⟨rfl, HB3.out⟩
end Go.Proofs.Ytgcohmlapgnbdaa
