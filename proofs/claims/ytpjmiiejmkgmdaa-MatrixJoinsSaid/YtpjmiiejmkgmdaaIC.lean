/- A matrix made normal. -/
import Derived.Test.YtpjmiiejmkgmdaaIB
import Derived.Test.YtpjmiiejmkgmdaaHB
namespace Go.Proofs.Ytpjmiiejmkgmdaa
open Go.RowKit Go.Deep Go.Shelf

def normalM (m : List (List Int)) : List (List Int) := m.map normalR
theorem RowN.other {B : Nat} {w : World} {g n : Nat} {F : Nat → Int} (h : RowN B w g n F) {p : Addr} (hne : p.block ≠ g) (v : Value) : RowN B (w.setCell p v) g n F :=
  ⟨h.lo, by simpa using h.lt, fun i hi => by rw [World.cell?_setCell_other _ _ _ _ (fun e => hne (by rw [e]))]; exact h.cell i hi, fun i => by simpa using h.free i⟩
theorem RowN.below {B : Nat} {w w' : World} {g n : Nat} {F : Nat → Int} (h : RowN B w g n F) (hb : Below w.heap.size w w') : RowN B w' g n F :=
  ⟨h.lo, Nat.lt_of_lt_of_le h.lt hb.size, fun i hi => by rw [hb.cell (p := ⟨g, i, none⟩) h.lt]; exact h.cell i hi, fun i => by rw [hb.frozen (p := ⟨g, i, none⟩) h.lt]; exact h.free i⟩
theorem RowN.mono {B B' : Nat} {w : World} {g n : Nat} {F : Nat → Int} (h : RowN B w g n F) (hB : B' ≤ B) : RowN B' w g n F := ⟨Nat.le_trans hB h.lo, h.lt, h.cell, h.free⟩

/-- What holds at the head of the loop: the first k rows are made, each in a block of its own. -/
structure Nm (w wr : World) (O : Nat) (m : List (List Int)) (k : Nat) (T : Nat → Value) : Prop where
  below : Below w.heap.size w wr
  lo : w.heap.size ≤ O
  top : wr.rowIs O 22 m.length T
  done : ∀ j, j < k → ∃ g cap, T j = .slice (some ⟨g, 0, none⟩) (m.getD j []).length cap ∧ (m.getD j []).length ≤ cap ∧ O ≠ g ∧ RowN w.heap.size wr g (m.getD j []).length (fun i => scaled (m.getD j []) ((m.getD j []).getD i 0))
theorem Nm.step {w wr w1 : World} {O : Nat} {m : List (List Int)} {k : Nat} {T : Nat → Value} (h : Nm w wr O m k T) {g cap : Nat} (hb : Below wr.heap.size wr w1) (hc : (m.getD k []).length ≤ cap)
    (hr : RowN wr.heap.size w1 g (m.getD k []).length (fun i => scaled (m.getD k []) ((m.getD k []).getD i 0))) :
    Nm w (w1.setCell ⟨O, k, none⟩ (.slice (some ⟨g, 0, none⟩) (m.getD k []).length cap)) O m (k + 1) (fun j => if j = k then .slice (some ⟨g, 0, none⟩) (m.getD k []).length cap else T j) := by
  have hO := h.top.lt
  have hs := h.below.size
  refine ⟨(h.below.trans (hb.mono hs)).setCell h.lo _, h.lo, (h.top.of_block (hb.block _ hO)).set k _, fun j hj => ?_⟩
  by_cases e : j = k
  · subst e
    have := hr.lo
    exact ⟨g, cap, by simp, hc, by omega, (hr.mono hs).other (by show O ≠ g; omega) _⟩
  · obtain ⟨g', cap', e1, e2, e3, e4⟩ := h.done j (by omega)
    exact ⟨g', cap', by simp [e, e1], e2, e3, (e4.below hb).other (by exact e3) _⟩
theorem Nm.mat {w wr : World} {O : Nat} {m : List (List Int)} {T : Nat → Value} (h : Nm w wr O m m.length T) (hm : m.length ≤ 8) (hl : ∀ j, j < m.length → (m.getD j []).length ≤ 8) (hb : ∀ j k, ((m.getD j []).getD k 0).natAbs ≤ 655360) :
    MatIn wr (normalM m) (.slice (some ⟨O, 0, none⟩) m.length m.length) := by
  refine ⟨some ⟨O, 0, none⟩, m.length, by simp [normalM], fun i hi => ?_, by simp [normalM]; omega, by simp [normalM]⟩
  simp [normalM] at hi
  obtain ⟨g, cap, e1, e2, _, hr⟩ := h.done i hi
  refine ⟨O, 0, T i, rfl, by rw [Nat.zero_add]; exact h.top.cell hi, ?_⟩
  rw [e1, show (normalM m).getD i [] = normalR (m.getD i []) by simp [normalM, List.getD, hi]]
  have hl8 := hl i hi
  refine ⟨some ⟨g, 0, none⟩, cap, by rw [normalR_len], fun f hf => ⟨g, 0, rfl, ?_, ?_⟩, by rw [normalR_len]; omega, by rw [normalR_len]; exact e2⟩
  · rw [normalR_len] at hf
    rw [Nat.zero_add, hr.cell f hf, normalR_at hf]
  · rw [normalR_len] at hf
    rw [normalR_at hf]
    have h1 := hb i f
    have h2 := abs_tdiv ((m.getD i []).getD f 0 * 65536) (sumA (m.getD i []))
    unfold scaled I64
    split <;> omega

set_option maxHeartbeats 2000000 in
set_option maxRecDepth 100000 in
theorem normal1_ok (m : List (List Int)) (va : Value) (Bm : Nat) (w : World) (ha : MatIn w m va) (hcm : w.cell? ⟨Bm, 0, none⟩ = some va) (hvm : validM m = true) :
    Calls Try.prog 59 #[.pointer (some ⟨Bm, 0, none⟩)] w (Gives (fun u w => MatIn w (normalM m) u) w) := by
  obtain ⟨pm1, pm2, pm3, pm4⟩ := validM_parts hvm
  obtain ⟨a, ca, rfl, hin, _, _⟩ := id ha
  have h55 := matrixOf_ok m a ca w ha hvm
  have hmk24 := run_make_row' (P := Try.prog) 24 22 (.slice none 0 0) 24 Try.underlying24 Try.info22 rfl .i64 .i64 m.length (by omega) (by omega)
  have hlen : ∀ j, j < m.length → 1 ≤ (m.getD j []).length ∧ (m.getD j []).length ≤ 8 := fun j hj => by rw [pm3 j hj]; omega
  have HL := Lib.hid hlen
  have HB := Lib.hid pm4
  have HM := Lib.hid ha
  have hm8 : m.length ≤ 8 := pm1.2
  clear pm1 pm2 pm3 pm4 ha hvm hlen
  go_enter Try.func59, Try.ntmps59
  go_wp2_with (go_at_call 55; (with_reducible refine h55.mono ?_); rintro e w1 ⟨rfl, rfl⟩)
  clear h55 hmk24
  obtain ⟨X, hX⟩ : ∃ X, Obj.cells #[.int .i64 m.length, .int .i64 (cols m), .slice a m.length ca] 79 = X := ⟨_, rfl⟩
  have hst : ∃ T, Nm w (((w.alloc X).alloc X).alloc (.cells (madeCells #[.slice none 0 0] m.length) 22)) (w.heap.size + 1 + 1) m 0 T := by
    have h0 := World.rowIs_made ((w.alloc X).alloc X) (.slice none 0 0) m.length 22
    simp only [World.size_alloc] at h0
    exact ⟨_, (((Below.refl _ w).alloc (Nat.le_refl _) _).alloc (by simp) _).alloc (by simp; omega) _, by omega, h0, fun j hj => absurd hj (Nat.not_lt_zero _)⟩
  obtain ⟨T0, hN0⟩ := hst
  rw [hX]
  obtain ⟨W3, hW3⟩ : ∃ W3, ((w.alloc X).alloc X).alloc (.cells (madeCells #[.slice none 0 0] m.length) 22) = W3 := ⟨_, rfl⟩
  rw [hW3] at hN0 ⊢
  clear hX hW3
  go_loopw [15] (fun i wr => ∃ (k : Nat) (T : Nat → Value), i = .int .i64 k ∧ k ≤ m.length ∧ Nm w wr (w.heap.size + 1 + 1) m k T) (fun i _ => m.length - (intOf i).toNat)
  case atStart => exact ⟨0, T0, rfl, Nat.zero_le _, hN0⟩
  case round =>
    clear hN0
    obtain ⟨k, T, rfl, hk, hN⟩ := hrel
    by_cases hlt : k < m.length
    · obtain ⟨ba, off, u, rfl, hc, hu⟩ := (hin.mono (Same.of_below hN.below)) k hlt
      obtain ⟨l1, l2⟩ := HL.out k hlt
      have h60 := normal_any _ u wr hu l1 l2 (HB.out k)
      have HSTEP := Lib.hid (fun (w1 : World) (g cap : Nat) hb hc hr => hN.step (w1 := w1) (g := g) (cap := cap) hb hc hr)
      obtain ⟨p, hp⟩ : ∃ p, m.getD k [] = p := ⟨_, rfl⟩
      rw [hp] at hu h60 HSTEP
      obtain ⟨au, cu, rfl, _, _, _⟩ := hu
      have w4 : (k : Int) < (m.length : Int) := by omega
      have hOc := hN.top.cell hlt
      have hOf := hN.top.frozen k
      have hOlt := hN.top.lt
      have HN := Lib.hid hN
      clear hN l1 l2 hp
      go_wp2_with (go_at_call 60; (with_reducible refine h60.mono ?_); rintro e w1 ⟨g, cap, rfl, hcap, hrow, hb1⟩; have q1 := (Same.of_below hb1).cell hOc; have q2 : w1.frozen? ⟨w.heap.size + 1 + 1, k, none⟩ = false := (hb1.frozen (p := ⟨w.heap.size + 1 + 1, k, none⟩) hOlt).trans hOf; have HS := Lib.hid (HSTEP.out _ _ _ hb1 hcap hrow); clear hcap hrow hb1 h60)
      exact ⟨⟨k + 1, _, by go_num, by omega, HS.out⟩, by simp [intOf]; omega⟩
    · have w4 : ¬ (k : Int) < (m.length : Int) := by omega
      obtain rfl : k = m.length := by omega
      have hfin := hN.mat hm8 (fun j hj => (HL.out j hj).2) HB.out
      have hbl := hN.below
      have HF := Lib.hid hfin
      have HBL := Lib.hid hbl
      clear hN hfin hbl
      go_wp2_with fail
      go_ret
      exact ⟨_, rfl, HF.out, HBL.out⟩
end Go.Proofs.Ytpjmiiejmkgmdaa
