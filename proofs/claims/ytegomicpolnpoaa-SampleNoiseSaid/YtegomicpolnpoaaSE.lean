/- Bits, Level, Sample, Size: the document's. -/
import Derived.Test.YtegomicpolnpoaaSC
import Derived.Test.YtegomicpolnpoaaCA
import Derived.Test.YtegomicpolnpoaaSA
import Derived.Defers
import Derived.Recover
import Derived.Laws.Pointers
namespace Go.Proofs.Ytegomicpolnpoaa
open Go.RowKit

/-- An answer: a number and an error. -/
def IntAns (w : World) (n k : Int) (e : Ending) (w' : World) : Prop := e = .returned (.tuple #[.int .i64 n, .int .i64 k]) ∧ Below w.heap.size w w'
theorem encB_of {e : Nat} (h1 : 1 ≤ e) (h8 : e ≤ 8) : encB e = true := by simp [encB]; omega

set_option maxRecDepth 100000 in
theorem refLevel_no {n s : Int} (h : (encB n && (decide (-8388607 ≤ s) && decide (s ≤ 8388607))) = false) (w : World) : Calls Try.prog 13 #[.int .i64 n, .int .i64 s] w (IntAns w 0 7) := by
  cases hn : encB n with
  | false =>
    have hb := refBits_no hn w
    clear h hn
    go_enter Try.func13, Try.ntmps13
    go_wp2_with (go_at_call 11; (with_reducible refine hb.mono ?_); rintro e w1 ⟨rfl, rfl⟩)
    go_ret2
    exact ⟨rfl, Below.refl _ _⟩
  | true =>
    obtain ⟨a1, a2⟩ := encB_t hn
    obtain ⟨e, rfl⟩ : ∃ e : Nat, n = e := ⟨n.toNat, by omega⟩
    have hb := refBits_yes (e := e) (by omega) (by omega) w
    rw [hn, Bool.true_and] at h
    obtain ⟨B, hB⟩ : ∃ B, bitsN e = B := ⟨_, rfl⟩
    rw [hB] at hb
    have hs : s < -8388607 ∨ (¬ s < -8388607 ∧ 8388607 < s) := by simp at h; omega
    clear h hn hB
    rcases hs with hs | ⟨hs, hs2⟩
    · go_enter Try.func13, Try.ntmps13
      go_wp2_with (go_at_call 11; (with_reducible refine hb.mono ?_); rintro e w1 ⟨rfl, rfl⟩)
      go_ret2
      exact ⟨rfl, Below.refl _ _⟩
    · go_enter Try.func13, Try.ntmps13
      go_wp2_with (go_at_call 11; (with_reducible refine hb.mono ?_); rintro e w1 ⟨rfl, rfl⟩)
      go_ret2
      exact ⟨rfl, Below.refl _ _⟩
set_option maxRecDepth 100000 in
theorem refLevel_yes {e : Nat} (h1 : 1 ≤ e) (h8 : e ≤ 8) {s : Int} (h : okS s) (w : World) : Calls Try.prog 13 #[.int .i64 e, .int .i64 s] w (IntAns w (lvl (bitsN e) s) 0) := by
  have hb := refBits_yes h1 h8 w
  have hl := levelled_any h1 h8 s w h
  obtain ⟨a, b⟩ := h
  have a' : ¬ s < -8388607 := by omega
  have b' : ¬ 8388607 < s := by omega
  obtain ⟨L, hL⟩ : ∃ L, lvl (bitsN e) s = L := ⟨_, rfl⟩
  rw [hL] at hl ⊢
  obtain ⟨B, hB⟩ : ∃ B, bitsN e = B := ⟨_, rfl⟩
  rw [hB] at hb
  clear hL hB
  go_enter Try.func13, Try.ntmps13
  go_wp2_with (first
    | (go_at_call 11; (with_reducible refine hb.mono ?_); rintro e w1 ⟨rfl, rfl⟩)
    | (go_at_call 56; (with_reducible refine hl.mono ?_); rintro e w1 ⟨rfl, hbl⟩; have HBL := Lib.hid hbl; clear hbl))
  go_ret2
  exact ⟨rfl, HBL.out⟩
set_option maxRecDepth 100000 in
theorem refSample_no {n l : Int} (h : encB n = false ∨ ∃ e : Nat, n = e ∧ 1 ≤ e ∧ e ≤ 8 ∧ ¬ okL e l) (w : World) : Calls Try.prog 15 #[.int .i64 n, .int .i64 l] w (IntAns w 0 7) := by
  rcases h with hn | ⟨e, rfl, h1, h8, hl⟩
  · have hb := refBits_no hn w
    clear hn
    go_enter Try.func15, Try.ntmps15
    go_wp2_with (go_at_call 11; (with_reducible refine hb.mono ?_); rintro e w1 ⟨rfl, rfl⟩)
    go_ret2
    exact ⟨rfl, Below.refl _ _⟩
  · have hb := refBits_yes h1 h8 w
    have ht := refTop_any h1 h8
    have htb := topN_bd h1 h8
    unfold okL at hl
    obtain ⟨T, hT⟩ : ∃ T, topN (bitsN e) = T := ⟨_, rfl⟩
    rw [hT] at ht htb hl
    obtain ⟨B, hB⟩ : ∃ B, bitsN e = B := ⟨_, rfl⟩
    rw [hB] at hb
    obtain ⟨t1, t2⟩ := htb
    have HT := Lib.hid ht
    have hs : l < -T ∨ (¬ l < -T ∧ T < l) := by omega
    clear hl ht hT hB
    rcases hs with hs | ⟨hs, hs2⟩
    · have d1 : decide (l < -T) = true := by simpa using hs
      go_enter Try.func15, Try.ntmps15
      go_wp2_with (first
        | (go_at_call 11; (with_reducible refine hb.mono ?_); rintro e w1 ⟨rfl, rfl⟩)
        | (go_at_call 34; (with_reducible refine (HT.out _).mono ?_); rintro e w1 ⟨rfl, hb⟩; have HBW := Lib.hid hb; clear hb))
      go_ret2
      exact ⟨rfl, HBW.out⟩
    · have d1 : decide (l < -T) = false := by simpa using hs
      have d2 : decide (T < l) = true := by simpa using hs2
      go_enter Try.func15, Try.ntmps15
      go_wp2_with (first
        | (go_at_call 11; (with_reducible refine hb.mono ?_); rintro e w1 ⟨rfl, rfl⟩)
        | (go_at_call 34; (with_reducible refine (HT.out _).mono ?_); rintro e w1 ⟨rfl, hb⟩; have HBW := Lib.hid hb; clear hb))
      go_ret2
      rename_i w2 HB2
      exact ⟨rfl, Below.then HB2.out (Nat.le_refl _) HBW.out⟩
set_option maxRecDepth 100000 in
theorem refSample_yes {e : Nat} (h1 : 1 ≤ e) (h8 : e ≤ 8) {l : Int} (h : okL e l) (w : World) : Calls Try.prog 15 #[.int .i64 e, .int .i64 l] w (IntAns w (smp (bitsN e) l) 0) := by
  have hb := refBits_yes h1 h8 w
  have hl := fun w => sampled_any h1 h8 l w h
  have ht := refTop_any h1 h8
  have htb := topN_bd h1 h8
  unfold okL at h
  obtain ⟨L, hL⟩ : ∃ L, smp (bitsN e) l = L := ⟨_, rfl⟩
  rw [hL] at hl ⊢
  obtain ⟨T, hT⟩ : ∃ T, topN (bitsN e) = T := ⟨_, rfl⟩
  rw [hT] at ht htb h
  obtain ⟨B, hB⟩ : ∃ B, bitsN e = B := ⟨_, rfl⟩
  rw [hB] at hb
  obtain ⟨t1, t2⟩ := htb
  obtain ⟨a, b⟩ := h
  have a' : ¬ l < -T := by omega
  have b' : ¬ T < l := by omega
  have d1 : decide (l < -T) = false := by simpa using a'
  have d2 : decide (T < l) = false := by simpa using b'
  have HT := Lib.hid ht
  have HL := Lib.hid hl
  clear ht hl hL hB hT
  go_enter Try.func15, Try.ntmps15
  go_wp2_with (first
    | (go_at_call 11; (with_reducible refine hb.mono ?_); rintro e w1 ⟨rfl, rfl⟩)
    | (go_at_call 60; (with_reducible refine (HL.out _).mono ?_); rintro e w1 ⟨rfl, hbl⟩; have HBL := Lib.hid hbl; clear hbl)
    | (go_at_call 34; (with_reducible refine (HT.out _).mono ?_); rintro e w1 ⟨rfl, hb⟩; have HBW := Lib.hid hb; clear hb))
  go_ret2
  rename_i w2 HB2 _
  exact ⟨rfl, Below.then (Below.then HB2.out (Nat.le_refl _) HBW.out) (Nat.le_refl _) HBL.out⟩
set_option maxRecDepth 100000 in
theorem refSize_no {n c f : Int} (h : (encB n && (encB c && frB f)) = false) (w : World) : Calls Try.prog 17 #[.int .i64 n, .int .i64 c, .int .i64 f] w (IntAns w 0 7) := by
  cases hn : encB n with
  | false =>
    have hb := refBits_no hn w
    clear h hn
    go_enter Try.func17, Try.ntmps17
    go_wp2_with (go_at_call 11; (with_reducible refine hb.mono ?_); rintro e w1 ⟨rfl, rfl⟩)
    go_ret2
    exact ⟨rfl, Below.refl _ _⟩
  | true =>
    obtain ⟨a1, a2⟩ := encB_t hn
    obtain ⟨e, rfl⟩ : ∃ e : Nat, n = e := ⟨n.toNat, by omega⟩
    have hb := refBits_yes (e := e) (by omega) (by omega) w
    rw [hn, Bool.true_and] at h
    obtain ⟨B, hB⟩ : ∃ B, bitsN e = B := ⟨_, rfl⟩
    rw [hB] at hb
    have hc := ref_channels1 c w
    clear hn hB
    cases h3 : encB c with
    | false =>
      rw [h3] at hc
      clear h h3
      go_enter Try.func17, Try.ntmps17
      go_wp2_with (first
        | (go_at_call 11; (with_reducible refine hb.mono ?_); rintro e w1 ⟨rfl, rfl⟩)
        | (go_at_call 65; (with_reducible refine hc.mono ?_); rintro e w1 ⟨rfl, rfl⟩))
      go_ret2
      exact ⟨rfl, Below.refl _ _⟩
    | true =>
      rw [h3] at hc h
      rw [Bool.true_and] at h
      have hs : f < 0 ∨ (¬ f < 0 ∧ 4096 < f) := by have := frB_f h; omega
      clear h h3
      rcases hs with hs | ⟨hs, hs2⟩
      · have d1 : decide (f < 0) = true := by simpa using hs
        go_enter Try.func17, Try.ntmps17
        go_wp2_with (first
          | (go_at_call 11; (with_reducible refine hb.mono ?_); rintro e w1 ⟨rfl, rfl⟩)
          | (go_at_call 65; (with_reducible refine hc.mono ?_); rintro e w1 ⟨rfl, rfl⟩))
        go_ret2
        exact ⟨rfl, Below.refl _ _⟩
      · have d1 : decide (f < 0) = false := by simpa using hs
        have d2 : decide (4096 < f) = true := by simpa using hs2
        go_enter Try.func17, Try.ntmps17
        go_wp2_with (first
          | (go_at_call 11; (with_reducible refine hb.mono ?_); rintro e w1 ⟨rfl, rfl⟩)
          | (go_at_call 65; (with_reducible refine hc.mono ?_); rintro e w1 ⟨rfl, rfl⟩))
        go_ret2
        exact ⟨rfl, Below.refl _ _⟩
def sizeN (e : Nat) (c f : Int) : Int := c * f * ((e + 1) / 2 : Nat)
theorem size_bits {e : Nat} {c f : Int} : sizeN e c f = ((bitsN e : Int) / 8) * c * f := by
  unfold sizeN bitsN
  rw [show ((8 * ((e + 1) / 2) : Nat) : Int) / 8 = ((e + 1) / 2 : Nat) by omega]
  rw [Int.mul_comm (c * f) _, Int.mul_assoc]
theorem prod_bd {a b : Int} {A B : Int} (h0 : 0 ≤ a) (h1 : a ≤ A) (k0 : 0 ≤ b) (k1 : b ≤ B) : 0 ≤ a * b ∧ a * b ≤ A * B :=
  ⟨Int.mul_nonneg h0 k0, Int.mul_le_mul h1 k1 k0 (by omega)⟩
set_option maxRecDepth 100000 in
theorem refSize_yes {e : Nat} (h1 : 1 ≤ e) (h8 : e ≤ 8) {c f : Int} (hc : encB c = true) (hf : frB f = true) (w : World) : Calls Try.prog 17 #[.int .i64 e, .int .i64 c, .int .i64 f] w (IntAns w (sizeN e c f) 0) := by
  have hb := refBits_yes h1 h8 w
  have hcc := ref_channels1 c w
  rw [hc] at hcc
  rw [size_bits]
  obtain ⟨c1, c2⟩ := encB_t hc
  obtain ⟨f1, f2⟩ := frB_t hf
  have hB8 : 0 ≤ (bitsN e : Int) ∧ (bitsN e : Int) ≤ 32 := by unfold bitsN; omega
  obtain ⟨B, hB⟩ : ∃ B, bitsN e = B := ⟨_, rfl⟩
  rw [hB] at hb hB8 ⊢
  obtain ⟨b1, b2⟩ := hB8
  have m1 := prod_bd (a := (B : Int) / 8) (b := c) (A := 4) (B := 8) (by omega) (by omega) (by omega) (by omega)
  have m2 := prod_bd (a := (B : Int) / 8 * c) (b := f) (A := 32) (B := 4096) m1.1 m1.2 (by omega) (by omega)
  obtain ⟨m3, m4⟩ := m1
  obtain ⟨m5, m6⟩ := m2
  have g1 : ¬ f < 0 := by omega
  have g2 : ¬ 4096 < f := by omega
  have d1 : decide (f < 0) = false := by simpa using g1
  have d2 : decide (4096 < f) = false := by simpa using g2
  clear hc hf hB
  go_enter Try.func17, Try.ntmps17
  go_wp2_with (first
    | (go_at_call 11; (with_reducible refine hb.mono ?_); rintro e w1 ⟨rfl, rfl⟩)
    | (go_at_call 65; (with_reducible refine hcc.mono ?_); rintro e w1 ⟨rfl, rfl⟩))
  go_ret2
  exact ⟨rfl, Below.refl _ _⟩
end Go.Proofs.Ytegomicpolnpoaa
namespace Go.Proofs.Ytegomicpolnpoaa
open Go.RowKit

/-- What a builder gives, that fits: a list of rows of which Φ holds. -/
def Gives (Φ : Value → World → Prop) (w : World) (e : Ending) (w' : World) : Prop := ∃ u, e = .returned u ∧ Φ u w' ∧ Below w.heap.size w w'
def GivesOk (Φ : Value → World → Prop) (k : Int) (w : World) (e : Ending) (w' : World) : Prop := ∃ u, e = .returned (.tuple #[u, .int .i64 k]) ∧ Φ u w' ∧ Below w.heap.size w w'

theorem Same.trans {w w1 w2 : World} (h : Same w w1) (hs : w.heap.size ≤ w1.heap.size) (h2 : Same w1 w2) : Same w w2 := fun a ha => (h2 a (Nat.lt_of_lt_of_le ha hs)).trans (h a ha)
/-- A store of what lies there already. -/
theorem Same.again {w : World} {p : Addr} {v : Value} (h : w.cell? p = some v) : Same w (w.setCell p v) := fun a _ => by
  by_cases e : p = a
  · subst e; rw [World.cell?_setCell_same _ _ _ h, h]
  · rw [World.cell?_setCell_other _ _ _ _ e]

set_option maxRecDepth 100000 in
theorem catch102_pan (p : Addr) (x k : Int) (w : World) (hc : w.cell? p = some (.int .i64 x)) (hz : w.frozen? p = false) :
    CallsD Try.prog 102 #[.pointer (some p)] (.panicking (misfit k)) w fun e u' w' =>
      e = .returned (.tuple #[]) ∧ u' = .panicking [{ v := .iface 116 (.agg #[.int .i64 k]), recovered := true }] ∧ w' = (w.alloc (.cells #[.int .i64 k] 116)).setCell p (.int .i64 k) := by
  unfold misfit
  have hta : ∀ w : World, (Instr.typeAssert (.iface 116 (.agg #[.int .i64 k])) 20 116 true).run Try.prog w = .ok (.tuple #[.agg #[.int .i64 k], .bool true]) w := fun _ => by kernel_rfl
  have hlt := cell_lt hc
  have hc2 := (Same.alloc w (.cells #[.int .i64 k] 116)).cell hc
  have hz2 : (w.alloc (.cells #[.int .i64 k] 116)).frozen? p = false := (World.frozen?_of_block (w := w) (Below.heap_alloc w _ p.block hlt)).trans hz
  refine callsD_of_wpS Try.func102 rfl fun c₀ cs hu => ?_
  apply wpS_seq
  apply wpS_region
  simp [wpOpsS, go_sem, recoverD, hu, Try.ntmps102, Exit.thenS, hta]
  apply wpS_seq
  apply wpS_region
  simp [wpOpsS, go_sem, Exit.thenS]
  refine wpS_cond (t := true) (by simp [Act.eval, Array.replicate]) ?_
  simp only [if_true]
  apply wpS_region
  simp [wpOpsS, go_sem, hc2, hz2, bodyPostS, results, Try.results102, Array.replicate]
set_option maxRecDepth 100000 in
theorem catch102_idle (p : Addr) (w : World) :
    CallsD Try.prog 102 #[.pointer (some p)] .returning w fun e u' w' =>
      e = .returned (.tuple #[]) ∧ u' = .returning ∧ w' = w.alloc (.cells #[.int .i64 0] 116) := by
  have hta : ∀ w : World, (Instr.typeAssert .nilIface 20 116 true).run Try.prog w = .ok (.tuple #[.agg #[.int .i64 0], .bool false]) w := fun _ => by kernel_rfl
  refine callsD_of_wpS Try.func102 rfl fun c₀ cs hu => ?_
  apply wpS_seq
  apply wpS_region
  simp [wpOpsS, go_sem, recoverD, hu, Try.ntmps102, Exit.thenS, hta]
  apply wpS_seq
  apply wpS_region
  simp [wpOpsS, go_sem, Exit.thenS]
  refine wpS_cond (t := false) (by simp [Act.eval, Array.replicate]) ?_
  simp only [Bool.false_eq_true, if_false]
  refine wpS_of_wp (wp_skip ?_)
  cases c₀
  simp_all [bodyPostS, results, Try.results102]

set_option maxHeartbeats 1000000 in
set_option maxRecDepth 100000 in
theorem fitted49_ok (f : FuncId) (caps : Array Value) (w : World) (Φ : Value → World → Prop) (hΦ : ∀ u w1 w2, Same w1 w2 → Φ u w1 → Φ u w2)
    (hcf : ∀ w : World, (callFunc f caps).run Try.prog w = .ok (.enter f caps) w)
    (hc : Calls Try.prog f caps (w.alloc (.cells #[.int .i64 0] 22)) (Gives Φ (w.alloc (.cells #[.int .i64 0] 22)))) :
    Calls Try.prog 49 #[.func (.func f) #[] caps] w (GivesOk Φ 0 w) := by
  have hmf : ∀ (fn : Fn) (first cap : Array Value) (w : World), (Instr.makeFunc fn first cap).run Try.prog w = .ok (.func fn first cap) w := fun _ _ _ _ => rfl
  go_enter_defers Try.func49, Try.ntmps49
  go_wp2_with fail
  refine hc.mono ?_
  rintro e w1 ⟨u, rfl, hu, hb⟩
  have hlt : w.heap.size < w1.heap.size := by have := hb.size; simp at this; omega
  have k1 : w1.cell? ⟨w.heap.size, 0, none⟩ = some (.int .i64 0) := by rw [hb.cell (by simp)]; simp [go_sem]
  have k2 : w1.frozen? ⟨w.heap.size, 0, none⟩ = false := by rw [hb.frozen (by simp)]; simp [go_sem]
  have HB := Lib.hid hb
  have HU := Lib.hid hu
  clear hb hu hc
  go_wp2_with fail
  refine leaves_cons (f := 102) (args := #[.pointer (some ⟨w.heap.size, 0, none⟩)]) (by simp) (by simp [go_sem]) ?_
  refine (catch102_idle ⟨w.heap.size, 0, none⟩ _).mono ?_
  rintro e u' w'' ⟨rfl, rfl, rfl⟩
  have k3 : ((w1.setCell ⟨w.heap.size, 0, none⟩ (.int .i64 0)).alloc (.cells #[.int .i64 0] 116)).cell? ⟨w.heap.size, 0, none⟩ = some (.int .i64 0) :=
    (Same.alloc _ _).cell (World.cell?_setCell_same _ _ _ k1)
  have hs : Same w1 ((w1.setCell ⟨w.heap.size, 0, none⟩ (.int .i64 0)).alloc (.cells #[.int .i64 0] 116)) := (Same.again k1).trans (by simp) (Same.alloc _ _)
  have hbel : Below w.heap.size w ((w1.setCell ⟨w.heap.size, 0, none⟩ (.int .i64 0)).alloc (.cells #[.int .i64 0] 116)) :=
    ((((Below.refl _ w).alloc (Nat.le_refl _) _).trans (HB.out.mono (by simp))).setCell (Nat.le_refl _) _).alloc (by simp; omega) _
  have hfin := hΦ _ _ _ hs HU.out
  simp [Leaves, settle, results, Try.results49, go_sem, k3]
  exact ⟨u, rfl, hfin, hbel⟩

set_option maxHeartbeats 1000000 in
set_option maxRecDepth 100000 in
theorem fitted49_no (f : FuncId) (caps : Array Value) (k : Int) (w : World)
    (hcf : ∀ w : World, (callFunc f caps).run Try.prog w = .ok (.enter f caps) w)
    (hc : Calls Try.prog f caps (w.alloc (.cells #[.int .i64 0] 22)) (LeavesX k (w.alloc (.cells #[.int .i64 0] 22)))) :
    Calls Try.prog 49 #[.func (.func f) #[] caps] w fun e w' => e = .returned (.tuple #[.int .i64 0, .int .i64 k]) ∧ Below w.heap.size w w' := by
  have hmf : ∀ (fn : Fn) (first cap : Array Value) (w : World), (Instr.makeFunc fn first cap).run Try.prog w = .ok (.func fn first cap) w := fun _ _ _ _ => rfl
  go_enter_defers Try.func49, Try.ntmps49
  go_wp2_with fail
  refine hc.mono ?_
  rintro e w1 ⟨rfl, hb⟩
  have hlt : w.heap.size < w1.heap.size := by have := hb.size; simp at this; omega
  have k1 : w1.cell? ⟨w.heap.size, 0, none⟩ = some (.int .i64 0) := by rw [hb.cell (by simp)]; simp [go_sem]
  have k2 : w1.frozen? ⟨w.heap.size, 0, none⟩ = false := by rw [hb.frozen (by simp)]; simp [go_sem]
  have HB := Lib.hid hb
  clear hb hc
  go_wp2_with fail
  refine leaves_cons (f := 102) (args := #[.pointer (some ⟨w.heap.size, 0, none⟩)]) (by simp) (by simp [go_sem]) ?_
  refine (catch102_pan ⟨w.heap.size, 0, none⟩ 0 k _ k1 k2).mono ?_
  rintro e u' w'' ⟨rfl, rfl, rfl⟩
  have k3 : ((w1.alloc (.cells #[.int .i64 k] 116)).setCell ⟨w.heap.size, 0, none⟩ (.int .i64 k)).cell? ⟨w.heap.size, 0, none⟩ = some (.int .i64 k) :=
    World.cell?_setCell_same _ _ _ ((Same.alloc _ _).cell k1)
  have hbel : Below w.heap.size w ((w1.alloc (.cells #[.int .i64 k] 116)).setCell ⟨w.heap.size, 0, none⟩ (.int .i64 k)) :=
    ((((Below.refl _ w).alloc (Nat.le_refl _) _).trans (HB.out.mono (by simp))).alloc (by omega) _).setCell (Nat.le_refl _) _
  simp [Leaves, settle, results, Try.results49, go_sem, k3]
  exact hbel
set_option maxRecDepth 100000 in
theorem catch105_pan (p : Addr) (x k : Int) (w : World) (hc : w.cell? p = some (.int .i64 x)) (hz : w.frozen? p = false) :
    CallsD Try.prog 105 #[.pointer (some p)] (.panicking (misfit k)) w fun e u' w' =>
      e = .returned (.tuple #[]) ∧ u' = .panicking [{ v := .iface 116 (.agg #[.int .i64 k]), recovered := true }] ∧ w' = (w.alloc (.cells #[.int .i64 k] 116)).setCell p (.int .i64 k) := by
  unfold misfit
  have hta : ∀ w : World, (Instr.typeAssert (.iface 116 (.agg #[.int .i64 k])) 20 116 true).run Try.prog w = .ok (.tuple #[.agg #[.int .i64 k], .bool true]) w := fun _ => by kernel_rfl
  have hlt := cell_lt hc
  have hc2 := (Same.alloc w (.cells #[.int .i64 k] 116)).cell hc
  have hz2 : (w.alloc (.cells #[.int .i64 k] 116)).frozen? p = false := (World.frozen?_of_block (w := w) (Below.heap_alloc w _ p.block hlt)).trans hz
  refine callsD_of_wpS Try.func105 rfl fun c₀ cs hu => ?_
  apply wpS_seq
  apply wpS_region
  simp [wpOpsS, go_sem, recoverD, hu, Try.ntmps105, Exit.thenS, hta]
  apply wpS_seq
  apply wpS_region
  simp [wpOpsS, go_sem, Exit.thenS]
  refine wpS_cond (t := true) (by simp [Act.eval, Array.replicate]) ?_
  simp only [if_true]
  apply wpS_region
  simp [wpOpsS, go_sem, hc2, hz2, bodyPostS, results, Try.results105, Array.replicate]
set_option maxRecDepth 100000 in
theorem catch105_idle (p : Addr) (w : World) :
    CallsD Try.prog 105 #[.pointer (some p)] .returning w fun e u' w' =>
      e = .returned (.tuple #[]) ∧ u' = .returning ∧ w' = w.alloc (.cells #[.int .i64 0] 116) := by
  have hta : ∀ w : World, (Instr.typeAssert .nilIface 20 116 true).run Try.prog w = .ok (.tuple #[.agg #[.int .i64 0], .bool false]) w := fun _ => by kernel_rfl
  refine callsD_of_wpS Try.func105 rfl fun c₀ cs hu => ?_
  apply wpS_seq
  apply wpS_region
  simp [wpOpsS, go_sem, recoverD, hu, Try.ntmps105, Exit.thenS, hta]
  apply wpS_seq
  apply wpS_region
  simp [wpOpsS, go_sem, Exit.thenS]
  refine wpS_cond (t := false) (by simp [Act.eval, Array.replicate]) ?_
  simp only [Bool.false_eq_true, if_false]
  refine wpS_of_wp (wp_skip ?_)
  cases c₀
  simp_all [bodyPostS, results, Try.results105]

set_option maxHeartbeats 1000000 in
set_option maxRecDepth 100000 in
theorem fitted66_ok (f : FuncId) (caps : Array Value) (w : World) (Φ : Value → World → Prop) (hΦ : ∀ u w1 w2, Same w1 w2 → Φ u w1 → Φ u w2)
    (hcf : ∀ w : World, (callFunc f caps).run Try.prog w = .ok (.enter f caps) w)
    (hc : Calls Try.prog f caps (w.alloc (.cells #[.int .i64 0] 22)) (Gives Φ (w.alloc (.cells #[.int .i64 0] 22)))) :
    Calls Try.prog 66 #[.func (.func f) #[] caps] w (GivesOk Φ 0 w) := by
  have hmf : ∀ (fn : Fn) (first cap : Array Value) (w : World), (Instr.makeFunc fn first cap).run Try.prog w = .ok (.func fn first cap) w := fun _ _ _ _ => rfl
  go_enter_defers Try.func66, Try.ntmps66
  go_wp2_with fail
  refine hc.mono ?_
  rintro e w1 ⟨u, rfl, hu, hb⟩
  have hlt : w.heap.size < w1.heap.size := by have := hb.size; simp at this; omega
  have k1 : w1.cell? ⟨w.heap.size, 0, none⟩ = some (.int .i64 0) := by rw [hb.cell (by simp)]; simp [go_sem]
  have k2 : w1.frozen? ⟨w.heap.size, 0, none⟩ = false := by rw [hb.frozen (by simp)]; simp [go_sem]
  have HB := Lib.hid hb
  have HU := Lib.hid hu
  clear hb hu hc
  go_wp2_with fail
  refine leaves_cons (f := 105) (args := #[.pointer (some ⟨w.heap.size, 0, none⟩)]) (by simp) (by simp [go_sem]) ?_
  refine (catch105_idle ⟨w.heap.size, 0, none⟩ _).mono ?_
  rintro e u' w'' ⟨rfl, rfl, rfl⟩
  have k3 : ((w1.setCell ⟨w.heap.size, 0, none⟩ (.int .i64 0)).alloc (.cells #[.int .i64 0] 116)).cell? ⟨w.heap.size, 0, none⟩ = some (.int .i64 0) :=
    (Same.alloc _ _).cell (World.cell?_setCell_same _ _ _ k1)
  have hs : Same w1 ((w1.setCell ⟨w.heap.size, 0, none⟩ (.int .i64 0)).alloc (.cells #[.int .i64 0] 116)) := (Same.again k1).trans (by simp) (Same.alloc _ _)
  have hbel : Below w.heap.size w ((w1.setCell ⟨w.heap.size, 0, none⟩ (.int .i64 0)).alloc (.cells #[.int .i64 0] 116)) :=
    ((((Below.refl _ w).alloc (Nat.le_refl _) _).trans (HB.out.mono (by simp))).setCell (Nat.le_refl _) _).alloc (by simp; omega) _
  have hfin := hΦ _ _ _ hs HU.out
  simp [Leaves, settle, results, Try.results66, go_sem, k3]
  exact ⟨u, rfl, hfin, hbel⟩

set_option maxHeartbeats 1000000 in
set_option maxRecDepth 100000 in
theorem fitted66_no (f : FuncId) (caps : Array Value) (k : Int) (w : World)
    (hcf : ∀ w : World, (callFunc f caps).run Try.prog w = .ok (.enter f caps) w)
    (hc : Calls Try.prog f caps (w.alloc (.cells #[.int .i64 0] 22)) (LeavesX k (w.alloc (.cells #[.int .i64 0] 22)))) :
    Calls Try.prog 66 #[.func (.func f) #[] caps] w fun e w' => e = .returned (.tuple #[.string ⟨#[]⟩, .int .i64 k]) ∧ Below w.heap.size w w' := by
  have hmf : ∀ (fn : Fn) (first cap : Array Value) (w : World), (Instr.makeFunc fn first cap).run Try.prog w = .ok (.func fn first cap) w := fun _ _ _ _ => rfl
  go_enter_defers Try.func66, Try.ntmps66
  go_wp2_with fail
  refine hc.mono ?_
  rintro e w1 ⟨rfl, hb⟩
  have hlt : w.heap.size < w1.heap.size := by have := hb.size; simp at this; omega
  have k1 : w1.cell? ⟨w.heap.size, 0, none⟩ = some (.int .i64 0) := by rw [hb.cell (by simp)]; simp [go_sem]
  have k2 : w1.frozen? ⟨w.heap.size, 0, none⟩ = false := by rw [hb.frozen (by simp)]; simp [go_sem]
  have HB := Lib.hid hb
  clear hb hc
  go_wp2_with fail
  refine leaves_cons (f := 105) (args := #[.pointer (some ⟨w.heap.size, 0, none⟩)]) (by simp) (by simp [go_sem]) ?_
  refine (catch105_pan ⟨w.heap.size, 0, none⟩ 0 k _ k1 k2).mono ?_
  rintro e u' w'' ⟨rfl, rfl, rfl⟩
  have k3 : ((w1.alloc (.cells #[.int .i64 k] 116)).setCell ⟨w.heap.size, 0, none⟩ (.int .i64 k)).cell? ⟨w.heap.size, 0, none⟩ = some (.int .i64 k) :=
    World.cell?_setCell_same _ _ _ ((Same.alloc _ _).cell k1)
  have hbel : Below w.heap.size w ((w1.alloc (.cells #[.int .i64 k] 116)).setCell ⟨w.heap.size, 0, none⟩ (.int .i64 k)) :=
    ((((Below.refl _ w).alloc (Nat.le_refl _) _).trans (HB.out.mono (by simp))).alloc (by omega) _).setCell (Nat.le_refl _) _
  simp [Leaves, settle, results, Try.results66, go_sem, k3]
  exact hbel
set_option maxRecDepth 100000 in
theorem catch114_pan (p : Addr) (x k : Int) (w : World) (hc : w.cell? p = some (.int .i64 x)) (hz : w.frozen? p = false) :
    CallsD Try.prog 114 #[.pointer (some p)] (.panicking (misfit k)) w fun e u' w' =>
      e = .returned (.tuple #[]) ∧ u' = .panicking [{ v := .iface 116 (.agg #[.int .i64 k]), recovered := true }] ∧ w' = (w.alloc (.cells #[.int .i64 k] 116)).setCell p (.int .i64 k) := by
  unfold misfit
  have hta : ∀ w : World, (Instr.typeAssert (.iface 116 (.agg #[.int .i64 k])) 20 116 true).run Try.prog w = .ok (.tuple #[.agg #[.int .i64 k], .bool true]) w := fun _ => by kernel_rfl
  have hlt := cell_lt hc
  have hc2 := (Same.alloc w (.cells #[.int .i64 k] 116)).cell hc
  have hz2 : (w.alloc (.cells #[.int .i64 k] 116)).frozen? p = false := (World.frozen?_of_block (w := w) (Below.heap_alloc w _ p.block hlt)).trans hz
  refine callsD_of_wpS Try.func114 rfl fun c₀ cs hu => ?_
  apply wpS_seq
  apply wpS_region
  simp [wpOpsS, go_sem, recoverD, hu, Try.ntmps114, Exit.thenS, hta]
  apply wpS_seq
  apply wpS_region
  simp [wpOpsS, go_sem, Exit.thenS]
  refine wpS_cond (t := true) (by simp [Act.eval, Array.replicate]) ?_
  simp only [if_true]
  apply wpS_region
  simp [wpOpsS, go_sem, hc2, hz2, bodyPostS, results, Try.results114, Array.replicate]
set_option maxRecDepth 100000 in
theorem catch114_idle (p : Addr) (w : World) :
    CallsD Try.prog 114 #[.pointer (some p)] .returning w fun e u' w' =>
      e = .returned (.tuple #[]) ∧ u' = .returning ∧ w' = w.alloc (.cells #[.int .i64 0] 116) := by
  have hta : ∀ w : World, (Instr.typeAssert .nilIface 20 116 true).run Try.prog w = .ok (.tuple #[.agg #[.int .i64 0], .bool false]) w := fun _ => by kernel_rfl
  refine callsD_of_wpS Try.func114 rfl fun c₀ cs hu => ?_
  apply wpS_seq
  apply wpS_region
  simp [wpOpsS, go_sem, recoverD, hu, Try.ntmps114, Exit.thenS, hta]
  apply wpS_seq
  apply wpS_region
  simp [wpOpsS, go_sem, Exit.thenS]
  refine wpS_cond (t := false) (by simp [Act.eval, Array.replicate]) ?_
  simp only [Bool.false_eq_true, if_false]
  refine wpS_of_wp (wp_skip ?_)
  cases c₀
  simp_all [bodyPostS, results, Try.results114]

set_option maxHeartbeats 1000000 in
set_option maxRecDepth 100000 in
theorem fitted77_ok (f : FuncId) (caps : Array Value) (w : World) (Φ : Value → World → Prop) (hΦ : ∀ u w1 w2, Same w1 w2 → Φ u w1 → Φ u w2)
    (hcf : ∀ w : World, (callFunc f caps).run Try.prog w = .ok (.enter f caps) w)
    (hc : Calls Try.prog f caps (w.alloc (.cells #[.int .i64 0] 22)) (Gives Φ (w.alloc (.cells #[.int .i64 0] 22)))) :
    Calls Try.prog 77 #[.func (.func f) #[] caps] w (GivesOk Φ 0 w) := by
  have hmf : ∀ (fn : Fn) (first cap : Array Value) (w : World), (Instr.makeFunc fn first cap).run Try.prog w = .ok (.func fn first cap) w := fun _ _ _ _ => rfl
  go_enter_defers Try.func77, Try.ntmps77
  go_wp2_with fail
  refine hc.mono ?_
  rintro e w1 ⟨u, rfl, hu, hb⟩
  have hlt : w.heap.size < w1.heap.size := by have := hb.size; simp at this; omega
  have k1 : w1.cell? ⟨w.heap.size, 0, none⟩ = some (.int .i64 0) := by rw [hb.cell (by simp)]; simp [go_sem]
  have k2 : w1.frozen? ⟨w.heap.size, 0, none⟩ = false := by rw [hb.frozen (by simp)]; simp [go_sem]
  have HB := Lib.hid hb
  have HU := Lib.hid hu
  clear hb hu hc
  go_wp2_with fail
  refine leaves_cons (f := 114) (args := #[.pointer (some ⟨w.heap.size, 0, none⟩)]) (by simp) (by simp [go_sem]) ?_
  refine (catch114_idle ⟨w.heap.size, 0, none⟩ _).mono ?_
  rintro e u' w'' ⟨rfl, rfl, rfl⟩
  have k3 : ((w1.setCell ⟨w.heap.size, 0, none⟩ (.int .i64 0)).alloc (.cells #[.int .i64 0] 116)).cell? ⟨w.heap.size, 0, none⟩ = some (.int .i64 0) :=
    (Same.alloc _ _).cell (World.cell?_setCell_same _ _ _ k1)
  have hs : Same w1 ((w1.setCell ⟨w.heap.size, 0, none⟩ (.int .i64 0)).alloc (.cells #[.int .i64 0] 116)) := (Same.again k1).trans (by simp) (Same.alloc _ _)
  have hbel : Below w.heap.size w ((w1.setCell ⟨w.heap.size, 0, none⟩ (.int .i64 0)).alloc (.cells #[.int .i64 0] 116)) :=
    ((((Below.refl _ w).alloc (Nat.le_refl _) _).trans (HB.out.mono (by simp))).setCell (Nat.le_refl _) _).alloc (by simp; omega) _
  have hfin := hΦ _ _ _ hs HU.out
  simp [Leaves, settle, results, Try.results77, go_sem, k3]
  exact ⟨u, rfl, hfin, hbel⟩

set_option maxHeartbeats 1000000 in
set_option maxRecDepth 100000 in
theorem fitted77_no (f : FuncId) (caps : Array Value) (k : Int) (w : World)
    (hcf : ∀ w : World, (callFunc f caps).run Try.prog w = .ok (.enter f caps) w)
    (hc : Calls Try.prog f caps (w.alloc (.cells #[.int .i64 0] 22)) (LeavesX k (w.alloc (.cells #[.int .i64 0] 22)))) :
    Calls Try.prog 77 #[.func (.func f) #[] caps] w fun e w' => e = .returned (.tuple #[.slice none 0 0, .int .i64 k]) ∧ Below w.heap.size w w' := by
  have hmf : ∀ (fn : Fn) (first cap : Array Value) (w : World), (Instr.makeFunc fn first cap).run Try.prog w = .ok (.func fn first cap) w := fun _ _ _ _ => rfl
  go_enter_defers Try.func77, Try.ntmps77
  go_wp2_with fail
  refine hc.mono ?_
  rintro e w1 ⟨rfl, hb⟩
  have hlt : w.heap.size < w1.heap.size := by have := hb.size; simp at this; omega
  have k1 : w1.cell? ⟨w.heap.size, 0, none⟩ = some (.int .i64 0) := by rw [hb.cell (by simp)]; simp [go_sem]
  have k2 : w1.frozen? ⟨w.heap.size, 0, none⟩ = false := by rw [hb.frozen (by simp)]; simp [go_sem]
  have HB := Lib.hid hb
  clear hb hc
  go_wp2_with fail
  refine leaves_cons (f := 114) (args := #[.pointer (some ⟨w.heap.size, 0, none⟩)]) (by simp) (by simp [go_sem]) ?_
  refine (catch114_pan ⟨w.heap.size, 0, none⟩ 0 k _ k1 k2).mono ?_
  rintro e u' w'' ⟨rfl, rfl, rfl⟩
  have k3 : ((w1.alloc (.cells #[.int .i64 k] 116)).setCell ⟨w.heap.size, 0, none⟩ (.int .i64 k)).cell? ⟨w.heap.size, 0, none⟩ = some (.int .i64 k) :=
    World.cell?_setCell_same _ _ _ ((Same.alloc _ _).cell k1)
  have hbel : Below w.heap.size w ((w1.alloc (.cells #[.int .i64 k] 116)).setCell ⟨w.heap.size, 0, none⟩ (.int .i64 k)) :=
    ((((Below.refl _ w).alloc (Nat.le_refl _) _).trans (HB.out.mono (by simp))).alloc (by omega) _).setCell (Nat.le_refl _) _
  simp [Leaves, settle, results, Try.results77, go_sem, k3]
  exact hbel
set_option maxRecDepth 100000 in
theorem catch117_pan (p : Addr) (x k : Int) (w : World) (hc : w.cell? p = some (.int .i64 x)) (hz : w.frozen? p = false) :
    CallsD Try.prog 117 #[.pointer (some p)] (.panicking (misfit k)) w fun e u' w' =>
      e = .returned (.tuple #[]) ∧ u' = .panicking [{ v := .iface 116 (.agg #[.int .i64 k]), recovered := true }] ∧ w' = (w.alloc (.cells #[.int .i64 k] 116)).setCell p (.int .i64 k) := by
  unfold misfit
  have hta : ∀ w : World, (Instr.typeAssert (.iface 116 (.agg #[.int .i64 k])) 20 116 true).run Try.prog w = .ok (.tuple #[.agg #[.int .i64 k], .bool true]) w := fun _ => by kernel_rfl
  have hlt := cell_lt hc
  have hc2 := (Same.alloc w (.cells #[.int .i64 k] 116)).cell hc
  have hz2 : (w.alloc (.cells #[.int .i64 k] 116)).frozen? p = false := (World.frozen?_of_block (w := w) (Below.heap_alloc w _ p.block hlt)).trans hz
  refine callsD_of_wpS Try.func117 rfl fun c₀ cs hu => ?_
  apply wpS_seq
  apply wpS_region
  simp [wpOpsS, go_sem, recoverD, hu, Try.ntmps117, Exit.thenS, hta]
  apply wpS_seq
  apply wpS_region
  simp [wpOpsS, go_sem, Exit.thenS]
  refine wpS_cond (t := true) (by simp [Act.eval, Array.replicate]) ?_
  simp only [if_true]
  apply wpS_region
  simp [wpOpsS, go_sem, hc2, hz2, bodyPostS, results, Try.results117, Array.replicate]
set_option maxRecDepth 100000 in
theorem catch117_idle (p : Addr) (w : World) :
    CallsD Try.prog 117 #[.pointer (some p)] .returning w fun e u' w' =>
      e = .returned (.tuple #[]) ∧ u' = .returning ∧ w' = w.alloc (.cells #[.int .i64 0] 116) := by
  have hta : ∀ w : World, (Instr.typeAssert .nilIface 20 116 true).run Try.prog w = .ok (.tuple #[.agg #[.int .i64 0], .bool false]) w := fun _ => by kernel_rfl
  refine callsD_of_wpS Try.func117 rfl fun c₀ cs hu => ?_
  apply wpS_seq
  apply wpS_region
  simp [wpOpsS, go_sem, recoverD, hu, Try.ntmps117, Exit.thenS, hta]
  apply wpS_seq
  apply wpS_region
  simp [wpOpsS, go_sem, Exit.thenS]
  refine wpS_cond (t := false) (by simp [Act.eval, Array.replicate]) ?_
  simp only [Bool.false_eq_true, if_false]
  refine wpS_of_wp (wp_skip ?_)
  cases c₀
  simp_all [bodyPostS, results, Try.results117]

set_option maxHeartbeats 1000000 in
set_option maxRecDepth 100000 in
theorem fitted89_ok (f : FuncId) (caps : Array Value) (w : World) (Φ : Value → World → Prop) (hΦ : ∀ u w1 w2, Same w1 w2 → Φ u w1 → Φ u w2)
    (hcf : ∀ w : World, (callFunc f caps).run Try.prog w = .ok (.enter f caps) w)
    (hc : Calls Try.prog f caps (w.alloc (.cells #[.int .i64 0] 22)) (Gives Φ (w.alloc (.cells #[.int .i64 0] 22)))) :
    Calls Try.prog 89 #[.func (.func f) #[] caps] w (GivesOk Φ 0 w) := by
  have hmf : ∀ (fn : Fn) (first cap : Array Value) (w : World), (Instr.makeFunc fn first cap).run Try.prog w = .ok (.func fn first cap) w := fun _ _ _ _ => rfl
  go_enter_defers Try.func89, Try.ntmps89
  go_wp2_with fail
  refine hc.mono ?_
  rintro e w1 ⟨u, rfl, hu, hb⟩
  have hlt : w.heap.size < w1.heap.size := by have := hb.size; simp at this; omega
  have k1 : w1.cell? ⟨w.heap.size, 0, none⟩ = some (.int .i64 0) := by rw [hb.cell (by simp)]; simp [go_sem]
  have k2 : w1.frozen? ⟨w.heap.size, 0, none⟩ = false := by rw [hb.frozen (by simp)]; simp [go_sem]
  have HB := Lib.hid hb
  have HU := Lib.hid hu
  clear hb hu hc
  go_wp2_with fail
  refine leaves_cons (f := 117) (args := #[.pointer (some ⟨w.heap.size, 0, none⟩)]) (by simp) (by simp [go_sem]) ?_
  refine (catch117_idle ⟨w.heap.size, 0, none⟩ _).mono ?_
  rintro e u' w'' ⟨rfl, rfl, rfl⟩
  have k3 : ((w1.setCell ⟨w.heap.size, 0, none⟩ (.int .i64 0)).alloc (.cells #[.int .i64 0] 116)).cell? ⟨w.heap.size, 0, none⟩ = some (.int .i64 0) :=
    (Same.alloc _ _).cell (World.cell?_setCell_same _ _ _ k1)
  have hs : Same w1 ((w1.setCell ⟨w.heap.size, 0, none⟩ (.int .i64 0)).alloc (.cells #[.int .i64 0] 116)) := (Same.again k1).trans (by simp) (Same.alloc _ _)
  have hbel : Below w.heap.size w ((w1.setCell ⟨w.heap.size, 0, none⟩ (.int .i64 0)).alloc (.cells #[.int .i64 0] 116)) :=
    ((((Below.refl _ w).alloc (Nat.le_refl _) _).trans (HB.out.mono (by simp))).setCell (Nat.le_refl _) _).alloc (by simp; omega) _
  have hfin := hΦ _ _ _ hs HU.out
  simp [Leaves, settle, results, Try.results89, go_sem, k3]
  exact ⟨u, rfl, hfin, hbel⟩

set_option maxHeartbeats 1000000 in
set_option maxRecDepth 100000 in
theorem fitted89_no (f : FuncId) (caps : Array Value) (k : Int) (w : World)
    (hcf : ∀ w : World, (callFunc f caps).run Try.prog w = .ok (.enter f caps) w)
    (hc : Calls Try.prog f caps (w.alloc (.cells #[.int .i64 0] 22)) (LeavesX k (w.alloc (.cells #[.int .i64 0] 22)))) :
    Calls Try.prog 89 #[.func (.func f) #[] caps] w fun e w' => e = .returned (.tuple #[.pointer none, .int .i64 k]) ∧ Below w.heap.size w w' := by
  have hmf : ∀ (fn : Fn) (first cap : Array Value) (w : World), (Instr.makeFunc fn first cap).run Try.prog w = .ok (.func fn first cap) w := fun _ _ _ _ => rfl
  go_enter_defers Try.func89, Try.ntmps89
  go_wp2_with fail
  refine hc.mono ?_
  rintro e w1 ⟨rfl, hb⟩
  have hlt : w.heap.size < w1.heap.size := by have := hb.size; simp at this; omega
  have k1 : w1.cell? ⟨w.heap.size, 0, none⟩ = some (.int .i64 0) := by rw [hb.cell (by simp)]; simp [go_sem]
  have k2 : w1.frozen? ⟨w.heap.size, 0, none⟩ = false := by rw [hb.frozen (by simp)]; simp [go_sem]
  have HB := Lib.hid hb
  clear hb hc
  go_wp2_with fail
  refine leaves_cons (f := 117) (args := #[.pointer (some ⟨w.heap.size, 0, none⟩)]) (by simp) (by simp [go_sem]) ?_
  refine (catch117_pan ⟨w.heap.size, 0, none⟩ 0 k _ k1 k2).mono ?_
  rintro e u' w'' ⟨rfl, rfl, rfl⟩
  have k3 : ((w1.alloc (.cells #[.int .i64 k] 116)).setCell ⟨w.heap.size, 0, none⟩ (.int .i64 k)).cell? ⟨w.heap.size, 0, none⟩ = some (.int .i64 k) :=
    World.cell?_setCell_same _ _ _ ((Same.alloc _ _).cell k1)
  have hbel : Below w.heap.size w ((w1.alloc (.cells #[.int .i64 k] 116)).setCell ⟨w.heap.size, 0, none⟩ (.int .i64 k)) :=
    ((((Below.refl _ w).alloc (Nat.le_refl _) _).trans (HB.out.mono (by simp))).alloc (by omega) _).setCell (Nat.le_refl _) _
  simp [Leaves, settle, results, Try.results89, go_sem, k3]
  exact hbel
set_option maxRecDepth 100000 in
theorem catch121_pan (p : Addr) (x k : Int) (w : World) (hc : w.cell? p = some (.int .i64 x)) (hz : w.frozen? p = false) :
    CallsD Try.prog 121 #[.pointer (some p)] (.panicking (misfit k)) w fun e u' w' =>
      e = .returned (.tuple #[]) ∧ u' = .panicking [{ v := .iface 116 (.agg #[.int .i64 k]), recovered := true }] ∧ w' = (w.alloc (.cells #[.int .i64 k] 116)).setCell p (.int .i64 k) := by
  unfold misfit
  have hta : ∀ w : World, (Instr.typeAssert (.iface 116 (.agg #[.int .i64 k])) 20 116 true).run Try.prog w = .ok (.tuple #[.agg #[.int .i64 k], .bool true]) w := fun _ => by kernel_rfl
  have hlt := cell_lt hc
  have hc2 := (Same.alloc w (.cells #[.int .i64 k] 116)).cell hc
  have hz2 : (w.alloc (.cells #[.int .i64 k] 116)).frozen? p = false := (World.frozen?_of_block (w := w) (Below.heap_alloc w _ p.block hlt)).trans hz
  refine callsD_of_wpS Try.func121 rfl fun c₀ cs hu => ?_
  apply wpS_seq
  apply wpS_region
  simp [wpOpsS, go_sem, recoverD, hu, Try.ntmps121, Exit.thenS, hta]
  apply wpS_seq
  apply wpS_region
  simp [wpOpsS, go_sem, Exit.thenS]
  refine wpS_cond (t := true) (by simp [Act.eval, Array.replicate]) ?_
  simp only [if_true]
  apply wpS_region
  simp [wpOpsS, go_sem, hc2, hz2, bodyPostS, results, Try.results121, Array.replicate]
set_option maxRecDepth 100000 in
theorem catch121_idle (p : Addr) (w : World) :
    CallsD Try.prog 121 #[.pointer (some p)] .returning w fun e u' w' =>
      e = .returned (.tuple #[]) ∧ u' = .returning ∧ w' = w.alloc (.cells #[.int .i64 0] 116) := by
  have hta : ∀ w : World, (Instr.typeAssert .nilIface 20 116 true).run Try.prog w = .ok (.tuple #[.agg #[.int .i64 0], .bool false]) w := fun _ => by kernel_rfl
  refine callsD_of_wpS Try.func121 rfl fun c₀ cs hu => ?_
  apply wpS_seq
  apply wpS_region
  simp [wpOpsS, go_sem, recoverD, hu, Try.ntmps121, Exit.thenS, hta]
  apply wpS_seq
  apply wpS_region
  simp [wpOpsS, go_sem, Exit.thenS]
  refine wpS_cond (t := false) (by simp [Act.eval, Array.replicate]) ?_
  simp only [Bool.false_eq_true, if_false]
  refine wpS_of_wp (wp_skip ?_)
  cases c₀
  simp_all [bodyPostS, results, Try.results121]

set_option maxHeartbeats 1000000 in
set_option maxRecDepth 100000 in
theorem fitted112_ok (f : FuncId) (caps : Array Value) (w : World) (Φ : Value → World → Prop) (hΦ : ∀ u w1 w2, Same w1 w2 → Φ u w1 → Φ u w2)
    (hcf : ∀ w : World, (callFunc f caps).run Try.prog w = .ok (.enter f caps) w)
    (hc : Calls Try.prog f caps (w.alloc (.cells #[.int .i64 0] 22)) (Gives Φ (w.alloc (.cells #[.int .i64 0] 22)))) :
    Calls Try.prog 112 #[.func (.func f) #[] caps] w (GivesOk Φ 0 w) := by
  have hmf : ∀ (fn : Fn) (first cap : Array Value) (w : World), (Instr.makeFunc fn first cap).run Try.prog w = .ok (.func fn first cap) w := fun _ _ _ _ => rfl
  go_enter_defers Try.func112, Try.ntmps112
  go_wp2_with fail
  refine hc.mono ?_
  rintro e w1 ⟨u, rfl, hu, hb⟩
  have hlt : w.heap.size < w1.heap.size := by have := hb.size; simp at this; omega
  have k1 : w1.cell? ⟨w.heap.size, 0, none⟩ = some (.int .i64 0) := by rw [hb.cell (by simp)]; simp [go_sem]
  have k2 : w1.frozen? ⟨w.heap.size, 0, none⟩ = false := by rw [hb.frozen (by simp)]; simp [go_sem]
  have HB := Lib.hid hb
  have HU := Lib.hid hu
  clear hb hu hc
  go_wp2_with fail
  refine leaves_cons (f := 121) (args := #[.pointer (some ⟨w.heap.size, 0, none⟩)]) (by simp) (by simp [go_sem]) ?_
  refine (catch121_idle ⟨w.heap.size, 0, none⟩ _).mono ?_
  rintro e u' w'' ⟨rfl, rfl, rfl⟩
  have k3 : ((w1.setCell ⟨w.heap.size, 0, none⟩ (.int .i64 0)).alloc (.cells #[.int .i64 0] 116)).cell? ⟨w.heap.size, 0, none⟩ = some (.int .i64 0) :=
    (Same.alloc _ _).cell (World.cell?_setCell_same _ _ _ k1)
  have hs : Same w1 ((w1.setCell ⟨w.heap.size, 0, none⟩ (.int .i64 0)).alloc (.cells #[.int .i64 0] 116)) := (Same.again k1).trans (by simp) (Same.alloc _ _)
  have hbel : Below w.heap.size w ((w1.setCell ⟨w.heap.size, 0, none⟩ (.int .i64 0)).alloc (.cells #[.int .i64 0] 116)) :=
    ((((Below.refl _ w).alloc (Nat.le_refl _) _).trans (HB.out.mono (by simp))).setCell (Nat.le_refl _) _).alloc (by simp; omega) _
  have hfin := hΦ _ _ _ hs HU.out
  simp [Leaves, settle, results, Try.results112, go_sem, k3]
  exact ⟨u, rfl, hfin, hbel⟩

set_option maxHeartbeats 1000000 in
set_option maxRecDepth 100000 in
theorem fitted112_no (f : FuncId) (caps : Array Value) (k : Int) (w : World)
    (hcf : ∀ w : World, (callFunc f caps).run Try.prog w = .ok (.enter f caps) w)
    (hc : Calls Try.prog f caps (w.alloc (.cells #[.int .i64 0] 22)) (LeavesX k (w.alloc (.cells #[.int .i64 0] 22)))) :
    Calls Try.prog 112 #[.func (.func f) #[] caps] w fun e w' => e = .returned (.tuple #[.slice none 0 0, .int .i64 k]) ∧ Below w.heap.size w w' := by
  have hmf : ∀ (fn : Fn) (first cap : Array Value) (w : World), (Instr.makeFunc fn first cap).run Try.prog w = .ok (.func fn first cap) w := fun _ _ _ _ => rfl
  go_enter_defers Try.func112, Try.ntmps112
  go_wp2_with fail
  refine hc.mono ?_
  rintro e w1 ⟨rfl, hb⟩
  have hlt : w.heap.size < w1.heap.size := by have := hb.size; simp at this; omega
  have k1 : w1.cell? ⟨w.heap.size, 0, none⟩ = some (.int .i64 0) := by rw [hb.cell (by simp)]; simp [go_sem]
  have k2 : w1.frozen? ⟨w.heap.size, 0, none⟩ = false := by rw [hb.frozen (by simp)]; simp [go_sem]
  have HB := Lib.hid hb
  clear hb hc
  go_wp2_with fail
  refine leaves_cons (f := 121) (args := #[.pointer (some ⟨w.heap.size, 0, none⟩)]) (by simp) (by simp [go_sem]) ?_
  refine (catch121_pan ⟨w.heap.size, 0, none⟩ 0 k _ k1 k2).mono ?_
  rintro e u' w'' ⟨rfl, rfl, rfl⟩
  have k3 : ((w1.alloc (.cells #[.int .i64 k] 116)).setCell ⟨w.heap.size, 0, none⟩ (.int .i64 k)).cell? ⟨w.heap.size, 0, none⟩ = some (.int .i64 k) :=
    World.cell?_setCell_same _ _ _ ((Same.alloc _ _).cell k1)
  have hbel : Below w.heap.size w ((w1.alloc (.cells #[.int .i64 k] 116)).setCell ⟨w.heap.size, 0, none⟩ (.int .i64 k)) :=
    ((((Below.refl _ w).alloc (Nat.le_refl _) _).trans (HB.out.mono (by simp))).alloc (by omega) _).setCell (Nat.le_refl _) _
  simp [Leaves, settle, results, Try.results112, go_sem, k3]
  exact hbel
end Go.Proofs.Ytegomicpolnpoaa
