/- The reference's levels out of bytes. -/
import Derived.Test.YtegomicpolnpoaaXJ
import Derived.Test.YtegomicpolnpoaaLA
import Derived.Test.YtegomicpolnpoaaUT
import Derived.BigQuiet
import Derived.Test.YtegomicpolnpoaaXI
namespace Go.Proofs.Ytegomicpolnpoaa
open Go.RowKit Go.Deep Go.Shelf

/-- The level of a spot, as the reference reads it. -/
def lvB (e r : Nat) (s : ByteArray) (a b : Nat) : Int := lvlR e (s.extract ((b * r + a) * wid e) ((b * r + a) * wid e + wid e))
def LevAns (e r c : Nat) (s : ByteArray) (w : World) (y : Ending) (w' : World) : Prop := ∃ p cap, y = .returned (.tuple #[.slice p r cap, .int .i64 0]) ∧ MatIn w' (tabM r c (lvB e r s)) (.slice p r cap) ∧ Below w.heap.size w w'
theorem lvlR_bd {e : Nat} (h1 : 1 ≤ e) (h8 : e ≤ 8) (s : ByteArray) : -2147483648 ≤ lvlR e s ∧ lvlR e s ≤ 2147483647 := by
  have h := getN_bd h1 h8 s
  have ht := topN_bd h1 h8
  unfold lvlR
  omega
theorem lvB_i64 {e : Nat} (h1 : 1 ≤ e) (h8 : e ≤ 8) (r : Nat) (s : ByteArray) (a b : Nat) : I64 (lvB e r s a b) := by
  have := lvlR_bd h1 h8 (s.extract ((b * r + a) * wid e) ((b * r + a) * wid e + wid e))
  unfold lvB I64
  omega
theorem div_lt' {j c r : Nat} (hr : 0 < r) (h : j < c * r) : j / r < c := Nat.div_lt_of_lt_mul (by rw [Nat.mul_comm]; exact h)
theorem lv_step {r : Nat} (hr : 0 < r) {j a b : Nat} (ha : a < r) : (b * r + a < j + 1) ↔ (b * r + a < j ∨ (a = j % r ∧ b = j / r)) := by
  constructor
  · intro h
    by_cases e : b * r + a = j
    · right
      subst e
      rw [Nat.mul_add_mod_of_lt ha, divE ha]
      exact ⟨rfl, rfl⟩
    · left; omega
  · rintro (h | ⟨rfl, rfl⟩)
    · omega
    · have := Nat.div_add_mod j r
      rw [Nat.mul_comm] at this
      omega
theorem lev_nums {r c L n : Nat} (hr1 : 1 ≤ r) (hr8 : r ≤ 8) (hc : c ≤ 4096) (hL1 : 1 ≤ L) (hL4 : L ≤ 4) (hs : n = c * r * L) :
    ∃ D E : Nat, wrap64 (L : Int) = L ∧ wrap64 ((L : Int) * (r : Int)) = D ∧ wrap64 ((n : Int) / (D : Int)) = c ∧ (n : Int).tmod (D : Int) = 0 ∧ (n : Int) % (D : Int) = 0 ∧ wrap64 ((c : Int) * (r : Int)) = E ∧ ¬ (4096 : Int) < (c : Int) ∧ ¬ (D : Int) = 0 ∧ ¬ (r : Int) = 0 ∧ (c * r = E ∧ E ≤ 32768) ∧
      (∀ j, j < E → (j * L + L ≤ n ∧ j / r < c ∧ j % r < r) ∧ j * L + L ≤ 131072) := by
  have p1 : 1 ≤ L * r := Nat.mul_pos hL1 hr1
  have p1' : L * r ≤ 32 := Nat.mul_le_mul hL4 hr8
  have p2 : c * r ≤ 32768 := by rw [Nat.mul_comm]; exact mul_le8 hr8 (Nat.le_refl _) hc
  have p3 : c * r * L ≤ 131072 := by
    calc c * r * L ≤ 32768 * L := Nat.mul_le_mul_right _ p2
      _ ≤ 32768 * 4 := Nat.mul_le_mul_left _ hL4
  have hdv : n = c * (L * r) := by rw [hs, Nat.mul_assoc, Nat.mul_comm r L]
  have hD : ((L * r : Nat) : Int) ≠ 0 := fun h => by
    have : L * r = 0 := Int.ofNat_inj.1 h
    rw [this] at p1; cases p1
  refine ⟨L * r, c * r, w64n (Nat.le_trans hL4 (by decide)), ?_, ?_, ?_, ?_, ?_, ?_, hD, ?_, ⟨rfl, p2⟩, ?_⟩
  · rw [← Int.natCast_mul]; exact w64n (Nat.le_trans p1' (by decide))
  · rw [hdv, Int.natCast_mul c, Int.mul_ediv_cancel _ hD]
    exact w64n (Nat.le_trans hc (by decide))
  · rw [Int.tmod_eq_emod_of_nonneg (Int.natCast_nonneg _), hdv, Int.natCast_mul c, Int.mul_emod_left]
  · rw [hdv, Int.natCast_mul c, Int.mul_emod_left]
  · rw [← Int.natCast_mul]; exact w64n (Nat.le_trans p2 (by decide))
  · exact Int.not_lt.2 (Int.ofNat_le.2 hc)
  · exact fun h => by
      have : r = 0 := Int.ofNat_inj.1 h
      rw [this] at hr1; cases hr1
  · intro j hj
    have hm : (j + 1) * L ≤ c * r * L := Nat.mul_le_mul_right _ hj
    rw [Nat.add_mul, Nat.one_mul] at hm
    exact ⟨⟨by rw [hs]; exact hm, div_lt' hr1 hj, Nat.mod_lt _ hr1⟩, Nat.le_trans hm p3⟩
theorem lev_spot {s : ByteArray} {r c L j : Nat} (hr : 1 ≤ r ∧ r ≤ 8 ∧ c ≤ 4096) (hL4 : L ≤ 4) (hj : (j * L + L ≤ s.size ∧ j / r < c ∧ j % r < r) ∧ j * L + L ≤ 131072) :
    ∃ A B PA PB : Nat, (j : Int).tmod (r : Int) = (A : Int) ∧ wrap64 ((j : Int) / (r : Int)) = (B : Int) ∧ wrap64 (A : Int) = (A : Int) ∧ (j : Int) % (r : Int) = (A : Int) ∧ IntKind.i64.wrap ((j : Int) * (L : Int)) = (PA : Int) ∧ IntKind.i64.wrap ((PA : Int) + (L : Int)) = (PB : Int) ∧
      (A : Int) < (r : Int) ∧ (B : Int) < (c : Int) ∧ (0 : Int) ≤ (A : Int) ∧ (0 : Int) ≤ (B : Int) ∧ ((j % r = A ∧ j / r = B ∧ j * L = PA ∧ PA + L = PB ∧ A < r ∧ B < c) ∧ (s.extract PA PB).size = L) ∧ (0 : Int) ≤ (PA : Int) ∧ (PA : Int) ≤ (PB : Int) ∧ (PB : Int) ≤ (s.size : Int) := by
  obtain ⟨⟨j1, j2, j3⟩, j4⟩ := hj
  obtain ⟨r1, r2, r3⟩ := hr
  obtain ⟨A, hA⟩ : ∃ A, j % r = A := ⟨_, rfl⟩
  obtain ⟨B, hB⟩ : ∃ B, j / r = B := ⟨_, rfl⟩
  obtain ⟨PA, hPA⟩ : ∃ PA, j * L = PA := ⟨_, rfl⟩
  have e1 : (j : Int).tmod (r : Int) = (A : Int) := by rw [Int.tmod_eq_emod_of_nonneg (Int.natCast_nonneg _), ← Int.natCast_emod, hA]
  have e4 : (j : Int) % (r : Int) = (A : Int) := by rw [← Int.natCast_emod, hA]
  have e2 : ((j : Int) / (r : Int)) = (B : Int) := by rw [← Int.natCast_ediv, hB]
  have e5 : ((j : Int) * (L : Int)) = (PA : Int) := by rw [← Int.natCast_mul, hPA]
  rw [hPA] at j1 j4
  rw [hB] at j2
  rw [hA] at j3
  rw [e2, e5]
  refine ⟨A, B, PA, PA + L, e1, w64n (by omega), w64n (by omega), e4, w64w (by omega), ?_, by omega, by omega, by omega, by omega, ⟨⟨hA, hB, hPA, rfl, j3, j2⟩, ?_⟩, by omega, by omega, by omega⟩
  · rw [← Int.natCast_add]; exact w64w (by omega)
  · rw [ByteArray.size_extract]; omega
theorem step_w {j E : Nat} (h1 : j < E) (h2 : E ≤ 32768) : wrap64 ((j : Int) + 1) = ((j + 1 : Nat) : Int) ∧ IntKind.i64.wrap ((j : Int) + 1) = ((j + 1 : Nat) : Int) ∧ E - (RowKit.intOf (.int .i64 ((j + 1 : Nat) : Int))).toNat < E - (RowKit.intOf (.int .i64 (j : Int))).toNat :=
  ⟨by unfold wrap64; omega, by rw [IntKind.wrap_i64]; omega, by simp [RowKit.intOf]; omega⟩
set_option maxHeartbeats 4000000 in
set_option maxRecDepth 100000 in
theorem levels_any {e r c : Nat} (h1 : 1 ≤ e) (h8 : e ≤ 8) (hr1 : 1 ≤ r) (hr8 : r ≤ 8) (hc : c ≤ 4096) (s : ByteArray) (hs : s.size = c * r * wid e) (w : World) :
    Calls Try.prog 33 #[.int .i64 e, .bool false, .int .i64 r, .string s] w (LevAns e r c s w) := by
  have HB1 := Lib.hid fun x => refBits_yes h1 h8 x
  have HC1 := Lib.hid fun x => ref_channels1 r x
  rw [show encB (r : Int) = true by simp [encB]; omega] at HC1
  have HN := Lib.hid fun x => nothing_gn r c hr1 hr8 hc x
  have HRD := Lib.hid fun (t : ByteArray) (ht : t.size = wid e) x => refRead_any h1 h8 t ht x
  have HI := Lib.hid fun a b => lvB_i64 h1 h8 r s a b
  obtain ⟨L, hL⟩ : ∃ L, wid e = L := ⟨_, rfl⟩
  have hL4 : 1 ≤ L ∧ L ≤ 4 := by rw [← hL]; unfold wid; omega
  have hbn : (bitsN e : Int) = 8 * (L : Int) := by rw [← hL]; unfold bitsN wid; omega
  have HLV : Hid (∀ a b, lvB e r s a b = lvlR e (s.extract ((b * r + a) * L) ((b * r + a) * L + L))) := Lib.hid fun a b => by unfold lvB; rw [hL]
  rw [hL] at hs HRD
  clear hL
  obtain ⟨D, E, q0, q1, q2, q3, q4, q6, q7, q8, q9, hE, hj⟩ := lev_nums hr1 hr8 hc hL4.1 hL4.2 hs
  have HJ := Lib.hid hj
  have HRR := Lib.hid (And.intro hr1 (And.intro hr8 hc))
  have HL4 := Lib.hid hL4
  have HE := Lib.hid hE
  have q7d : decide ((4096 : Int) < (c : Int)) = false := decide_eq_false q7
  clear hs hL4 h1 h8 hr1 hr8 hc hE hj
  go_enter Try.func33, Try.ntmps33
  go_wp2_with (first
    | (go_at_call 11; (with_reducible refine (HB1.out _).mono ?_); rintro y wa ⟨rfl, rfl⟩)
    | (go_at_call 65; (with_reducible refine (HC1.out _).mono ?_); rintro y wb ⟨rfl, rfl⟩)
    | (go_at_call 84; (with_reducible refine (HN.out _).mono ?_); rintro y w1 ⟨g, cap, gs, rfl, hcap, hgn, hb1⟩; have HGN := Lib.hid hgn; have HBN := Lib.hid hb1; have HCAP := Lib.hid hcap; clear hgn hb1 hcap))
  go_loopw [15] (fun i wr => ∃ j : Nat, i = .int .i64 j ∧ j ≤ E ∧ Gn w.heap.size g gs r c (fun a b => if b * r + a < j then lvB e r s a b else 0) wr ∧ Below w.heap.size w wr) (fun i _ => E - (intOf i).toNat)
  case atStart => exact ⟨0, rfl, Nat.zero_le _, HGN.out.congr fun a b _ _ => by simp, HBN.out⟩
  case round =>
    obtain ⟨j, rfl, hj, hg, hb⟩ := hrel
    have HG := Lib.hid hg
    have HB := Lib.hid hb
    clear hg hb
    by_cases hlt : j < E
    · have w4 : (j : Int) < (E : Int) := Int.ofNat_lt.2 hlt
      obtain ⟨A, B, PA, PB, d1, d2, d3, d4, f1, f2, a1, a2, a3, a4, ⟨hab, hsz⟩, hp1, hp2, hp3⟩ := lev_spot (s := s) HRR.out HL4.out.2 (HJ.out j hlt)
      have HAB := Lib.hid hab
      have HLT := Lib.hid hlt
      have hsl : ∀ W : World, (Instr.slice 9 (.string s) (some (.int .i64 (PA : Int))) (some (.int .i64 (PB : Int))) none).run Try.prog W = .ok (.string (s.extract PA PB)) W := fun W => by
        have := run_slice_string_if W 9 s .i64 .i64 (PA : Int) (PB : Int) Try.underlying9
        rw [if_pos ⟨Int.natCast_nonneg _, hp3⟩, if_pos ⟨hp1, hp2⟩, Int.toNat_natCast, Int.toNat_natCast] at this
        exact this
      obtain ⟨st, hst⟩ : ∃ st, s.extract PA PB = st := ⟨_, rfl⟩
      rw [hst] at hsl hsz
      have HST := Lib.hid (And.intro hst hsz)
      clear hab hst hsz hp1 hp2 hp3
      have HF := Lib.hid (And.intro (And.intro f1 f2) hsl)
      have HA := Lib.hid (And.intro (And.intro a1 a2) (And.intro a3 a4))
      have HD := Lib.hid (And.intro d2 d1)
      clear f1 f2 hsl a1 a2 a3 a4 d1 d2 d3 d4
      go_upto_region 12 with fail
      obtain ⟨d2, d1⟩ := HD.out
      go_quiet (fail)
      go_upto_region 15 with fail
      rw [d2]
      clear d1 d2
      have hZb : Below wr.heap.size wr (wr.drewN nq).drew := (below_drewN (Below.refl _ wr) nq).drew
      have HX : Hid (∀ y, Below wr.heap.size wr y → y.cell? ⟨g, A, none⟩ = some (.slice (some ⟨gs A, 0, none⟩) c c)) := Lib.hid fun y hy => (HG.out.below hy).top A HAB.out.2.2.2.2.1
      obtain ⟨⟨f1, f2⟩, hsl⟩ := HF.out
      obtain ⟨⟨a1, a2⟩, ⟨a3, a4⟩⟩ := HA.out
      refine region_T (S := fun wx => wx.cell? ⟨g, A, none⟩ = some (.slice (some ⟨gs A, 0, none⟩) c c)) [18] (by kernel_rfl) (HX.out _ hZb) (fun _ => ?_)
      have hS0 := HX.out _ hZb
      have HZ := Lib.hid hZb
      clear hZb
      generalize (wr.drewN nq).drew = V at *
      refine anyT_take (i := 0) (v := ?_) rfl (by kernel_rfl) (by kernel_rfl) (by kernel_rfl) (by kernel_rfl) (fun _ _ _ h => h) (Or.inl ⟨by rfl, ?_⟩) (by assumption) ?_
      rotate_left
      focus ((intro wq hSw; (try dsimp only at hSw); go_simp); try with_reducible rfl)
      try simp only [Act.put, List.getElem_toArray, List.getElem_cons_succ, List.getElem_cons_zero, List.setIfInBounds_toArray, List.set_cons_zero, List.set_cons_succ]
      refine anyT_take (i := 1) (v := ?_) rfl (by kernel_rfl) (by kernel_rfl) (by kernel_rfl) (by kernel_rfl) (fun _ _ _ h => h) (Or.inl ⟨by rfl, ?_⟩) (by assumption) ?_
      rotate_left
      focus ((intro wq hSw; (try dsimp only at hSw); go_simp); try with_reducible rfl)
      try simp only [Act.put, List.getElem_toArray, List.getElem_cons_succ, List.getElem_cons_zero, List.setIfInBounds_toArray, List.set_cons_zero, List.set_cons_succ]
      refine anyT_take (i := 2) (v := ?_) rfl (by kernel_rfl) (by kernel_rfl) (by kernel_rfl) (by kernel_rfl) (fun _ _ _ h => h) (Or.inl ⟨by rfl, ?_⟩) (by assumption) ?_
      rotate_left
      focus ((intro wq hSw; (try dsimp only at hSw); go_simp); try with_reducible rfl)
      try simp only [Act.put, List.getElem_toArray, List.getElem_cons_succ, List.getElem_cons_zero, List.setIfInBounds_toArray, List.set_cons_zero, List.set_cons_succ]
      refine anyT_take (i := 3) (v := ?_) rfl (by kernel_rfl) (by kernel_rfl) (by kernel_rfl) (by kernel_rfl) (fun _ _ _ h => h) (Or.inl ⟨by rfl, ?_⟩) (by assumption) ?_
      rotate_left
      focus ((intro wq hSw; (try dsimp only at hSw); go_simp); try with_reducible rfl)
      try simp only [Act.put, List.getElem_toArray, List.getElem_cons_succ, List.getElem_cons_zero, List.setIfInBounds_toArray, List.set_cons_zero, List.set_cons_succ]
      refine anyT_take (i := 4) (v := ?_) rfl (by kernel_rfl) (by kernel_rfl) (by kernel_rfl) (by kernel_rfl) (fun _ _ _ h => h) (Or.inl ⟨by rfl, ?_⟩) (by assumption) ?_
      rotate_left
      focus ((intro wq hSw; (try dsimp only at hSw); go_simp); try with_reducible rfl)
      try simp only [Act.put, List.getElem_toArray, List.getElem_cons_succ, List.getElem_cons_zero, List.setIfInBounds_toArray, List.set_cons_zero, List.set_cons_succ]
      refine anyT_take (i := 5) (v := ?_) rfl (by kernel_rfl) (by kernel_rfl) (by kernel_rfl) (by kernel_rfl) (fun _ _ _ h => h) (Or.inl ⟨by rfl, ?_⟩) (by assumption) ?_
      rotate_left
      focus ((intro wq hSw; (try dsimp only at hSw); go_simp); try with_reducible rfl)
      try simp only [Act.put, List.getElem_toArray, List.getElem_cons_succ, List.getElem_cons_zero, List.setIfInBounds_toArray, List.set_cons_zero, List.set_cons_succ]
      refine anyT_take (i := 6) (v := ?_) rfl (by kernel_rfl) (by kernel_rfl) (by kernel_rfl) (by kernel_rfl) (fun _ _ _ h => h) (Or.inl ⟨by rfl, ?_⟩) (by assumption) ?_
      rotate_left
      focus ((intro wq hSw; (try dsimp only at hSw); go_simp); try with_reducible rfl)
      try simp only [Act.put, List.getElem_toArray, List.getElem_cons_succ, List.getElem_cons_zero, List.setIfInBounds_toArray, List.set_cons_zero, List.set_cons_succ]
      refine anyT_take (i := 7) (v := ?_) rfl (by kernel_rfl) (by kernel_rfl) (by kernel_rfl) (by kernel_rfl) (fun _ _ _ h => h) (Or.inl ⟨by rfl, ?_⟩) (by assumption) ?_
      rotate_left
      focus ((intro wq hSw; (try dsimp only at hSw); go_simp); try with_reducible rfl)
      try simp only [Act.put, List.getElem_toArray, List.getElem_cons_succ, List.getElem_cons_zero, List.setIfInBounds_toArray, List.set_cons_zero, List.set_cons_succ]
      refine anyT_take (i := 8) (v := ?_) rfl (by kernel_rfl) (by kernel_rfl) (by kernel_rfl) (by kernel_rfl) (fun _ _ _ h => h) (Or.inl ⟨by rfl, ?_⟩) (by assumption) ?_
      rotate_left
      focus ((intro wq hSw; (try dsimp only at hSw); go_simp); try with_reducible rfl)
      try simp only [Act.put, List.getElem_toArray, List.getElem_cons_succ, List.getElem_cons_zero, List.setIfInBounds_toArray, List.set_cons_zero, List.set_cons_succ]
      refine anyT_take (i := 9) (v := ?_) rfl (by kernel_rfl) (by kernel_rfl) (by kernel_rfl) (by kernel_rfl) (fun _ _ _ h => h) (Or.inl ⟨by rfl, ?_⟩) (by assumption) ?_
      rotate_left
      focus ((intro wq hSw; (try dsimp only at hSw); go_simp); try with_reducible rfl)
      try simp only [Act.put, List.getElem_toArray, List.getElem_cons_succ, List.getElem_cons_zero, List.setIfInBounds_toArray, List.set_cons_zero, List.set_cons_succ]
      refine anyT_take (i := 10) (v := ?_) rfl (by kernel_rfl) (by kernel_rfl) (by kernel_rfl) (by kernel_rfl) (fun _ _ _ h => h) (Or.inl ⟨by rfl, ?_⟩) (by assumption) ?_
      rotate_left
      focus ((intro wq hSw; (try dsimp only at hSw); go_simp); try with_reducible rfl)
      try simp only [Act.put, List.getElem_toArray, List.getElem_cons_succ, List.getElem_cons_zero, List.setIfInBounds_toArray, List.set_cons_zero, List.set_cons_succ]
      refine anyT_take (i := 11) (v := ?_) rfl (by kernel_rfl) (by kernel_rfl) (by kernel_rfl) (by kernel_rfl) (fun _ _ _ h => h) (Or.inl ⟨by rfl, ?_⟩) (by assumption) ?_
      rotate_left
      focus ((intro wq hSw; (try dsimp only at hSw); go_simp); try with_reducible rfl)
      try simp only [Act.put, List.getElem_toArray, List.getElem_cons_succ, List.getElem_cons_zero, List.setIfInBounds_toArray, List.set_cons_zero, List.set_cons_succ]
      refine anyT_take (i := 12) (v := ?_) rfl (by kernel_rfl) (by kernel_rfl) (by kernel_rfl) (by kernel_rfl) (fun _ _ _ h => h) (Or.inl ⟨by rfl, ?_⟩) (by assumption) ?_
      rotate_left
      focus ((intro wq hSw; (try dsimp only at hSw); go_simp); try with_reducible rfl)
      try simp only [Act.put, List.getElem_toArray, List.getElem_cons_succ, List.getElem_cons_zero, List.setIfInBounds_toArray, List.set_cons_zero, List.set_cons_succ]
      refine anyT_take (i := 13) (v := ?_) rfl (by kernel_rfl) (by kernel_rfl) (by kernel_rfl) (by kernel_rfl) (fun _ _ _ h => h) (Or.inl ⟨by rfl, ?_⟩) (by assumption) ?_
      rotate_left
      focus ((intro wq hSw; (try dsimp only at hSw); go_simp); try with_reducible rfl)
      try simp only [Act.put, List.getElem_toArray, List.getElem_cons_succ, List.getElem_cons_zero, List.setIfInBounds_toArray, List.set_cons_zero, List.set_cons_succ]
      refine anyT_take (i := 14) (v := ?_) rfl (by kernel_rfl) (by kernel_rfl) (by kernel_rfl) (by kernel_rfl) (fun _ _ _ h => h) (Or.inl ⟨by rfl, ?_⟩) (by assumption) ?_
      rotate_left
      focus ((intro wq hSw; (try dsimp only at hSw); go_simp); try with_reducible rfl)
      try simp only [Act.put, List.getElem_toArray, List.getElem_cons_succ, List.getElem_cons_zero, List.setIfInBounds_toArray, List.set_cons_zero, List.set_cons_succ]
      refine anyT_take (i := 15) (v := ?_) rfl (by kernel_rfl) (by kernel_rfl) (by kernel_rfl) (by kernel_rfl) (fun _ _ _ h => h) (Or.inl ⟨by rfl, ?_⟩) (by assumption) ?_
      rotate_left
      focus ((intro wq hSw; (try dsimp only at hSw); go_simp); try with_reducible rfl)
      try simp only [Act.put, List.getElem_toArray, List.getElem_cons_succ, List.getElem_cons_zero, List.setIfInBounds_toArray, List.set_cons_zero, List.set_cons_succ]
      have hrd := HRD.out st HST.out.2 V
      refine anyT_one (i := 16) (by kernel_rfl) rfl (fun K hK => ?_)
      go_simp
      refine hrd.mono ?_
      rintro y w3 ⟨rfl, b3⟩
      go_simp
      have HB3 := Lib.hid (Below.then HZ.out (Nat.le_refl _) b3)
      have hS3 := HX.out _ HB3.out
      clear b3
      refine hK.out _ _ (fun _ => hS3) ?_
      clear hK K hS0 hrd
      try simp only [Act.put, List.getElem_toArray, List.getElem_cons_succ, List.getElem_cons_zero, List.setIfInBounds_toArray, List.set_cons_zero, List.set_cons_succ]
      refine anyT_take (i := 17) (v := ?_) rfl (by kernel_rfl) (by kernel_rfl) (by kernel_rfl) (by kernel_rfl) (fun _ _ _ h => h) (Or.inl ⟨by rfl, ?_⟩) (by assumption) ?_
      rotate_left
      focus ((intro wq hSw; (try dsimp only at hSw); go_simp); try with_reducible rfl)
      try simp only [Act.put, List.getElem_toArray, List.getElem_cons_succ, List.getElem_cons_zero, List.setIfInBounds_toArray, List.set_cons_zero, List.set_cons_succ]
      have HG3 := Lib.hid (HG.out.below HB3.out)
      have hc3 := (HG3.out.rows A HAB.out.2.2.2.2.1).cell (i := B) HAB.out.2.2.2.2.2
      have hz3 := (HG3.out.rows A HAB.out.2.2.2.2.1).frozen B
      refine anyT_one (i := 18) (by kernel_rfl) rfl (fun K hK => ?_)
      go_simp
      refine hK.out _ _ (fun h => by cases h) ?_
      clear hK K hS3 hc3 hz3
      try simp only [Act.put, List.getElem_toArray, List.getElem_cons_succ, List.getElem_cons_zero, List.setIfInBounds_toArray, List.set_cons_zero, List.set_cons_succ]
      refine anyT_done (by kernel_rfl) ?_ _
      have HG4 := Lib.hid (HG3.out.set HAB.out.2.2.2.2.1 B (lvlR e st))
      have HB4 : Hid (Below w.heap.size w (w3.setCell ⟨gs A, B, none⟩ (.int .i64 (lvlR e st)))) := Lib.hid ((HB.out.trans (HB3.out.mono HB.out.size)).grown (grown_set w3 (gs A) B _) (Nat.le_trans HB.out.size HB3.out.size) (fun k e => by cases e; exact HG3.out.lo A HAB.out.2.2.2.2.1))
      generalize w3.setCell ⟨gs A, B, none⟩ (.int .i64 (lvlR e st)) = W4 at *
      clear f1 f2 hsl a1 a2 a3 a4
      obtain ⟨f5, f6, HMS⟩ := step_w HLT.out HE.out.2
      have HMS := Lib.hid HMS
      go_wp2_with fail
      go_roundw
      case rel =>
        refine ⟨j + 1, by go_num, HLT.out, HG4.out.congr fun a b ha hb => ?_, HB4.out⟩
        obtain ⟨hA, hB, hPA, hPB, _, _⟩ := HAB.out
        have hst := lv_step (r := r) HRR.out.1 (j := j) (b := b) ha
        rw [hA, hB] at hst
        by_cases e1 : a = A ∧ b = B
        · rw [if_pos e1, if_pos (hst.2 (.inr e1)), HLV.out]
          obtain ⟨rfl, rfl⟩ := e1
          have hj : b * r + a = j := by
            have h := Nat.div_add_mod j r
            rw [Nat.mul_comm, hB, hA] at h
            exact h
          rw [hj, hPA, hPB, HST.out.1]
        · rw [if_neg e1]
          by_cases e2 : b * r + a < j
          · rw [if_pos e2, if_pos (hst.2 (.inl e2))]
          · rw [if_neg e2, if_neg (fun h => by rcases hst.1 h with h | h; exact e2 h; exact e1 h)]
      case measure => exact HMS.out
    · obtain rfl : j = E := by omega
      have w4 : ¬ (j : Int) < (j : Int) := by omega
      have hmat := HG.out.mat HRR.out.2.1 HRR.out.2.2 HCAP.out (fun a b ha hb => by split; exact HI.out a b; exact ⟨by decide, by decide⟩)
      have hm2 : tabM r c (fun a b => if b * r + a < j then lvB e r s a b else 0) = tabM r c (lvB e r s) := by
        unfold tabM
        refine List.map_congr_left fun a ha => List.map_congr_left fun b hb => ?_
        dsimp only
        rw [if_pos]
        have h1 := List.mem_range.1 ha
        have h2 := List.mem_range.1 hb
        have h3 : b * r + a < (b + 1) * r := by rw [Nat.add_mul]; omega
        have h4 : (b + 1) * r ≤ c * r := Nat.mul_le_mul_right _ h2
        rw [HE.out.1] at h4
        omega
      rw [hm2] at hmat
      have HMAT := Lib.hid hmat
      clear hmat hm2
      go_wp2_with fail
      go_ret2
      exact ⟨_, _, rfl, HMAT.out, HB.out⟩
end Go.Proofs.Ytegomicpolnpoaa
namespace Go.Proofs.Ytegomicpolnpoaa
open Go.RowKit Go.Deep Go.Shelf

theorem laidL_byte {e : Nat} (h1 : 1 ≤ e) {p : Bool} {r c : Nat} {LV : Nat × Nat → Int} {j : Nat} (hj : j < c * r * wid e) :
    (bytN (laidL e p r c LV (c * r)) j : Int) = by8 e (LV (spotAt p r c (j / wid e))) (j % wid e) := by
  rw [← laidL_bytes e p r c _ h1, bytN_nums _ _ (by simpa using hj)]
  have hg : ((List.range (c * r * wid e)).map fun j => by8 e (LV (spotAt p r c (j / wid e))) (j % wid e)).getD j 0 = by8 e (LV (spotAt p r c (j / wid e))) (j % wid e) := by
    simp [List.getD, hj]
  rw [hg]
  have := by8_bd e (LV (spotAt p r c (j / wid e))) (j % wid e)
  omega
theorem bytN_part (s : ByteArray) (a b i : Nat) (h : a + i < b) (hb : b ≤ s.size) : bytN (s.extract a b) i = bytN s (a + i) := by
  unfold bytN
  rw [dif_pos (by omega : a + i < s.size), dif_pos (by rw [ByteArray.size_extract]; omega)]
  rw [ByteArray.getElem_extract]
theorem lvB_laid {e r c : Nat} (h1 : 1 ≤ e) (h8 : e ≤ 8) (LV : Nat × Nat → Int) {a b : Nat} (ha : a < r) (hb : b < c) (hlo : -topN (bitsN e) ≤ LV (a, b)) (hhi : LV (a, b) ≤ topN (bitsN e)) :
    lvB e r (laidL e false r c LV (c * r)) a b = LV (a, b) := by
  have hp := place_lt (p := false) (x := (a, b)) ha hb
  have hsp := spot_place (p := false) (x := (a, b)) ha hb
  have hpl : placeOf false r c (a, b) = b * r + a := rfl
  rw [hpl] at hp hsp
  obtain ⟨P, hP⟩ : ∃ P, b * r + a = P := ⟨_, rfl⟩
  have hw : 1 ≤ wid e := by unfold wid; omega
  have hsz : (laidL e false r c LV (c * r)).size = c * r * wid e := by rw [laidL_size, Nat.mul_comm]
  rw [hP] at hp hsp
  have hq : P * wid e + wid e ≤ c * r * wid e := by
    calc P * wid e + wid e = (P + 1) * wid e := by rw [Nat.add_mul, Nat.one_mul]
      _ ≤ c * r * wid e := Nat.mul_le_mul_right _ (by rw [Nat.mul_comm c]; exact hp)
  unfold lvB lvlR
  rw [hP, getN_by8 h1 h8 _ (LV (a, b)) hlo hhi (fun i hi => ?_)]
  · omega
  · rw [bytN_part _ _ _ _ (by omega) (by rw [hsz]; exact hq), laidL_byte h1 (by omega), divE hi, Nat.mul_add_mod_of_lt hi, hsp]
theorem one8 (x d : Int) (h1 : -32768 ≤ d) (h2 : d ≤ 32767) : -1 ≤ bnd (rnd (x + d) 65536) 127 - bnd (rnd x 65536) 127 ∧ bnd (rnd (x + d) 65536) 127 - bnd (rnd x 65536) 127 ≤ 1 := by
  unfold rnd bnd
  split <;> split <;> omega
theorem one16 (x d : Int) (h1 : -128 ≤ d) (h2 : d ≤ 127) : -1 ≤ bnd (rnd (x + d) 256) 32767 - bnd (rnd x 256) 32767 ∧ bnd (rnd (x + d) 256) 32767 - bnd (rnd x 256) 32767 ≤ 1 := by
  unfold rnd bnd
  split <;> split <;> omega
/-- Without shaping no error is kept. -/
theorem lvTo_unshaped {e : Nat} {m : List (List Int)} : ∀ (l : List (Nat × Nat)) (s : Int × List Int), (∀ k, s.2.getD k 0 = 0) → ∀ y ∈ lvTo (dLv e) (dNx e false) m s l, ∃ d, y.2 = lvl (bitsN e) (smpAt m y.1 + (d % stepN e - stepN e / 2))
  | [], _, _, y, hy => by cases hy
  | x :: l, s, hs, y, hy => by
    rcases List.mem_cons.1 hy with rfl | hy
    · exact ⟨nxt s.1, by show dLv e s x.1 (smpAt m x) = _; unfold dLv; rw [hs, Int.sub_zero]⟩
    · exact lvTo_unshaped l (dNx e false s x.1 (smpAt m x)) (fun k => (congrArg (fun t => List.getD t k 0) (show (dNx e false s x.1 (smpAt m x)).2 = s.2 by simp [dNx])).trans (hs k)) y hy
theorem dLV_plain {e : Nat} {m : List (List Int)} {s : Int × List Int} (hs : ∀ k, s.2.getD k 0 = 0) {x : Nat × Nat} (h1 : x.1 < m.length) (h2 : x.2 < cols m) : ∃ d, dLV e false m s x = lvl (bitsN e) (smpAt m x + (d % stepN e - stepN e / 2)) := by
  have hx : x ∈ (lvTo (dLv e) (dNx e false) m s (spTo m.length (cols m))).map Prod.fst := by rw [lvTo_fst]; exact mem_spTo.2 ⟨h1, h2⟩
  obtain ⟨y, hy, rfl⟩ := List.mem_map.1 hx
  obtain ⟨d, hd⟩ := lvTo_unshaped _ s hs y hy
  exact ⟨d, by rw [← dLV_at e false m s y hy]; exact hd⟩
theorem lvl_one {e : Nat} (h1 : 1 ≤ e) (h4 : e ≤ 4) (x d : Int) : -1 ≤ lvl (bitsN e) (x + (d % stepN e - stepN e / 2)) - lvl (bitsN e) x ∧ lvl (bitsN e) (x + (d % stepN e - stepN e / 2)) - lvl (bitsN e) x ≤ 1 := by
  rcases step_shl h1 h4 with ⟨hb, hs⟩ | ⟨hb, hs⟩
  · rw [hb, hs, ← lvl8, ← lvl8]
    exact one8 x _ (by omega) (by omega)
  · rw [hb, hs, ← lvl16, ← lvl16]
    exact one16 x _ (by omega) (by omega)
/-- What both levels of a spot are to each other. -/
theorem noise_one {e : Nat} (h1 : 1 ≤ e) (h4 : e ≤ 4) {m : List (List Int)} {s : Int × List Int} (hs : ∀ k, s.2.getD k 0 = 0) (hc : ∀ j, j < m.length → (m.getD j []).length = cols m) {a b : Nat} (ha : a < m.length) (hb : b < cols m) :
    -1 ≤ lvB e m.length (dBytes e false false m s) a b - lvB e m.length (bytesOf e false m) a b ∧ lvB e m.length (dBytes e false false m s) a b - lvB e m.length (bytesOf e false m) a b ≤ 1 := by
  obtain ⟨d, hd⟩ := dLV_plain (e := e) hs (x := (a, b)) ha hb
  have t1 := lvl_top h1 (by omega : e ≤ 8) (smpAt m (a, b) + (d % stepN e - stepN e / 2))
  have t2 := lvl_top h1 (by omega : e ≤ 8) (smpAt m (a, b))
  unfold dBytes
  rw [bytesOf_L hc, lvB_laid h1 (by omega) _ ha hb (by rw [hd]; exact t1.1) (by rw [hd]; exact t1.2), lvB_laid h1 (by omega) _ ha hb t2.1 t2.2, hd]
  exact lvl_one h1 h4 _ _
end Go.Proofs.Ytegomicpolnpoaa
namespace Go.Proofs.Ytegomicpolnpoaa
open Go.RowKit Go.Deep Go.Shelf

theorem tab_row {r c cap q : Nat} {F : Nat → Nat → Int} {p : Option Addr} {w : World} (h : MatIn w (tabM r c F) (.slice p r cap)) (hq : q < r) :
    ∃ b o ra rc, p = some ⟨b, o, none⟩ ∧ w.cell? ⟨b, o + q, none⟩ = some (.slice ra c rc) ∧ ∀ k, k < c → ∃ b' o', ra = some ⟨b', o', none⟩ ∧ w.cell? ⟨b', o' + k, none⟩ = some (.int .i64 (F q k)) := by
  obtain ⟨a, c2, e, hin, _, _⟩ := h
  simp only [tabM_len, Value.slice.injEq, true_and] at e
  obtain ⟨rfl, rfl⟩ := e
  obtain ⟨b, o, v, rfl, hc, hv⟩ := hin q (by rw [tabM_len]; exact hq)
  rw [tabM_row F hq] at hv
  obtain ⟨ra, rc, rfl, hr, _, _⟩ := hv
  simp only [List.length_map, List.length_range] at hc hr
  refine ⟨b, o, ra, rc, rfl, hc, fun k hk => ?_⟩
  obtain ⟨b', o', e1, e2, _⟩ := hr k (by simpa using hk)
  refine ⟨b', o', e1, ?_⟩
  rw [show ((List.range c).map (F q)).getD k 0 = F q k by simp [List.getD, hk]] at e2
  exact e2
set_option maxHeartbeats 4000000 in
set_option maxRecDepth 100000 in
theorem noise_inv (n seed : Int) (m : List (List Int)) (v : Value) (w : World) (hM : MatIn w m v) (hv : validB m = false) :
    Calls Try.prog 7 #[.int .i64 n, .int .i64 seed, v] w fun e w' => e = .returned (.bool true) ∧ Below w.heap.size w w' := by
  have h19 := light_any m v w hM
  have hva := refValidBlock_any m v w hM
  have HAW := Lib.hid awake_any
  obtain ⟨a, ca, rfl, hin, hal, _⟩ := id hM
  rw [hv] at hva
  clear hv hM hin
  go_enter Try.func7, Try.ntmps7
  go_wp2_with (go_at_call 19; (with_reducible refine h19.mono ?_); rintro e w1 ⟨sb, rfl, rfl⟩; cases sb)
  · go_wp2_with (go_at_call 18; (with_reducible refine (HAW.out _).mono ?_); rintro e wz ⟨rfl, hbz⟩; have HZ := Lib.hid hbz; clear hbz)
    go_ret
    exact ⟨rfl, HZ.out⟩
  · go_wp2_with (first
      | (go_at_call 42; (with_reducible refine hva.mono ?_); rintro e w1 ⟨rfl, hb1⟩; have HB1 := Lib.hid hb1; clear hb1)
      | (go_at_call 18; (with_reducible refine (HAW.out _).mono ?_); rintro e wz ⟨rfl, hbz⟩; have HZ := Lib.hid hbz; clear hbz))
    go_ret
    exact ⟨rfl, Below.then HB1.out (Nat.le_refl _) HZ.out⟩
set_option maxHeartbeats 4000000 in
set_option maxRecDepth 100000 in
theorem noise_range (n seed : Int) (m : List (List Int)) (v : Value) (w : World) (hM : MatIn w m v) (hv : validB m = true) (hn : n < 1 ∨ (¬ n < 1 ∧ 4 < n)) :
    Calls Try.prog 7 #[.int .i64 n, .int .i64 seed, v] w fun e w' => e = .returned (.bool true) ∧ Below w.heap.size w w' := by
  have h19 := light_any m v w hM
  have hva := refValidBlock_any m v w hM
  have HAW := Lib.hid awake_any
  obtain ⟨a, ca, rfl, hin, hal, _⟩ := id hM
  rw [hv] at hva
  clear hv hM hin
  rcases hn with hn | ⟨hn, hn2⟩
  all_goals
    go_enter Try.func7, Try.ntmps7
    go_wp2_with (go_at_call 19; (with_reducible refine h19.mono ?_); rintro e w1 ⟨sb, rfl, rfl⟩; cases sb)
  all_goals try
    (go_wp2_with (go_at_call 18; (with_reducible refine (HAW.out _).mono ?_); rintro e wz ⟨rfl, hbz⟩; have HZ := Lib.hid hbz; clear hbz)
     go_ret
     exact ⟨rfl, HZ.out⟩)
  all_goals
    go_wp2_with (first
      | (go_at_call 42; (with_reducible refine hva.mono ?_); rintro e w1 ⟨rfl, hb1⟩; have HB1 := Lib.hid hb1; clear hb1)
      | (go_at_call 18; (with_reducible refine (HAW.out _).mono ?_); rintro e wz ⟨rfl, hbz⟩; have HZ := Lib.hid hbz; clear hbz))
    go_ret
    exact ⟨rfl, Below.then HB1.out (Nat.le_refl _) HZ.out⟩
set_option maxHeartbeats 4000000 in
set_option maxRecDepth 100000 in
theorem noise_seed (n seed : Int) (m : List (List Int)) (v : Value) (w : World) (hM : MatIn w m v) (hv : validB m = true) (hn : ¬ n < 1 ∧ ¬ 4 < n) (K : Int) (hK : dithE n seed m.length = K) (hK0 : K ≠ 0) :
    Calls Try.prog 7 #[.int .i64 n, .int .i64 seed, v] w fun e w' => e = .returned (.bool true) ∧ Below w.heap.size w w' := by
  have h19 := light_any m v w hM
  have hva := refValidBlock_any m v w hM
  have HAW := Lib.hid awake_any
  have HN1 := Lib.hid fun x => newD_as (sh := false) hK x
  have HN2 := Lib.hid fun x => newD_as (sh := true) hK x
  obtain ⟨a, ca, rfl, hin, hal, _⟩ := id hM
  rw [hv] at hva
  obtain ⟨hn1, hn2⟩ := hn
  have k0 : (K == 0) = false := by simpa using hK0
  have k1 : (K != 0) = true := by simpa using hK0
  clear hv hM hin hK hK0
  go_enter Try.func7, Try.ntmps7
  go_wp2_with (go_at_call 19; (with_reducible refine h19.mono ?_); rintro e w1 ⟨sb, rfl, rfl⟩; cases sb)
  · go_wp2_with (go_at_call 18; (with_reducible refine (HAW.out _).mono ?_); rintro e wz ⟨rfl, hbz⟩; have HZ := Lib.hid hbz; clear hbz)
    go_ret
    exact ⟨rfl, HZ.out⟩
  · go_wp2_with (first
      | (go_at_call 42; (with_reducible refine hva.mono ?_); rintro e w1 ⟨rfl, hb1⟩; have HB1 := Lib.hid hb1; clear hb1)
      | (go_at_call 36; (with_reducible refine (HN1.out _).mono ?_); rintro e w2 ⟨p1, rfl, hb2⟩; have HB2 := Lib.hid (Below.then HB1.out (Nat.le_refl _) hb2); clear hb2)
      | (go_at_call 36; (with_reducible refine (HN2.out _).mono ?_); rintro e w3 ⟨p2, rfl, hb3⟩; have HB3 := Lib.hid (Below.then HB2.out (Nat.le_refl _) hb3); clear hb3)
      | (go_at_call 18; (with_reducible refine (HAW.out _).mono ?_); rintro e wz ⟨rfl, hbz⟩; have HZ := Lib.hid hbz; clear hbz))
    go_ret
    exact ⟨rfl, Below.then HB3.out (Nat.le_refl _) HZ.out⟩
end Go.Proofs.Ytegomicpolnpoaa
