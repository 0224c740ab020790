/- VolumeCut's law. -/
import Derived.Test.YthfagnbecocgdaaSN
import Derived.Test.YthfagnbecocgdaaAB
import Derived.Test.YthfagnbecocgdaaJA
import Derived.Test.YthfagnbecocgdaaEE
import Derived.Test.YthfagnbecocgdaaVC
namespace Go.Proofs.Ythfagnbecocgdaa
open Go.RowKit Go.Shelf Go.Deep

theorem MatIn.laterC {w w' : World} {m : List (List Int)} {v : Value} (h : MatIn w m v) (hb : Below w.heap.size w w') : MatIn w' m v := h.mono (Same.of_below hb)
theorem _root_.Go.RowKit.Below.nextC {w w1 w2 : World} (h : Below w.heap.size w w1) (h2 : Below w1.heap.size w1 w2) : Below w.heap.size w w2 := Below.then h (Nat.le_refl _) h2
theorem sameC (M : List (List Int)) (va vb : Value) (w : World) (ha : MatIn w M va) (hb : MatIn w M vb) : Calls Try.prog 20 #[va, vb] w fun e w' => e = .returned (.bool true) ∧ Below w.heap.size w w' :=
  (sameBlock_any M M va vb w ha hb).mono fun e w' ⟨h1, h2⟩ => ⟨by simpa using h1, h2⟩
theorem and24 (x : Int) : bits BinOp.and IntKind.i64 x 16777215 = x % 16777216 := by
  have e1 : (BitVec.ofInt 64 x).toNat = (x % 18446744073709551616).toNat := by rw [BitVec.toNat_ofInt]; rfl
  have e2 : (BitVec.ofInt 64 16777215).toNat = 16777215 := by decide
  have e3 : ∀ a : Nat, a &&& 16777215 = a % 16777216 := fun a => Nat.and_two_pow_sub_one_eq_mod a 24
  have e4 : bits BinOp.and IntKind.i64 x 16777215 = IntKind.i64.wrap ((BitVec.ofInt 64 x &&& BitVec.ofInt 64 16777215).toNat : Nat) := rfl
  rw [e4, BitVec.toNat_and, e1, e2, e3, IntKind.wrap_i64]
  have h0 := Int.emod_nonneg x (show (18446744073709551616 : Int) ≠ 0 by decide)
  have h1 : ((x % 18446744073709551616).toNat : Int) = x % 18446744073709551616 := Int.toNat_of_nonneg h0
  have h2 : (((x % 18446744073709551616).toNat % 16777216 : Nat) : Int) = x % 16777216 := by
    rw [Int.natCast_emod, h1]; omega
  rw [h2]
  omega
theorem Try.info4 : (Try.prog.info? 4).map (fun i => (i.zero, i.size, i.bytes)) = some (some (.bool false), 1, 1) := by kernel_rfl
theorem Try.underlying43 : Try.prog.underlying 43 = some (.slice 4) := by kernel_rfl
theorem ones_ok {n : Nat} : ∀ i, i < (List.replicate n one1).length → (chAt (List.replicate n one1) i).Ok := fun i hi => by
  rw [List.length_replicate] at hi
  rw [chAt_rep hi]; exact one1_ok

set_option maxHeartbeats 1000000 in
set_option maxRecDepth 100000 in
theorem cutLaw_no (gs : List Int) (u : Value) (fr c : Int) (b : List (List Int)) (v : Value) (w : World) (hu : RowIn w gs u) (hM : MatIn w b v) (hno : validB b = false ∨ 20 < gs.length) :
    Calls Try.prog 7 #[u, .int .i64 fr, v, .int .i64 c] w fun e w' => e = .returned (.bool true) ∧ Below w.heap.size w w' := by
  have h24 := light_any b v w hM
  have h44 := refValidBlock_any b v w hM
  have HAW := Lib.hid awake_any
  obtain ⟨ag, cg, rfl, _, _, _⟩ := hu
  obtain ⟨a, ca, rfl, _, _, _⟩ := hM
  have hways : validB b = false ∨ (validB b = true ∧ 20 < gs.length) := by
    cases e : validB b with
    | false => exact .inl rfl
    | true => exact .inr ⟨rfl, by rcases hno with h | h; rw [e] at h; cases h; exact h⟩
  clear hno
  rcases hways with h1 | ⟨h1, h2⟩
  · rw [h1] at h44
    clear h1
    go_enter Try.func7, Try.ntmps7
    go_wp2_with (first
      | (go_at_call 24; (with_reducible refine h24.mono ?_); rintro e w0 ⟨sb, rfl, rfl⟩; cases sb)
      | (go_at_call 44; (with_reducible refine h44.mono ?_); rintro e w1 ⟨rfl, b1⟩; have B1 := Lib.hid b1; clear b1)
      | (go_at_call 9; (with_reducible refine (HAW.out _).mono ?_); rintro e w9 ⟨rfl, b9⟩))
    · go_ret
      exact ⟨rfl, b9⟩
    · go_ret
      exact ⟨rfl, B1.out.nextC b9⟩
  · rw [h1] at h44
    have e1 : (20 : Int) < (gs.length : Int) := by omega
    clear h1
    go_enter Try.func7, Try.ntmps7
    go_wp2_with (first
      | (go_at_call 24; (with_reducible refine h24.mono ?_); rintro e w0 ⟨sb, rfl, rfl⟩; cases sb)
      | (go_at_call 44; (with_reducible refine h44.mono ?_); rintro e w1 ⟨rfl, b1⟩; have B1 := Lib.hid b1; clear b1)
      | (go_at_call 9; (with_reducible refine (HAW.out _).mono ?_); rintro e w9 ⟨rfl, b9⟩))
    · go_ret
      exact ⟨rfl, b9⟩
    · go_ret
      exact ⟨rfl, B1.out.nextC b9⟩

theorem push_part_len {cs : List Ch} {b : List (List Int)} (hrow : ∀ j, j < b.length → (b.getD j []).length ≤ 4096) (f t : Nat) {j : Nat} (hj : j < b.length) : ((pushM cs (partM b f t)).getD j []).length ≤ 4096 := by
  rw [pushM_at (by rw [partM_len]; exact hj), scaledR_len, partM_at hj, List.length_take, List.length_drop]
  have := hrow j hj
  omega
set_option maxHeartbeats 16000000 in
set_option maxRecDepth 100000 in
theorem cutLaw_yes (gs : List Int) (u : Value) (fr c : Int) (b : List (List Int)) (v : Value) (w : World) (hu : RowIn w gs u) (hM : MatIn w b v) (hv : validB b = true) (h20 : gs.length ≤ 20) :
    Calls Try.prog 7 #[u, .int .i64 fr, v, .int .i64 c] w fun e w' => e = .returned (.bool true) ∧ Below w.heap.size w w' := by
  have h24 := light_any b v w hM
  have h44 := refValidBlock_any b v w hM
  rw [hv] at h44
  have HAW := Lib.hid awake_any
  obtain ⟨pb1, pb2, pb3, hrow⟩ := validB_parts hv
  have HNEW := Lib.hid (fun (x : World) => new_yes b.length pb1 pb2 x)
  have HMM := Lib.hid hM
  have HUU := Lib.hid hu
  have HV := Lib.hid hv
  obtain ⟨C, hC⟩ : ∃ C, cols b = C := ⟨_, rfl⟩
  have HC := Lib.hid hC
  rw [hC] at pb3 hrow
  have HROW := Lib.hid hrow
  obtain ⟨ag, cg, rfl, _, _, _⟩ := hu
  obtain ⟨a, ca, rfl, hin, _, _⟩ := hM
  obtain ⟨bb, ob, ur, rfl, hcu, hur⟩ := hin 0 (by omega)
  obtain ⟨au, cu, rfl, _, _, _⟩ := hur
  change w.cell? _ = some (Value.slice au (cols b) cu) at hcu
  simp only [Nat.add_zero, hC] at hcu
  have HCU := Lib.hid (fun (x : World) (hx : Below w.heap.size w x) => (Same.of_below hx).cell hcu)
  have e1 : ¬ (20 : Int) < (gs.length : Int) := by omega
  have hposI : (0 : Int) < (b.length : Int) := by omega
  have hposN : 0 < b.length := by omega
  clear hin hrow hC hv hcu
  go_enter Try.func7, Try.ntmps7
  go_upto_region 3 with (first
    | (go_at_call 24; (with_reducible refine h24.mono ?_); rintro e w0 ⟨sb, rfl, rfl⟩; cases sb)
    | (go_at_call 44; (with_reducible refine h44.mono ?_); rintro e w1 ⟨rfl, b1⟩; have B1 := Lib.hid b1; clear b1)
    | (go_at_call 9; (with_reducible refine (HAW.out _).mono ?_); rintro e w9 ⟨rfl, b9⟩))
  · go_ret
    exact ⟨rfl, b9⟩
  clear h24 h44
  go_upto_region 6 with (go_at_call 10; (with_reducible refine (HNEW.out _).mono ?_); rintro e w2 ⟨P1, R1, rfl, v1, l1, b2⟩; have B2 := Lib.hid (B1.out.nextC b2); have L1 := Lib.hid (And.intro (Nat.le_trans B1.out.size l1.1) (Nat.le_trans B1.out.size l1.2)); have V1 := Lib.hid v1; clear v1 l1 b2)
  have p1 := push_yes b _ _ P1 R1 w2 (off_old HMM.out B2.out L1.out.2) HV.out (by simp) V1.out ones_ok
  rw [push_one HV.out rfl, gone_one (by omega)] at p1
  go_upto_region 9 with (first
    | (go_at_call 12; (with_reducible refine p1.mono ?_); rintro e w3 ⟨u1, rfl, m1, v1, g1⟩; have V1b := Lib.hid v1; have B3 := Lib.hid (below_gb B2.out g1 B2.out.size L1.out.2); have S1 := Lib.hid (sameC b u1 _ w3 m1.here (HMM.out.laterC B3.out)); clear m1 v1 g1 p1)
    | (go_at_call 20; (with_reducible refine S1.out.mono ?_); rintro e w4 ⟨rfl, b4⟩; have B4 := Lib.hid (B3.out.nextC b4); have V1c := Lib.hid (V1b.out.below b4); clear b4))
  clear V1 V1b S1 B2 B3
  have c1 := copy_any P1 R1 _ w4 V1c.out (by simpa using pb1) (by simpa using pb2)
  go_upto_region 10 with (go_at_call 15; (with_reducible refine c1.mono ?_); rintro e w5 ⟨P2, R2, rfl, v2, l2, b5⟩; have V2 := Lib.hid v2; have L2 := Lib.hid l2; have B5 := Lib.hid (B4.out.nextC b5); have V1d := Lib.hid (V1c.out.below b5); clear v2 l2 b5 c1)
  have HNE := Lib.hid (show P2 ≠ R1 ∧ R2 ≠ R1 ∧ P1 ≠ R2 ∧ R1 ≠ R2 ∧ w.heap.size ≤ R2 ∧ w.heap.size ≤ P2 from by
    have h1 := V1c.out.lt; have h2 := L2.out; have h3 := B4.out.size
    exact ⟨by omega, by omega, by omega, by omega, by omega, by omega⟩)
  have s1 := set_any P1 R1 _ gs _ fr w5 V1d.out ones_ok (by simpa using pb2) (row_old HUU.out B5.out L1.out.2)
  rw [List.length_replicate] at s1
  obtain ⟨cs, hcs⟩ : ∃ cs, setR gs fr (List.replicate b.length one1) = cs := ⟨_, rfl⟩
  have hcl : cs.length = b.length := by rw [← hcs, setR_len, List.length_replicate]
  have hcok : ∀ i, i < cs.length → (chAt cs i).Ok := by rw [← hcs]; exact setR_ok ones_ok
  rw [hcs] at s1
  have HCS := Lib.hid hcs
  have HCL := Lib.hid hcl
  have HCOK := Lib.hid hcok
  generalize hk : setK gs fr b.length = kk at s1
  have HK := Lib.hid hk
  clear hcs hcl hcok hk V1c
  go_upto_region 12 with (first
    | (go_at_call 13; (with_reducible refine s1.mono ?_); rintro e w6 ⟨rfl, v1, g1⟩; have B6 := Lib.hid (below_gb B5.out g1 B5.out.size L1.out.2); have V1e := Lib.hid v1; have V2b := Lib.hid (V2.out.keep g1 HNE.out.1 HNE.out.2.1)
       have s2 := set_any P2 R2 _ gs _ fr w6 V2b.out ones_ok (by simpa using pb2) (row_old HUU.out B6.out HNE.out.2.2.2.2.1)
       rw [List.length_replicate, HCS.out, HK.out] at s2
       clear v1 g1 s1)
    | (go_at_call 13; (with_reducible refine s2.mono ?_); rintro e w7 ⟨rfl, v2, g2⟩; have B7 := Lib.hid (below_gb B6.out g2 B6.out.size HNE.out.2.2.2.2.1); have V2c := Lib.hid v2; have V1f := Lib.hid (V1e.out.keep g2 HNE.out.2.2.1 HNE.out.2.2.2.1); clear v2 g2 s2))
  clear V1d V1e V2 V2b B4 B5 B6
  have hc7 := HCU.out _ B7.out
  have h24' := and24 c
  go_upto_region 13 with fail
  obtain ⟨k, hk1, hk2⟩ : ∃ k : Nat, c % 16777216 % ((C : Int) + 1) = (k : Int) ∧ k ≤ C := ⟨(c % 16777216 % ((C : Int) + 1)).toNat, by
    have h0 := Int.emod_nonneg (c % 16777216) (show ((C : Int) + 1) ≠ 0 by omega)
    omega, by
    have h0 := Int.emod_nonneg (c % 16777216) (show ((C : Int) + 1) ≠ 0 by omega)
    have h1 := Int.emod_lt_of_pos (c % 16777216) (show 0 < ((C : Int) + 1) by omega)
    omega⟩
  rw [hk1]
  clear hk1 h24'
  have p2 := push_yes b cs _ P1 R1 w7 (off_old HMM.out B7.out L1.out.2) HV.out HCL.out V1f.out HCOK.out
  go_upto_region 14 with (go_at_call 12; (with_reducible refine p2.mono ?_); rintro e w8 ⟨u8, rfl, m8, v8, g8⟩; have M8 := Lib.hid m8; have B8 := Lib.hid (below_gb B7.out g8 B7.out.size L1.out.2); have V2d := Lib.hid (V2c.out.keep g8 HNE.out.1 HNE.out.2.1); have S8 := Lib.hid (show R2 < w7.heap.size ∧ w7.heap.size ≤ w8.heap.size from ⟨V2c.out.lt.2, g8.size⟩); clear m8 v8 g8 p2)
  clear V1f V2c hc7 B7
  have part1 : Calls Try.prog 45 #[.slice (some ⟨bb, ob, none⟩) b.length ca, .int .i64 0, .int .i64 k] w8 fun e w' => ∃ u, e = .returned u ∧ MatNew w8.heap.size w' (partM b 0 k) u ∧ Below w8.heap.size w8 w' := part_any b _ w8 (HMM.out.laterC B8.out) pb2 0 k (Nat.zero_le _) (fun j hj => by rw [HROW.out j hj]; exact hk2) (by omega)
  have hpv1 := part_valid HV.out (f := 0) (t := k) (Nat.zero_le _) (by rw [HC.out]; exact hk2)
  have hpv2 := part_valid HV.out (f := k) (t := C) hk2 (by rw [HC.out]; exact Nat.le_refl _)
  go_upto_region 15 with (first
    | (go_at_call 45; (with_reducible refine part1.mono ?_); rintro e w9 ⟨p9, rfl, m9, b9⟩; have B9 := Lib.hid (B8.out.nextC b9)
       have p3 := push_yes (partM b 0 k) cs p9 P2 R2 w9 (off_new m9 (by have := S8.out; omega)) hpv1.1 (by rw [partM_len]; exact HCL.out) (V2d.out.below b9) HCOK.out
       rw [hpv1.2, Nat.sub_zero] at p3
       have G9 := Lib.hid (gb_below (R := some R2) b9)
       clear m9 b9 part1)
    | (go_at_call 12; (with_reducible refine p3.mono ?_); rintro e w10 ⟨u10, rfl, m10, v10, g10⟩; have M10 := Lib.hid m10; have B10 := Lib.hid (below_gb B9.out g10 B9.out.size HNE.out.2.2.2.2.1); have V2e := Lib.hid v10; have G10 := Lib.hid (gb_trans G9.out g10); have S9 := Lib.hid (show R2 < w9.heap.size from by have := S8.out; have := G9.out.size; omega); clear m10 v10 g10 p3))
  have hc10 := HCU.out _ B10.out
  have part2 := part_any b _ w10 (HMM.out.laterC B10.out) pb2 k C hk2 (fun j hj => by rw [HROW.out j hj]; exact Nat.le_refl _) pb3
  clear V2d B8 B9 G9
  go_upto_region 16 with (first
    | (go_at_call 45; (with_reducible refine part2.mono ?_); rintro e w11 ⟨p11, rfl, m11, b11⟩; have B11 := Lib.hid (B10.out.nextC b11)
       have p4 := push_yes (partM b k C) (cs.map (goC k)) p11 P2 R2 w11 (off_new m11 (by have := S9.out; have := G10.out.size; have := V2e.out.lt.2; omega)) hpv2.1 (by rw [List.length_map, partM_len]; exact HCL.out) (V2e.out.below b11) (fun i hi => by rw [List.length_map] at hi; rw [chAt_map hi]; exact goC_ok (by omega) (HCOK.out i hi))
       have G11 := Lib.hid (gb_below (R := some R2) b11)
       clear m11 b11 part2)
    | (go_at_call 12; (with_reducible refine p4.mono ?_); rintro e w12 ⟨u12, rfl, m12, v12, g12⟩; have M12 := Lib.hid m12; have B12 := Lib.hid (below_gb B11.out g12 B11.out.size HNE.out.2.2.2.2.1); have G12 := Lib.hid (gb_trans G11.out g12); clear m12 v12 g12 p4))
  have h4096 : ∀ j, j < b.length → (b.getD j []).length ≤ 4096 := fun j hj => by rw [HROW.out j hj]; exact pb3
  have bh := behind_any (pushM cs (partM b 0 k)) (pushM (cs.map (goC k)) (partM b k C)) u10 u12 w12 (off_new M10.out S9.out _ G12.out) M12.out.here (by rw [pushM_len, partM_len]; exact pb2) (by rw [pushM_len, pushM_len, partM_len, partM_len]; exact Nat.le_refl _) (fun j hj => by
    rw [pushM_len, partM_len] at hj
    have h1 := push_part_len (cs := cs) h4096 0 k hj
    have h2 := push_part_len (cs := cs.map (goC k)) h4096 k C hj
    omega)
  have hcut := push_cut (cs := cs) (b := b) HV.out HCL.out HCOK.out (k := k) (by rw [HC.out]; exact hk2)
  rw [HC.out] at hcut
  rw [← hcut] at bh
  clear hcut h4096 hpv1 hpv2 hc10 V2e G11 B10 B11
  go_upto_region 18 with (first
    | (go_at_call 46; (with_reducible refine bh.mono ?_); rintro e w13 ⟨u13, rfl, m13, b13⟩; have B13 := Lib.hid (B12.out.nextC b13); have S5 := Lib.hid (sameC (pushM cs b) u8 u13 w13 (off_new M8.out S8.out.1 _ (gb_trans G10.out (gb_trans G12.out (gb_below b13)))) m13.here); clear m13 b13 bh)
    | (go_at_call 20; (with_reducible refine S5.out.mono ?_); rintro e w14 ⟨rfl, b14⟩; have B14 := Lib.hid (B13.out.nextC b14); clear b14))
  clear S5 B12 B13 G10 G12 M8 M10 M12
  have hmk := run_make_row' (P := Try.prog) 43 4 (.bool false) 1 Try.underlying43 Try.info4 rfl .i64 .i64 b.length (by omega) (by omega)
  go_upto_region 19 with fail
  clear hmk
  obtain ⟨RB, hRB⟩ : ∃ RB, w14.heap.size = RB := ⟨_, rfl⟩
  have hr15 : (w14.alloc (.cells (madeCells #[.bool false] b.length) 4)).rowIs RB 4 b.length (fun i => .bool (decide (i < 0))) := by
    rw [← hRB]
    exact (World.rowIs_made w14 (.bool false) b.length 4).congr fun i _ => by simp
  have B15 := Lib.hid (B14.out.alloc B14.out.size (.cells (madeCells #[.bool false] b.length) 4))
  have HRB := Lib.hid (show w.heap.size ≤ RB by rw [← hRB]; exact B14.out.size)
  generalize w14.alloc (.cells (madeCells #[.bool false] b.length) 4) = w15 at *
  rw [hRB]
  clear hRB
  have HR15 := Lib.hid hr15
  clear hr15
  go_upto_region 20 with fail
  go_loopw [19] (fun i wr => ∃ j : Nat, i = .int .i64 j ∧ j ≤ b.length ∧ wr.rowIs RB 4 b.length (fun i => .bool (decide (i < j))) ∧ Below w.heap.size w wr) (fun i _ => b.length - (intOf i).toNat)
  case atStart => exact ⟨0, rfl, Nat.zero_le _, HR15.out, B15.out⟩
  case round =>
    clear HR15 B15 B14
    obtain ⟨j, rfl, hj, hr, hbl⟩ := hrel
    by_cases hlt : j < b.length
    · have w4 : (j : Int) < (b.length : Int) := by omega
      have hcj := hr.cell hlt
      have hz := hr.frozen j
      have HST := Lib.hid ((hr.set j (.bool true)).congr (g := fun i => .bool (decide (i < j + 1))) fun i hi => by
        by_cases e : i = j
        · subst e; simp
        · simp only [if_neg e]; congr 1; exact decide_eq_decide.2 (by omega))
      have HB := Lib.hid (hbl.setCell (p := ⟨RB, j, none⟩) HRB.out (.bool true))
      clear hr hbl
      go_wp2_with fail
      go_roundw
      case rel => exact ⟨j + 1, by go_num, by omega, HST.out, HB.out⟩
      case measure => simp [intOf]; omega
    · have w4 : ¬ (j : Int) < (b.length : Int) := by omega
      obtain rfl : j = b.length := by omega
      have HRO := Lib.hid hr
      have B16 := Lib.hid hbl
      clear hr hbl
      go_upto_region 24 with (go_at_call 10; (with_reducible refine (HNEW.out _).mono ?_); rintro e w17 ⟨P3, R3, rfl, v3, l3, b17⟩; have V3 := Lib.hid v3; have L3 := Lib.hid l3; have B17 := Lib.hid (B16.out.nextC b17); have HR17 := Lib.hid (HRO.out.of_block (b17.block RB HRO.out.lt)); have HLT := Lib.hid (show RB < R3 from Nat.lt_of_lt_of_le HRO.out.lt l3.2); clear v3 l3 b17)
      have hbo : BoolOff R3 w17 (List.replicate b.length true) (.slice (some ⟨RB, 0, none⟩) b.length b.length) := fun x hg => by
        refine ⟨some ⟨RB, 0, none⟩, b.length, by simp, fun i hi => ⟨RB, 0, rfl, ?_⟩⟩
        rw [List.length_replicate] at hi
        rw [Nat.zero_add, (gb_row HR17.out hg (by have := HLT.out; omega)).cell hi]
        simp [List.getD, hi]
      have HR3 := Lib.hid (show w.heap.size ≤ R3 from Nat.le_trans B16.out.size L3.out.2)
      have mu := mute_yes P3 R3 _ (List.replicate b.length true) _ 0 w17 V3.out ones_ok (by simpa using pb2) hbo (by decide) (by simp)
      have hmok := muteR_ok (n := b.length)
      have hml : (muteR (List.replicate b.length true) 0 (List.replicate b.length one1)).length = b.length := by rw [muteR_len, List.length_replicate]
      have hpz := push_muted HV.out (rfl : b.length = b.length)
      rw [HC.out] at hpz
      obtain ⟨ms, hms⟩ : ∃ ms, muteR (List.replicate b.length true) 0 (List.replicate b.length one1) = ms := ⟨_, rfl⟩
      rw [hms] at mu hmok hml hpz
      clear hms hbo
      go_upto_region 26 with (go_at_call 14; (with_reducible refine mu.mono ?_); rintro e w18 ⟨rfl, v4, g18⟩; have V4 := Lib.hid v4; have B18 := Lib.hid (below_gb B17.out g18 B17.out.size HR3.out); clear v4 g18 mu)
      have p5 := push_yes b ms _ P3 R3 w18 (off_old HMM.out B18.out HR3.out) HV.out hml V4.out hmok
      rw [hpz] at p5
      clear hmok hml hpz V3 V4 B17 HR17
      go_upto_region 27 with (go_at_call 12; (with_reducible refine p5.mono ?_); rintro e w19 ⟨u19, rfl, m19, v19, g19⟩; have M19 := Lib.hid m19.here; have B19 := Lib.hid (below_gb B18.out g19 B18.out.size HR3.out); clear m19 v19 g19 p5)
      have hc19 := HCU.out _ B19.out
      have hno : Calls Try.prog 47 #[.int .i64 b.length, .int .i64 C] w19 (MatGiven w19 (zeroM b.length C)) := nothing_any b.length C pb2 pb3 w19
      go_wp2_with (first
        | (go_at_call 47; (with_reducible refine hno.mono ?_); rintro e w20 ⟨u20, rfl, m20, b20⟩; have B20 := Lib.hid (B19.out.nextC b20); have S6 := Lib.hid (sameC (zeroM b.length C) u19 u20 w20 (M19.out.laterC b20) m20); clear m20 b20)
        | (go_at_call 20; (with_reducible refine S6.out.mono ?_); rintro e w21 ⟨rfl, b21⟩; have B21 := Lib.hid (B20.out.nextC b21); clear b21)
        | (go_at_call 9; (with_reducible refine (HAW.out _).mono ?_); rintro e w22 ⟨rfl, b22⟩))
      go_ret
      exact ⟨rfl, B21.out.nextC b22⟩
theorem cutLaw_any (gs : List Int) (u : Value) (fr c : Int) (b : List (List Int)) (v : Value) (w : World) (hu : RowIn w gs u) (hM : MatIn w b v) :
    Calls Try.prog 7 #[u, .int .i64 fr, v, .int .i64 c] w fun e w' => e = .returned (.bool true) ∧ Below w.heap.size w w' := by
  cases hv : validB b with
  | false => exact cutLaw_no gs u fr c b v w hu hM (.inl hv)
  | true =>
    by_cases h : gs.length ≤ 20
    · exact cutLaw_yes gs u fr c b v w hu hM hv h
    · exact cutLaw_no gs u fr c b v w hu hM (.inr (by omega))
end Go.Proofs.Ythfagnbecocgdaa
