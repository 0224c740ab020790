/- A dither's errors; a number's lowest bits. -/
import Derived.Test.YtegomicpolnpoaaXE
import Derived.Test.YtegomicpolnpoaaIA
import Derived.Test.YtegomicpolnpoaaXG
import Derived.Test.YtegomicpolnpoaaVC
import Derived.Test.YtegomicpolnpoaaJA
namespace Go.Proofs.Ytegomicpolnpoaa
open Go.RowKit Go.Deep Go.Shelf

theorem and24 (x : Int) : bits BinOp.and IntKind.i64 x 16777215 = x % 16777216 := by
  have e1 : (BitVec.ofInt 64 x).toNat = (x % 18446744073709551616).toNat := by rw [BitVec.toNat_ofInt]; rfl
  have e2 : (BitVec.ofInt 64 16777215).toNat = 16777215 := by decide
  have e3 : ∀ a : Nat, a &&& 16777215 = a % 16777216 := fun a => Nat.and_two_pow_sub_one_eq_mod a 24
  have e4 : bits BinOp.and IntKind.i64 x 16777215 = IntKind.i64.wrap ((BitVec.ofInt 64 x &&& BitVec.ofInt 64 16777215).toNat : Nat) := rfl
  rw [e4, BitVec.toNat_and, e1, e2, e3, IntKind.wrap_i64]
  have h0 := Int.emod_nonneg x (show (18446744073709551616 : Int) ≠ 0 by decide)
  have h1 : ((x % 18446744073709551616).toNat : Int) = x % 18446744073709551616 := Int.toNat_of_nonneg h0
  have h2 : (((x % 18446744073709551616).toNat % 16777216 : Nat) : Int) = x % 16777216 := by
    rw [Int.natCast_emod, h1]; omega
  rw [h2]
  omega
theorem ds_row {D E r e : Nat} {sh : Bool} {s : Int × List Int} {w : World} (h : DS D E r e sh s w) (hr8 : r ≤ 8) : RowIn w s.2 (.slice (some ⟨E, 0, none⟩) r r) := by
  have hl := h.len
  refine ⟨some ⟨E, 0, none⟩, r, by rw [hl], fun i hi => ⟨E, 0, rfl, ?_, ?_⟩, by omega, by omega⟩
  · rw [Nat.zero_add]; exact h.row.cell (by omega)
  · have := h.errs i (by omega)
    have := stepN_two e
    unfold I64; omega
theorem rowN_in {B : Nat} {w : World} {g : Nat} {l : List Int} {cap : Nat} (h : RowN B w g l.length (fun i => l.getD i 0)) (hc : l.length ≤ cap) (hl : l.length ≤ 8) (h64 : ∀ i, i < l.length → I64 (l.getD i 0)) : RowIn w l (.slice (some ⟨g, 0, none⟩) l.length cap) :=
  ⟨some ⟨g, 0, none⟩, cap, rfl, fun i hi => ⟨g, 0, rfl, by rw [Nat.zero_add]; exact h.cell i hi, h64 i hi⟩, by omega, hc⟩
set_option maxRecDepth 100000 in
theorem errors_any {D E r e : Nat} {sh : Bool} {s : Int × List Int} (w : World) (h : DS D E r e sh s w) (hr1 : 1 ≤ r) (hr8 : r ≤ 8) : Calls Try.prog 40 #[.pointer (some ⟨D, 0, none⟩)] w fun y w' => ∃ u, y = .returned u ∧ RowIn w' s.2 u ∧ Below w.heap.size w w' := by
  have hl := h.len
  have c3 := h.top.cell (i := 3) (by decide)
  rw [show dF e sh E r s.1 3 = .slice (some ⟨E, 0, none⟩) r r from rfl] at c3
  have hc := clone_any s.2 _ w (ds_row h hr8) (by omega) (by omega)
  have HI := Lib.hid (fun i (hi : i < s.2.length) => (by have := h.errs i (by omega); have := stepN_two e; unfold I64; omega : I64 (s.2.getD i 0)))
  clear h
  go_enter Try.func40, Try.ntmps40
  go_wp2_with (go_at_call 93; (with_reducible refine hc.mono ?_); rintro y w1 ⟨g, cap, rfl, hcap, hrn, hb⟩; have HR := Lib.hid (rowN_in hrn hcap (by omega) HI.out); have HB := Lib.hid hb; clear hrn hb)
  go_ret
  exact ⟨_, rfl, by have h2 := HR.out; rw [hl] at h2; exact h2, HB.out⟩
end Go.Proofs.Ytegomicpolnpoaa
namespace Go.Proofs.Ytegomicpolnpoaa
open Go.RowKit Go.Deep Go.Shelf

theorem laidL_size (e : Nat) (p : Bool) (r c : Nat) (LV : Nat × Nat → Int) : ∀ i, (laidL e p r c LV i).size = wid e * i
  | 0 => by simp [laidL]
  | i + 1 => by rw [laidL, ByteArray.size_append, laidL_size e p r c LV i, lvS_size, Nat.mul_succ]
theorem size_small {e : Nat} {m : List (List Int)} (hp : 1 ≤ m.length ∧ m.length ≤ 8 ∧ cols m ≤ 4096 ∧ ∀ k, k < m.length → (m.getD k []).length = cols m) (h1 : 1 ≤ e) (h4 : e ≤ 4) : wid e * (cols m * m.length) ≤ 100000 := by
  have h2 : wid e ≤ 2 := by unfold wid; omega
  have h3 : cols m * m.length ≤ 32768 := by rw [Nat.mul_comm]; exact mul_le8 hp.2.1 (Nat.le_refl _) hp.2.2.1
  calc wid e * (cols m * m.length) ≤ 2 * (cols m * m.length) := Nat.mul_le_mul_right _ h2
    _ ≤ 2 * 32768 := Nat.mul_le_mul_left _ h3
    _ ≤ 100000 := by decide
theorem sameRow_self (l : List Int) (u v : Value) (w : World) (hu : RowIn w l u) (hv : RowIn w l v) : Calls Try.prog 26 #[u, v] w fun e w' => e = .returned (.bool true) ∧ Below w.heap.size w w' := by
  have := sameRow_any l l u v w hu hv
  rwa [show decide (l = l) = true by simp] at this
theorem enc_as {n : Int} {p : Bool} {m : List (List Int)} {v : Value} {S : ByteArray} {k : Int} (h : encA n p m = (S, k)) (X : World) (hM : MatIn X m v) : Calls Try.prog 20 #[.int .i64 n, .bool p, v] X fun e w' => e = .returned (.tuple #[.string S, .int .i64 k]) ∧ Below X.heap.size X w' := by
  have := encode_any n p m v X hM
  rw [h] at this
  exact this
theorem newD_as {n seed c : Int} {sh : Bool} {K : Int} (h : dithE n seed c = K) (X : World) : Calls Try.prog 36 #[.int .i64 n, .int .i64 seed, .int .i64 c, .bool sh] X fun e w' => ∃ a, e = .returned (.tuple #[.pointer a, .int .i64 K]) ∧ Below X.heap.size X w' := by
  refine (newD_any n seed c sh X).mono ?_
  rintro e w' ⟨u, he, ⟨h0, h1⟩, hb⟩
  rw [h] at he
  by_cases q : dithE n seed c = 0
  · obtain ⟨D, E, rfl, _⟩ := h0 q
    exact ⟨_, he, hb⟩
  · rw [h1 q] at he
    exact ⟨_, he, hb⟩
theorem newD_zero {e r : Nat} {seed : Int} {sh : Bool} (h : dithE e seed r = 0) (X : World) : Calls Try.prog 36 #[.int .i64 e, .int .i64 seed, .int .i64 r, .bool sh] X fun y w' => ∃ D E, y = .returned (.tuple #[.pointer (some ⟨D, 0, none⟩), .int .i64 0]) ∧ (X.heap.size ≤ D ∧ X.heap.size ≤ E ∧ DS D E r e sh (seed, List.replicate r 0) w') ∧ Below X.heap.size X w' := by
  refine (newD_any e seed r sh X).mono ?_
  rintro y w' ⟨u, he, ⟨h0, _⟩, hb⟩
  obtain ⟨D, E, rfl, a, b, c⟩ := h0 h
  rw [h] at he
  exact ⟨D, E, he, ⟨a, b, by simpa using c⟩, hb⟩
theorem dencode_as {e : Nat} (h1 : 1 ≤ e) (h4 : e ≤ 4) {D E r n0 Bd : Nat} {sh : Bool} {s : Int × List Int} {m : List (List Int)} {v : Value} {w : World} (hS : DS D E r e sh s w) (hr : m.length = r)
    (hM : ∀ X, Below n0 w X → MatIn X m v) (hv : validB m = true) (hD : n0 ≤ D ∧ D < Bd) (hE : n0 ≤ E ∧ E < Bd) (hBd : Bd ≤ w.heap.size) :
    Calls Try.prog 38 #[.pointer (some ⟨D, 0, none⟩), .bool false, v] w fun y w' => y = .returned (.tuple #[.string (dBytes e sh false m s), .int .i64 0]) ∧ DS D E r e sh (dEnd e sh m s) w' ∧ KpB n0 Bd w w' := by
  subst hr
  exact dencode_yes h1 h4 D E n0 Bd sh false s m v w hS hM hv hD hE hBd


/-- What a block, and its two parts, give two dithers that are alike; what both tell then. -/
theorem three {e : Nat} (h1 : 1 ≤ e) (h4 : e ≤ 4) {r : Nat} (hr1 : 1 ≤ r) (hr8 : r ≤ 8) {sh : Bool} {s0 : Int × List Int} {m x y : List (List Int)} {vm vx vy : Value} (hmr : m.length = r) (hxr : x.length = r) (hyr : y.length = r) (hvm : validB m = true) (hvx : validB x = true) (hvy : validB y = true)
    {W6 W7 W8 : World} {D1 F1 D2 F2 : Nat} (hm6 : MatIn W6 m vm) (hx6 : MatIn W6 x vx) (hy6 : MatIn W6 y vy) (hb7 : Below W6.heap.size W6 W7) (hb8 : Below W7.heap.size W7 W8)
    (p7 : W6.heap.size ≤ D1 ∧ W6.heap.size ≤ F1 ∧ DS D1 F1 r e sh s0 W7) (p8 : W7.heap.size ≤ D2 ∧ W7.heap.size ≤ F2 ∧ DS D2 F2 r e sh s0 W8) :
    Calls Try.prog 38 #[.pointer (some ⟨D1, 0, none⟩), .bool false, vm] W8 fun z W9 => z = .returned (.tuple #[.string (dBytes e sh false m s0), .int .i64 0]) ∧ Below W6.heap.size W6 W9 ∧
      Calls Try.prog 38 #[.pointer (some ⟨D2, 0, none⟩), .bool false, vx] W9 fun z W10 => z = .returned (.tuple #[.string (dBytes e sh false x s0), .int .i64 0]) ∧ Below W6.heap.size W6 W10 ∧
        Calls Try.prog 38 #[.pointer (some ⟨D2, 0, none⟩), .bool false, vy] W10 fun z W11 => z = .returned (.tuple #[.string (dBytes e sh false y (dEnd e sh x s0)), .int .i64 0]) ∧ Below W6.heap.size W6 W11 ∧
          Calls Try.prog 40 #[.pointer (some ⟨D1, 0, none⟩)] W11 fun z W12 => ∃ u, z = .returned u ∧ Below W6.heap.size W6 W12 ∧
            Calls Try.prog 40 #[.pointer (some ⟨D2, 0, none⟩)] W12 fun z W13 => ∃ u2, z = .returned u2 ∧ Below W6.heap.size W6 W13 ∧ RowIn W13 (dEnd e sh m s0).2 u ∧ RowIn W13 (dEnd e sh y (dEnd e sh x s0)).2 u2 := by
  obtain ⟨a1, a2, ds1⟩ := p7
  obtain ⟨c1, c2, ds2⟩ := p8
  have l1 := ds1.top.lt
  have l2 := ds1.row.lt
  have l3 := ds2.top.lt
  have l4 := ds2.row.lt
  have z7 := hb7.size
  have z8 := hb8.size
  have b68 := hb7.trans (hb8.mono z7)
  refine (dencode_as h1 h4 (n0 := W6.heap.size) (Bd := W7.heap.size) (ds1.keep (hb8.block D1 l1) (hb8.block F1 l2)) hmr (fun X hX => hm6.mono (Same.of_below (b68.trans hX))) hvm ⟨a1, l1⟩ ⟨a2, l2⟩ z8).mono ?_
  rintro z W9 ⟨rfl, ds1, k9⟩
  have b69 := b68.trans k9.1
  have z9 := k9.1.size
  have ds2 : DS D2 F2 r e sh s0 W9 := ⟨ds2.top.of_cells k9 c1, ds2.row.of_cells k9 c2, ds2.last, ds2.len, ds2.errs⟩
  refine ⟨rfl, b69, (dencode_as h1 h4 (n0 := W7.heap.size) (Bd := W9.heap.size) ds2 hxr (fun X hX => hx6.mono (Same.of_below (b69.trans (hX.mono z7)))) hvx ⟨c1, by omega⟩ ⟨c2, by omega⟩ (Nat.le_refl _)).mono ?_⟩
  rintro z W10 ⟨rfl, ds2, k10⟩
  have z10 := k10.1.size
  have b610 := b69.trans (k10.1.mono z7)
  have ds1 := ds1.keep (k10.1.block D1 l1) (k10.1.block F1 l2)
  refine ⟨rfl, b610, (dencode_as h1 h4 (n0 := W7.heap.size) (Bd := W10.heap.size) ds2 hyr (fun X hX => hy6.mono (Same.of_below (b610.trans (hX.mono z7)))) hvy ⟨c1, by omega⟩ ⟨c2, by omega⟩ (Nat.le_refl _)).mono ?_⟩
  rintro z W11 ⟨rfl, ds2, k11⟩
  have z11 := k11.1.size
  have b611 := b610.trans (k11.1.mono z7)
  have ds1 := ds1.keep (k11.1.block D1 l1) (k11.1.block F1 l2)
  refine ⟨rfl, b611, (errors_any W11 ds1 hr1 hr8).mono ?_⟩
  rintro z W12 ⟨u, rfl, hu, hb12⟩
  have z12 := hb12.size
  have ds2 := ds2.keep (hb12.block D2 ds2.top.lt) (hb12.block F2 ds2.row.lt)
  refine ⟨u, rfl, b611.trans (hb12.mono (by omega)), (errors_any W12 ds2 hr1 hr8).mono ?_⟩
  rintro z W13 ⟨u2, rfl, hu2, hb13⟩
  exact ⟨u2, rfl, (b611.trans (hb12.mono (by omega))).trans (hb13.mono (by omega)), hu.mono (Same.of_below hb13), hu2⟩

set_option maxHeartbeats 4000000 in
set_option maxRecDepth 100000 in
theorem apart_inv (n seed at' : Int) (sh : Bool) (m : List (List Int)) (v : Value) (w : World) (hM : MatIn w m v) (hv : validB m = false) :
    Calls Try.prog 9 #[.int .i64 n, .int .i64 seed, .bool sh, v, .int .i64 at'] w fun e w' => e = .returned (.bool true) ∧ Below w.heap.size w w' := by
  have h19 := light_any m v w hM
  have hva := refValidBlock_any m v w hM
  have HAW := Lib.hid awake_any
  obtain ⟨a, ca, rfl, hin, hal, _⟩ := id hM
  rw [hv] at hva
  clear hv hM hin
  go_enter Try.func9, Try.ntmps9
  go_wp2_with (go_at_call 19; (with_reducible refine h19.mono ?_); rintro e w1 ⟨sb, rfl, rfl⟩; cases sb)
  · go_wp2_with (go_at_call 18; (with_reducible refine (HAW.out _).mono ?_); rintro e wz ⟨rfl, hbz⟩; have HZ := Lib.hid hbz; clear hbz)
    go_ret
    exact ⟨rfl, HZ.out⟩
  · go_wp2_with (first
      | (go_at_call 42; (with_reducible refine hva.mono ?_); rintro e w1 ⟨rfl, hb1⟩; have HB1 := Lib.hid hb1; clear hb1)
      | (go_at_call 18; (with_reducible refine (HAW.out _).mono ?_); rintro e wz ⟨rfl, hbz⟩; have HZ := Lib.hid hbz; clear hbz))
    go_ret
    exact ⟨rfl, Below.then HB1.out (Nat.le_refl _) HZ.out⟩
set_option maxHeartbeats 4000000 in
set_option maxRecDepth 100000 in
theorem apart_none (n seed at' : Int) (sh : Bool) (m : List (List Int)) (v : Value) (w : World) (hM : MatIn w m v) (hv : validB m = true) (N : Nat) (hN : (N : Int) = at' % 16777216 % ((cols m : Int) + 1)) (K : Int) (T U : ByteArray) (k : Int) (hS : encA n false m = (T ++ U, k)) (hT : encA n false (partM m 0 N) = (T, k)) (hU : encA n false (partM m N (cols m)) = (U, k)) (hTU : T.size + U.size ≤ 200000) (hK : dithE n seed m.length = K) (hK0 : K ≠ 0) :
    Calls Try.prog 9 #[.int .i64 n, .int .i64 seed, .bool sh, v, .int .i64 at'] w fun e w' => e = .returned (.bool true) ∧ Below w.heap.size w w' := by
  have h19 := light_any m v w hM
  have hva := refValidBlock_any m v w hM
  have HAW := Lib.hid awake_any
  obtain ⟨a, ca, rfl, hin, hal, _⟩ := id hM
  rw [hv] at hva
  obtain ⟨hr1, hr8, hc4, hc⟩ := validB_parts hv
  obtain ⟨b0, o0, u0, rfl, hc0, hu0⟩ := hin 0 (by omega)
  obtain ⟨a0, ca0, rfl, _, _, _⟩ := hu0
  rw [hc 0 (by omega), Nat.add_zero] at hc0
  have hposI : (0 : Int) < (m.length : Int) := by omega
  have hposN : 0 < m.length := by omega
  have hand := and24 at'
  obtain ⟨A, hA⟩ : ∃ A, at' % 16777216 = A := ⟨_, rfl⟩
  rw [hA] at hand
  have hA0 : 0 ≤ A ∧ A < 16777216 := by omega
  have hrem : A.tmod ((cols m : Int) + 1) = (N : Int) := by rw [Int.tmod_eq_emod_of_nonneg hA0.1, ← hA]; exact hN.symm
  have hNle : N ≤ cols m := by have := Int.emod_lt_of_pos (at' % 16777216) (show (0:Int) < (cols m : Int) + 1 by omega); omega
  have HP0 := Lib.hid (fun X (h : Below w.heap.size w X) => part_any m _ X (hM.mono (Same.of_below h)) hr8 0 N (Nat.zero_le _) (fun k hk => by rw [hc k hk]; exact hNle) (by omega))
  have HP1 := Lib.hid (fun X (h : Below w.heap.size w X) => part_any m _ X (hM.mono (Same.of_below h)) hr8 N (cols m) hNle (fun k hk => by rw [hc k hk]; exact Nat.le_refl _) hc4)
  have HM := Lib.hid hM
  have HV := Lib.hid hv
  have HN := Lib.hid hNle
  obtain ⟨c, hcc⟩ : ∃ c, cols m = c := ⟨_, rfl⟩
  have HCC := Lib.hid hcc
  rw [hcc] at hc0 hrem hc4 HP1
  clear hM hin hc hv hcc hN hA hNle
  go_enter Try.func9, Try.ntmps9
  go_wp2_with (go_at_call 19; (with_reducible refine h19.mono ?_); rintro e w1 ⟨sb, rfl, rfl⟩; cases sb)
  · go_wp2_with (go_at_call 18; (with_reducible refine (HAW.out _).mono ?_); rintro e wz ⟨rfl, hbz⟩; have HZ := Lib.hid hbz; clear hbz)
    go_ret
    exact ⟨rfl, HZ.out⟩
  go_wp2_with (go_at_call 42; (with_reducible refine hva.mono ?_); rintro e w1 ⟨rfl, hb1⟩; have hc1 := (Same.of_below hb1).cell hc0; have HB1 := Lib.hid hb1; clear hb1)
  have S0 : Below w.heap.size w w1.drew := HB1.out.drew
  refine region_T (S := fun wx => Below w.heap.size w wx) [] (by kernel_rfl) S0 (fun _ => ?_)
  refine anyT_take (i := 0) (v := ?_) rfl (by kernel_rfl) (by kernel_rfl) (by kernel_rfl) (by kernel_rfl) (fun _ _ _ h => h) (Or.inl ⟨by rfl, ?_⟩) (S0) ?_
  rotate_left
  focus ((intro wq hSw; have z1 := (Same.of_below hSw).cell hc0; go_simp); try with_reducible rfl)
  try simp only [Act.put, List.getElem_toArray, List.getElem_cons_succ, List.getElem_cons_zero, List.setIfInBounds_toArray, List.set_cons_zero, List.set_cons_succ]
  refine anyT_take (i := 1) (v := ?_) rfl (by kernel_rfl) (by kernel_rfl) (by kernel_rfl) (by kernel_rfl) (fun _ _ _ h => h) (Or.inl ⟨by rfl, ?_⟩) (S0) ?_
  rotate_left
  focus ((intro wq hSw; have z1 := (Same.of_below hSw).cell hc0; go_simp); try with_reducible rfl)
  try simp only [Act.put, List.getElem_toArray, List.getElem_cons_succ, List.getElem_cons_zero, List.setIfInBounds_toArray, List.set_cons_zero, List.set_cons_succ]
  refine anyT_take (i := 3) (v := ?_) rfl (by kernel_rfl) (by kernel_rfl) (by kernel_rfl) (by kernel_rfl) (fun _ _ _ h => h) (Or.inl ⟨by rfl, ?_⟩) (S0) ?_
  rotate_left
  focus ((intro wq hSw; have z1 := (Same.of_below hSw).cell hc0; go_simp); try with_reducible rfl)
  try simp only [Act.put, List.getElem_toArray, List.getElem_cons_succ, List.getElem_cons_zero, List.setIfInBounds_toArray, List.set_cons_zero, List.set_cons_succ]
  refine anyT_take (i := 4) (v := ?_) rfl (by kernel_rfl) (by kernel_rfl) (by kernel_rfl) (by kernel_rfl) (fun _ _ _ h => h) (Or.inl ⟨by rfl, ?_⟩) (S0) ?_
  rotate_left
  focus ((intro wq hSw; have z1 := (Same.of_below hSw).cell hc0; go_simp); try with_reducible rfl)
  try simp only [Act.put, List.getElem_toArray, List.getElem_cons_succ, List.getElem_cons_zero, List.setIfInBounds_toArray, List.set_cons_zero, List.set_cons_succ]
  refine anyT_take (i := 5) (v := ?_) rfl (by kernel_rfl) (by kernel_rfl) (by kernel_rfl) (by kernel_rfl) (fun _ _ _ h => h) (Or.inl ⟨by rfl, ?_⟩) (S0) ?_
  rotate_left
  focus ((intro wq hSw; have z1 := (Same.of_below hSw).cell hc0; go_simp); try with_reducible rfl)
  try simp only [Act.put, List.getElem_toArray, List.getElem_cons_succ, List.getElem_cons_zero, List.setIfInBounds_toArray, List.set_cons_zero, List.set_cons_succ]
  refine anyT_take (i := 6) (v := ?_) rfl (by kernel_rfl) (by kernel_rfl) (by kernel_rfl) (by kernel_rfl) (fun _ _ _ h => h) (Or.inl ⟨by rfl, ?_⟩) (S0) ?_
  rotate_left
  focus ((intro wq hSw; have z1 := (Same.of_below hSw).cell hc0; go_simp); try with_reducible rfl)
  try simp only [Act.put, List.getElem_toArray, List.getElem_cons_succ, List.getElem_cons_zero, List.setIfInBounds_toArray, List.set_cons_zero, List.set_cons_succ]
  refine anyT_take (i := 7) (v := ?_) rfl (by kernel_rfl) (by kernel_rfl) (by kernel_rfl) (by kernel_rfl) (fun _ _ _ h => h) (Or.inl ⟨by rfl, ?_⟩) (S0) ?_
  rotate_left
  focus ((intro wq hSw; have z1 := (Same.of_below hSw).cell hc0; go_simp); try with_reducible rfl)
  try simp only [Act.put, List.getElem_toArray, List.getElem_cons_succ, List.getElem_cons_zero, List.setIfInBounds_toArray, List.set_cons_zero, List.set_cons_succ]
  refine anyT_take (i := 8) (v := ?_) rfl (by kernel_rfl) (by kernel_rfl) (by kernel_rfl) (by kernel_rfl) (fun _ _ _ h => h) (Or.inl ⟨by rfl, ?_⟩) (S0) ?_
  rotate_left
  focus ((intro wq hSw; have z1 := (Same.of_below hSw).cell hc0; go_simp); try with_reducible rfl)
  try simp only [Act.put, List.getElem_toArray, List.getElem_cons_succ, List.getElem_cons_zero, List.setIfInBounds_toArray, List.set_cons_zero, List.set_cons_succ]
  refine anyT_one (i := 2) (by kernel_rfl) rfl (fun K hK => ?_)
  go_simp
  refine (HP0.out _ S0).mono ?_
  rintro y W2 ⟨ux, rfl, hx, hb⟩
  have S2 : Below w.heap.size w W2 := Below.then S0 (Nat.le_refl _) hb
  have hx2 := hx.here
  go_simp
  refine hK.out _ _ (fun _ => S2) ?_
  clear hK K
  try simp only [Act.put, List.getElem_toArray, List.getElem_cons_succ, List.getElem_cons_zero, List.setIfInBounds_toArray, List.set_cons_zero, List.set_cons_succ]
  refine anyT_one (i := 9) (by kernel_rfl) rfl (fun K hK => ?_)
  go_simp
  refine (HP1.out _ S2).mono ?_
  rintro y W3 ⟨uy, rfl, hy, hb3⟩
  have S3 : Below w.heap.size w W3 := Below.then S2 (Nat.le_refl _) hb3
  have HX3 := Lib.hid (hx2.mono (Same.of_below hb3))
  have HY3 := Lib.hid hy.here
  have HM3 := Lib.hid (HM.out.mono (Same.of_below S3))
  clear hx hx2 hy hb hb3
  go_simp
  refine hK.out _ _ (fun _ => S3) ?_
  clear hK K
  try simp only [Act.put, List.getElem_toArray, List.getElem_cons_succ, List.getElem_cons_zero, List.setIfInBounds_toArray, List.set_cons_zero, List.set_cons_succ]
  refine anyT_take (i := 10) (v := ?_) rfl (by kernel_rfl) (by kernel_rfl) (by kernel_rfl) (by kernel_rfl) (fun _ _ _ h => h) (Or.inl ⟨by rfl, ?_⟩) (S3) ?_
  rotate_left
  focus ((intro wq hSw; skip; go_simp); try with_reducible rfl)
  try simp only [Act.put, List.getElem_toArray, List.getElem_cons_succ, List.getElem_cons_zero, List.setIfInBounds_toArray, List.set_cons_zero, List.set_cons_succ]
  refine anyT_take (i := 11) (v := ?_) rfl (by kernel_rfl) (by kernel_rfl) (by kernel_rfl) (by kernel_rfl) (fun _ _ _ h => h) (Or.inl ⟨by rfl, ?_⟩) (S3) ?_
  rotate_left
  focus ((intro wq hSw; skip; go_simp); try with_reducible rfl)
  try simp only [Act.put, List.getElem_toArray, List.getElem_cons_succ, List.getElem_cons_zero, List.setIfInBounds_toArray, List.set_cons_zero, List.set_cons_succ]
  refine anyT_done (by kernel_rfl) ?_ _
  obtain ⟨_, _, rfl, _, _, _⟩ := id HX3.out
  obtain ⟨_, _, rfl, _, _, _⟩ := id HY3.out
  have HB3 := Lib.hid S3
  clear hc0 hc1 S0 S2 S3 hand hrem hA0
  rw [HCC.out] at hU
  have HS := Lib.hid hS
  have HT := Lib.hid hT
  have HU := Lib.hid hU
  have HK := Lib.hid hK
  have hk0 : (K != 0) = true := by simpa using hK0
  clear hS hT hU hK hK0
  go_wp2_with (first
    | (go_at_call 20; (with_reducible refine (enc_as HS.out _ HM3.out).mono ?_); rintro e W4 ⟨rfl, hb⟩; have B4 := Lib.hid (Below.then HB3.out (Nat.le_refl _) hb); have X4 := Lib.hid (And.intro (HX3.out.mono (Same.of_below hb)) (And.intro (HY3.out.mono (Same.of_below hb)) (HM3.out.mono (Same.of_below hb)))); clear hb)
    | (go_at_call 20; (with_reducible refine (enc_as HT.out _ X4.out.1).mono ?_); rintro e W5 ⟨rfl, hb⟩; have B5 := Lib.hid (Below.then B4.out (Nat.le_refl _) hb); have X5 := Lib.hid (And.intro (X4.out.1.mono (Same.of_below hb)) (And.intro (X4.out.2.1.mono (Same.of_below hb)) (X4.out.2.2.mono (Same.of_below hb)))); clear hb)
    | (go_at_call 20; (with_reducible refine (enc_as HU.out _ X5.out.2.1).mono ?_); rintro e W6 ⟨rfl, hb⟩; have B6 := Lib.hid (Below.then B5.out (Nat.le_refl _) hb); have X6 := Lib.hid (And.intro (X5.out.1.mono (Same.of_below hb)) (And.intro (X5.out.2.1.mono (Same.of_below hb)) (X5.out.2.2.mono (Same.of_below hb)))); clear hb)
    | (go_at_call 36; (with_reducible refine (newD_as HK.out W6).mono ?_); rintro e W7 ⟨ap, rfl, hb⟩; have B7 := Lib.hid (Below.then B6.out (Nat.le_refl _) hb); clear hb)
    | (go_at_call 36; (with_reducible refine (newD_as HK.out W7).mono ?_); rintro e W8 ⟨aq, rfl, hb⟩; have B8 := Lib.hid (Below.then B7.out (Nat.le_refl _) hb); clear hb)
    | (go_at_call 18; (with_reducible refine (HAW.out _).mono ?_); rintro e wz ⟨rfl, hbz⟩; have HZ := Lib.hid hbz; clear hbz))
  go_ret
  exact ⟨rfl, Below.then B8.out (Nat.le_refl _) HZ.out⟩

set_option maxHeartbeats 4000000 in
set_option maxRecDepth 100000 in
theorem apart_ok (n seed at' : Int) (sh : Bool) (m : List (List Int)) (v : Value) (w : World) (hM : MatIn w m v) (hv : validB m = true) (N : Nat) (hN : (N : Int) = at' % 16777216 % ((cols m : Int) + 1)) (T U : ByteArray) (k : Int) (hS : encA n false m = (T ++ U, k)) (hT : encA n false (partM m 0 N) = (T, k)) (hU : encA n false (partM m N (cols m)) = (U, k)) (hTU : T.size + U.size ≤ 200000) (e : Nat) (h1 : 1 ≤ e) (h4 : e ≤ 4) (he : n = e) (hK : dithE e seed m.length = 0) :
    Calls Try.prog 9 #[.int .i64 n, .int .i64 seed, .bool sh, v, .int .i64 at'] w fun e w' => e = .returned (.bool true) ∧ Below w.heap.size w w' := by
  have h19 := light_any m v w hM
  have hva := refValidBlock_any m v w hM
  have HAW := Lib.hid awake_any
  obtain ⟨a, ca, rfl, hin, hal, _⟩ := id hM
  rw [hv] at hva
  obtain ⟨hr1, hr8, hc4, hc⟩ := validB_parts hv
  obtain ⟨b0, o0, u0, rfl, hc0, hu0⟩ := hin 0 (by omega)
  obtain ⟨a0, ca0, rfl, _, _, _⟩ := hu0
  rw [hc 0 (by omega), Nat.add_zero] at hc0
  have hposI : (0 : Int) < (m.length : Int) := by omega
  have hposN : 0 < m.length := by omega
  have hand := and24 at'
  obtain ⟨A, hA⟩ : ∃ A, at' % 16777216 = A := ⟨_, rfl⟩
  rw [hA] at hand
  have hA0 : 0 ≤ A ∧ A < 16777216 := by omega
  have hrem : A.tmod ((cols m : Int) + 1) = (N : Int) := by rw [Int.tmod_eq_emod_of_nonneg hA0.1, ← hA]; exact hN.symm
  have hNle : N ≤ cols m := by have := Int.emod_lt_of_pos (at' % 16777216) (show (0:Int) < (cols m : Int) + 1 by omega); omega
  have HP0 := Lib.hid (fun X (h : Below w.heap.size w X) => part_any m _ X (hM.mono (Same.of_below h)) hr8 0 N (Nat.zero_le _) (fun k hk => by rw [hc k hk]; exact hNle) (by omega))
  have HP1 := Lib.hid (fun X (h : Below w.heap.size w X) => part_any m _ X (hM.mono (Same.of_below h)) hr8 N (cols m) hNle (fun k hk => by rw [hc k hk]; exact Nat.le_refl _) hc4)
  have HM := Lib.hid hM
  have HV := Lib.hid hv
  have HN := Lib.hid hNle
  obtain ⟨c, hcc⟩ : ∃ c, cols m = c := ⟨_, rfl⟩
  have HCC := Lib.hid hcc
  rw [hcc] at hc0 hrem hc4 HP1
  clear hM hin hc hv hcc hN hA hNle
  go_enter Try.func9, Try.ntmps9
  go_wp2_with (go_at_call 19; (with_reducible refine h19.mono ?_); rintro e w1 ⟨sb, rfl, rfl⟩; cases sb)
  · go_wp2_with (go_at_call 18; (with_reducible refine (HAW.out _).mono ?_); rintro e wz ⟨rfl, hbz⟩; have HZ := Lib.hid hbz; clear hbz)
    go_ret
    exact ⟨rfl, HZ.out⟩
  go_wp2_with (go_at_call 42; (with_reducible refine hva.mono ?_); rintro e w1 ⟨rfl, hb1⟩; have hc1 := (Same.of_below hb1).cell hc0; have HB1 := Lib.hid hb1; clear hb1)
  have S0 : Below w.heap.size w w1.drew := HB1.out.drew
  refine region_T (S := fun wx => Below w.heap.size w wx) [] (by kernel_rfl) S0 (fun _ => ?_)
  refine anyT_take (i := 0) (v := ?_) rfl (by kernel_rfl) (by kernel_rfl) (by kernel_rfl) (by kernel_rfl) (fun _ _ _ h => h) (Or.inl ⟨by rfl, ?_⟩) (S0) ?_
  rotate_left
  focus ((intro wq hSw; have z1 := (Same.of_below hSw).cell hc0; go_simp); try with_reducible rfl)
  try simp only [Act.put, List.getElem_toArray, List.getElem_cons_succ, List.getElem_cons_zero, List.setIfInBounds_toArray, List.set_cons_zero, List.set_cons_succ]
  refine anyT_take (i := 1) (v := ?_) rfl (by kernel_rfl) (by kernel_rfl) (by kernel_rfl) (by kernel_rfl) (fun _ _ _ h => h) (Or.inl ⟨by rfl, ?_⟩) (S0) ?_
  rotate_left
  focus ((intro wq hSw; have z1 := (Same.of_below hSw).cell hc0; go_simp); try with_reducible rfl)
  try simp only [Act.put, List.getElem_toArray, List.getElem_cons_succ, List.getElem_cons_zero, List.setIfInBounds_toArray, List.set_cons_zero, List.set_cons_succ]
  refine anyT_take (i := 3) (v := ?_) rfl (by kernel_rfl) (by kernel_rfl) (by kernel_rfl) (by kernel_rfl) (fun _ _ _ h => h) (Or.inl ⟨by rfl, ?_⟩) (S0) ?_
  rotate_left
  focus ((intro wq hSw; have z1 := (Same.of_below hSw).cell hc0; go_simp); try with_reducible rfl)
  try simp only [Act.put, List.getElem_toArray, List.getElem_cons_succ, List.getElem_cons_zero, List.setIfInBounds_toArray, List.set_cons_zero, List.set_cons_succ]
  refine anyT_take (i := 4) (v := ?_) rfl (by kernel_rfl) (by kernel_rfl) (by kernel_rfl) (by kernel_rfl) (fun _ _ _ h => h) (Or.inl ⟨by rfl, ?_⟩) (S0) ?_
  rotate_left
  focus ((intro wq hSw; have z1 := (Same.of_below hSw).cell hc0; go_simp); try with_reducible rfl)
  try simp only [Act.put, List.getElem_toArray, List.getElem_cons_succ, List.getElem_cons_zero, List.setIfInBounds_toArray, List.set_cons_zero, List.set_cons_succ]
  refine anyT_take (i := 5) (v := ?_) rfl (by kernel_rfl) (by kernel_rfl) (by kernel_rfl) (by kernel_rfl) (fun _ _ _ h => h) (Or.inl ⟨by rfl, ?_⟩) (S0) ?_
  rotate_left
  focus ((intro wq hSw; have z1 := (Same.of_below hSw).cell hc0; go_simp); try with_reducible rfl)
  try simp only [Act.put, List.getElem_toArray, List.getElem_cons_succ, List.getElem_cons_zero, List.setIfInBounds_toArray, List.set_cons_zero, List.set_cons_succ]
  refine anyT_take (i := 6) (v := ?_) rfl (by kernel_rfl) (by kernel_rfl) (by kernel_rfl) (by kernel_rfl) (fun _ _ _ h => h) (Or.inl ⟨by rfl, ?_⟩) (S0) ?_
  rotate_left
  focus ((intro wq hSw; have z1 := (Same.of_below hSw).cell hc0; go_simp); try with_reducible rfl)
  try simp only [Act.put, List.getElem_toArray, List.getElem_cons_succ, List.getElem_cons_zero, List.setIfInBounds_toArray, List.set_cons_zero, List.set_cons_succ]
  refine anyT_take (i := 7) (v := ?_) rfl (by kernel_rfl) (by kernel_rfl) (by kernel_rfl) (by kernel_rfl) (fun _ _ _ h => h) (Or.inl ⟨by rfl, ?_⟩) (S0) ?_
  rotate_left
  focus ((intro wq hSw; have z1 := (Same.of_below hSw).cell hc0; go_simp); try with_reducible rfl)
  try simp only [Act.put, List.getElem_toArray, List.getElem_cons_succ, List.getElem_cons_zero, List.setIfInBounds_toArray, List.set_cons_zero, List.set_cons_succ]
  refine anyT_take (i := 8) (v := ?_) rfl (by kernel_rfl) (by kernel_rfl) (by kernel_rfl) (by kernel_rfl) (fun _ _ _ h => h) (Or.inl ⟨by rfl, ?_⟩) (S0) ?_
  rotate_left
  focus ((intro wq hSw; have z1 := (Same.of_below hSw).cell hc0; go_simp); try with_reducible rfl)
  try simp only [Act.put, List.getElem_toArray, List.getElem_cons_succ, List.getElem_cons_zero, List.setIfInBounds_toArray, List.set_cons_zero, List.set_cons_succ]
  refine anyT_one (i := 2) (by kernel_rfl) rfl (fun K hK => ?_)
  go_simp
  refine (HP0.out _ S0).mono ?_
  rintro y W2 ⟨ux, rfl, hx, hb⟩
  have S2 : Below w.heap.size w W2 := Below.then S0 (Nat.le_refl _) hb
  have hx2 := hx.here
  go_simp
  refine hK.out _ _ (fun _ => S2) ?_
  clear hK K
  try simp only [Act.put, List.getElem_toArray, List.getElem_cons_succ, List.getElem_cons_zero, List.setIfInBounds_toArray, List.set_cons_zero, List.set_cons_succ]
  refine anyT_one (i := 9) (by kernel_rfl) rfl (fun K hK => ?_)
  go_simp
  refine (HP1.out _ S2).mono ?_
  rintro y W3 ⟨uy, rfl, hy, hb3⟩
  have S3 : Below w.heap.size w W3 := Below.then S2 (Nat.le_refl _) hb3
  have HX3 := Lib.hid (hx2.mono (Same.of_below hb3))
  have HY3 := Lib.hid hy.here
  have HM3 := Lib.hid (HM.out.mono (Same.of_below S3))
  clear hx hx2 hy hb hb3
  go_simp
  refine hK.out _ _ (fun _ => S3) ?_
  clear hK K
  try simp only [Act.put, List.getElem_toArray, List.getElem_cons_succ, List.getElem_cons_zero, List.setIfInBounds_toArray, List.set_cons_zero, List.set_cons_succ]
  refine anyT_take (i := 10) (v := ?_) rfl (by kernel_rfl) (by kernel_rfl) (by kernel_rfl) (by kernel_rfl) (fun _ _ _ h => h) (Or.inl ⟨by rfl, ?_⟩) (S3) ?_
  rotate_left
  focus ((intro wq hSw; skip; go_simp); try with_reducible rfl)
  try simp only [Act.put, List.getElem_toArray, List.getElem_cons_succ, List.getElem_cons_zero, List.setIfInBounds_toArray, List.set_cons_zero, List.set_cons_succ]
  refine anyT_take (i := 11) (v := ?_) rfl (by kernel_rfl) (by kernel_rfl) (by kernel_rfl) (by kernel_rfl) (fun _ _ _ h => h) (Or.inl ⟨by rfl, ?_⟩) (S3) ?_
  rotate_left
  focus ((intro wq hSw; skip; go_simp); try with_reducible rfl)
  try simp only [Act.put, List.getElem_toArray, List.getElem_cons_succ, List.getElem_cons_zero, List.setIfInBounds_toArray, List.set_cons_zero, List.set_cons_succ]
  refine anyT_done (by kernel_rfl) ?_ _
  obtain ⟨_, _, rfl, _, _, _⟩ := id HX3.out
  obtain ⟨_, _, rfl, _, _, _⟩ := id HY3.out
  have HB3 := Lib.hid S3
  clear hc0 hc1 S0 S2 S3 hand hrem hA0
  subst he
  rw [HCC.out] at hU
  have hV0 := part_valid0 HV.out HN.out
  have hV1 := part_valid1 HV.out HN.out
  have hdc := dith_cut HV.out HN.out e sh (seed, List.replicate m.length 0)
  rw [HCC.out] at hV1 hdc
  have HS := Lib.hid hS
  have HT := Lib.hid hT
  have HU := Lib.hid hU
  have HK := Lib.hid hK
  have HDC := Lib.hid hdc
  have HV0 := Lib.hid hV0
  have HV1 := Lib.hid hV1
  have HSR := Lib.hid sameRow_self
  have hbs : (dBytes e sh false (partM m 0 N) (seed, List.replicate m.length 0)).size + (dBytes e sh false (partM m N c) (dEnd e sh (partM m 0 N) (seed, List.replicate m.length 0))).size ≤ 200000 := by
    have q0 := laidL_size e false (partM m 0 N).length (cols (partM m 0 N)) (dLV e sh (partM m 0 N) (seed, List.replicate m.length 0)) (cols (partM m 0 N) * (partM m 0 N).length)
    have q1 := laidL_size e false (partM m N c).length (cols (partM m N c)) (dLV e sh (partM m N c) (dEnd e sh (partM m 0 N) (seed, List.replicate m.length 0))) (cols (partM m N c) * (partM m N c).length)
    have p0 := size_small (validB_parts HV0.out) h1 h4
    have p1 := size_small (validB_parts HV1.out) h1 h4
    unfold dBytes
    omega
  clear hS hT hU hK hdc hV0 hV1
  go_wp2_with (first
    | (go_at_call 20; (with_reducible refine (enc_as HS.out _ HM3.out).mono ?_); rintro e W4 ⟨rfl, hb⟩; have B4 := Lib.hid (Below.then HB3.out (Nat.le_refl _) hb); have X4 := Lib.hid (And.intro (HX3.out.mono (Same.of_below hb)) (And.intro (HY3.out.mono (Same.of_below hb)) (HM3.out.mono (Same.of_below hb)))); clear hb)
    | (go_at_call 20; (with_reducible refine (enc_as HT.out _ X4.out.1).mono ?_); rintro e W5 ⟨rfl, hb⟩; have B5 := Lib.hid (Below.then B4.out (Nat.le_refl _) hb); have X5 := Lib.hid (And.intro (X4.out.1.mono (Same.of_below hb)) (And.intro (X4.out.2.1.mono (Same.of_below hb)) (X4.out.2.2.mono (Same.of_below hb)))); clear hb)
    | (go_at_call 20; (with_reducible refine (enc_as HU.out _ X5.out.2.1).mono ?_); rintro e W6 ⟨rfl, hb⟩; have B6 := Lib.hid (Below.then B5.out (Nat.le_refl _) hb); have X6 := Lib.hid (And.intro (X5.out.1.mono (Same.of_below hb)) (And.intro (X5.out.2.1.mono (Same.of_below hb)) (X5.out.2.2.mono (Same.of_below hb)))); clear hb)
    | (go_at_call 36; (with_reducible refine (newD_zero HK.out W6).mono ?_); rintro z W7 ⟨D1, F1, rfl, p7, hb⟩; have B7 := Lib.hid hb; have P7 := Lib.hid p7; clear hb p7)
    | (go_at_call 36; (with_reducible refine (newD_zero HK.out W7).mono ?_); rintro z W8 ⟨D2, F2, rfl, p8, hb⟩; have q8 := three h1 h4 hr1 hr8 rfl (partM_len m 0 N) (partM_len m N c) HV.out HV0.out HV1.out X6.out.2.2 X6.out.1 X6.out.2.1 B7.out hb P7.out p8; rw [HDC.out.1] at q8; have C8 := Lib.hid q8; clear hb p8 q8)
    | (go_at_call 38; (with_reducible refine C8.out.mono ?_); rintro z W9 ⟨rfl, _, hc⟩; have C9 := Lib.hid hc; clear hc)
    | (go_at_call 38; (with_reducible refine C9.out.mono ?_); rintro z W10 ⟨rfl, _, hc⟩; have C10 := Lib.hid hc; clear hc)
    | (go_at_call 38; (with_reducible refine C10.out.mono ?_); rintro z W11 ⟨rfl, _, hc⟩; have C11 := Lib.hid hc; clear hc)
    | (go_at_call 40; (with_reducible refine C11.out.mono ?_); rintro z W12 ⟨u1, rfl, _, hc⟩; have C12 := Lib.hid hc; clear hc)
    | (go_at_call 40; (with_reducible refine C12.out.mono ?_); rintro z W13 ⟨u2, rfl, hb, hu, hu2⟩; have B13 := Lib.hid (Below.then B6.out (Nat.le_refl _) hb); have R13 := Lib.hid (And.intro hu (show RowIn W13 (dEnd e sh m (seed, List.replicate m.length 0)).2 u2 from by rw [HDC.out.2]; exact hu2)); clear hb hu hu2)
    | (go_at_call 26; (with_reducible refine (HSR.out _ _ _ _ R13.out.1 R13.out.2).mono ?_); rintro z W14 ⟨rfl, hb⟩; have B14 := Lib.hid (Below.then B13.out (Nat.le_refl _) hb); clear hb)
    | (go_at_call 18; (with_reducible refine (HAW.out _).mono ?_); rintro e wz ⟨rfl, hbz⟩; have HZ := Lib.hid hbz; clear hbz))
  go_ret
  exact ⟨rfl, Below.then B14.out (Nat.le_refl _) HZ.out⟩

end Go.Proofs.Ytegomicpolnpoaa
